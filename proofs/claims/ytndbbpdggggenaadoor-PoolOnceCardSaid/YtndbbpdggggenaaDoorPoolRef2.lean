/-
  Contracts of the document's pool: Grab, Row.
-/
import Derived.Test.YtndbbpdggggenaaDoorPoolSame
namespace Go.Proofs.YtndbbpdggggenaaDoor
open Go.RowKit
namespace Po
open Mem Bt

/-- what the document's Grab answers: the places, those given out, and no error -/
def Gave (w w' : World) (B n k : Nat) (tb : List Bool) (e : Ending) : Prop := ∃ h' c' A c2 t l, e = .returned (.tuple #[.slice (some ⟨h', 0, none⟩) n c', .slice A k c2, .int .i64 0]) ∧ Got tb k t l ∧ BoolAt w' h' c' n t ∧ VO 23 w' w.heap.size A c2 (l.map u32V) ∧ B ≤ h' ∧ Below w.heap.size w w'
theorem RGrab_neg (h c n : Nat) (k : Int) (w : World) (hk : k < 0) : Calls Tryd.prog 11 #[.slice (some ⟨h, 0, none⟩) n c, .int .i64 k] w fun e w' => e = .returned (.tuple #[.slice (some ⟨h, 0, none⟩) n c, .slice none 0 0, .int .i64 2]) ∧ w = w' := by
  go_enter Tryd.func11, Tryd.ntmps11
  go_wp2
  exact bodyPost_ret (v := .tuple #[.slice (some ⟨h, 0, none⟩) n c, .slice none 0 0, .int .i64 2]) (by simp [results, Tryd.results11, go_sem]) rfl ⟨rfl, rfl⟩
theorem RGrab_full (h c n : Nat) (tb : List Bool) (k : Int) (w : World) (H : BoolAt w h c n tb) (hn : n ≤ 1048576) (hk : 0 ≤ k) (hf : (free tb : Int) < k) : Calls Tryd.prog 11 #[.slice (some ⟨h, 0, none⟩) n c, .int .i64 k] w fun e w' => e = .returned (.tuple #[.slice (some ⟨h, 0, none⟩) n c, .slice none 0 0, .int .i64 11]) ∧ w = w' := by
  have cF := Lib.hid (RFree_any h c n tb w H hn)
  generalize free tb = f at *
  clear H
  go_enter Tryd.func11, Tryd.ntmps11
  go_wp2_with (go_at_call 21; refine cF.out.mono ?_; rintro e w' ⟨rfl, rfl⟩)
  exact bodyPost_ret (v := .tuple #[.slice (some ⟨h, 0, none⟩) n c, .slice none 0 0, .int .i64 11]) (by simp [results, Tryd.results11, go_sem]) rfl ⟨rfl, rfl⟩

/-- round p of the loop: the free ones ahead of p are taken -/
structure Grb (w wr : World) (B n : Nat) (tb : List Bool) (h' c' : Nat) (A : Option Addr) (c2 p : Nat) : Prop where
  bo : BoolAt wr h' c' n (fill tb p)
  vo : VO 23 wr w.heap.size A c2 ((frs tb p).map u32V)
  hB : B ≤ h'
  bel : Below w.heap.size w wr
section
variable {w wr w1 w2 w3 : World} {B n : Nat} {tb : List Bool} {h' c' : Nat} {A : Option Addr} {c2 p : Nat}
theorem Grb.skip (H : Grb w wr B n tb h' c' A c2 p) (hl : tb.length = n) (hp : p < n) (hv : tb.getD p false = true) : Grb w wr B n tb h' c' A c2 (p + 1) ∧ frs tb (p + 1) = frs tb p := by
  obtain ⟨e1, e2⟩ := fill_full tb p 1 (by omega) fun j h1 h2 => by
    obtain rfl : j = p := by omega
    exact hv
  exact ⟨⟨by rw [e1]; exact H.bo, by rw [e2]; exact H.vo, H.hB, H.bel⟩, e2⟩
theorem Grb.take (H : Grb w wr B n tb h' c' A c2 p) {h2 c3 : Nat} {A' : Option Addr} {c4 : Nat} (hv : tb.getD p false = false) (hB : B ≤ w.heap.size)
    (ho : BoolAt w1 h2 c3 n ((fill tb p).set p true)) (hh : wr.heap.size ≤ h2) (hb : Below wr.heap.size wr w1) (hx : Below w1.heap.size w1 w2) (hd : Appd 23 w.heap.size w2 w3 A A' c4 ((frs tb p).map u32V ++ [.int .u32 (p : Int)])) :
    Grb w w3 B n tb h2 c3 A' c4 (p + 1) ∧ (frs tb (p + 1)).length = (frs tb p).length + 1 := by
  have e : frs tb (p + 1) = frs tb p ++ [p] := by
    show frs tb p ++ (if tb.getD p false then [] else [p]) = _
    rw [hv]; rfl
  have ho2 := ho.kept hx
  have hv2 := (H.vo.kept hb).kept hx
  have hne := vo_ne_ow hv2 ho2.ow (by decide)
  refine ⟨⟨⟨ho2.ow.keep (hd.block _ ho2.ow.lt hne), ho2.len⟩, by rw [e, List.map_append]; exact hd.vo, Nat.le_trans (Nat.le_trans hB H.bel.size) hh, ?_⟩, by rw [e, List.length_append]; rfl⟩
  have hs := H.bel.size
  exact ((H.bel.trans (hb.mono hs)).trans (hx.mono (Nat.le_trans hs hb.size))).trans hd.below
end
set_option maxHeartbeats 1000000 in
theorem RGrab_ok (h c n k : Nat) (tb : List Bool) (w : World) (H : BoolAt w h c n tb) (hn : n ≤ 65536) (hf : k ≤ free tb) (B : Nat) (hB : B ≤ h) (hBw : B ≤ w.heap.size) : Calls Tryd.prog 11 #[.slice (some ⟨h, 0, none⟩) n c, .int .i64 (k : Int)] w fun e w' => Gave w w' B n k tb e := by
  have cF := Lib.hid (RFree_any h c n tb w H (by omega))
  have HLN : Hid (tb.length = n) := H.len
  have HFR : Hid ((frs tb n).length = free tb) := by unfold Hid; rw [← H.len]; exact frs_all tb
  have HF := Lib.hid hf
  have hk1 : k ≤ 65536 := by have : free tb ≤ tb.length := by unfold free; omega
                             have := H.len
                             omega
  have hF : decide (k > free tb) = false := by simp; omega
  have hF2 : (k : Int) ≤ (free tb : Int) := by omega
  have HH := Lib.hid H
  have HB0 := Lib.hid hB
  have HB1 := Lib.hid hBw
  generalize hfv : free tb = f at cF hF hF2
  clear H hf hfv hB hBw
  go_enter Tryd.func11, Tryd.ntmps11
  go_upto_region 6 with (go_at_call 21; refine cF.out.mono ?_; rintro e w' ⟨rfl, rfl⟩)
  have hb1 : Below w.heap.size w (w.alloc (.cells #[] 23)) := (Below.refl _ _).alloc (Nat.le_refl _) _
  have H0 : Hid (Grb w (w.alloc (.cells #[] 23)) B n tb h c (some ⟨w.heap.size, 0, none⟩) 0 0) := ⟨HH.out.kept hb1, VO.none_ 23 w w.heap.size (Nat.le_refl _), HB0.out, hb1⟩
  generalize w.alloc (.cells #[] 23) = w1 at *
  generalize some (⟨w.heap.size, 0, none⟩ : Addr) = A0 at *
  clear hb1 cF
  go_wp2
  go_loopg [0, 7, 8] n (fun gk v x i wr => ∃ (p m h' c' c2 : Nat) (A : Option Addr), p ≤ n ∧ m ≤ k ∧ m ≤ p ∧ gk = n - p ∧ v = .slice (some ⟨h', 0, none⟩) n c' ∧ x = .slice A m c2 ∧ i = .int .i64 (p : Int) ∧ Hid (m = (frs tb p).length) ∧ Hid (Grb w wr B n tb h' c' A c2 p))
  case atStart => exact ⟨0, 0, h, c, 0, A0, Nat.zero_le _, Nat.zero_le _, Nat.le_refl _, rfl, rfl, rfl, rfl, rfl, H0⟩
  case round =>
    obtain ⟨p, m, h', c', c2, A, hp, hm, hmp, rfl, rfl, rfl, rfl, HM, HG⟩ := hrel
    clear H0
    by_cases hlt : p < n ∧ m < k
    · obtain ⟨l1, l2⟩ := hlt
      have hc := HG.out.bo.cell l1
      rw [fill_from tb p p (Nat.le_refl _)] at hc
      cases hv : tb.getD p false with
      | true =>
        rw [hv] at hc
        obtain ⟨g1, g2⟩ := HG.out.skip HLN.out l1 hv
        have HG1 := Lib.hid g1
        have HM1 : Hid (m = (frs tb (p + 1)).length) := by unfold Hid; rw [g2]; exact HM.out
        clear hv g1 g2
        go_wp2_with fail
        go_roundg (n - (p + 1))
        case measure => omega
        case rel => exact ⟨p + 1, m, h', c', c2, A, l1, hm, by omega, rfl, rfl, rfl, by go_num, HM1, HG1⟩
      | false =>
        rw [hv] at hc
        have HV := Lib.hid hv
        have cW := Lib.hid (with_any h' c' n p (fill tb p) true wr HG.out.bo l1 (by omega))
        have HM2 : Hid (((frs tb p).map u32V).length = m) := by unfold Hid; rw [List.length_map, HM.out]
        have hw : IntKind.u32.wrap (p : Int) = (p : Int) := by rw [IntKind.wrap_u32]; omega
        clear hv
        go_upto_region 11 with (go_at_call 28; refine cW.out.mono ?_; rintro e w2 ⟨h2, c3, rfl, ho, hh, hb⟩)
        have HO := Lib.hid ho
        have HHH := Lib.hid hh
        have HB := Lib.hid hb
        have HX : Hid (Below w2.heap.size w2 (w2.alloc (.cells #[.int .u32 (p : Int)] 23))) := (Below.refl _ _).alloc (Nat.le_refl _) _
        have hcl : Hid ((w2.alloc (.cells #[.int .u32 (p : Int)] 23)).cell? ⟨w2.heap.size, 0, none⟩ = some (.int .u32 (p : Int))) := by unfold Hid; simp
        have hBx : w.heap.size ≤ (w2.alloc (.cells #[.int .u32 (p : Int)] 23)).heap.size := Nat.le_trans (Nat.le_trans HG.out.bel.size hb.size) HX.out.size
        have HVO : Hid (VO 23 (w2.alloc (.cells #[.int .u32 (p : Int)] 23)) w.heap.size A c2 ((frs tb p).map u32V)) := (HG.out.vo.kept hb).kept HX.out
        clear ho hh hb cW
        go_upto_region 8 with (with_reducible refine wpList_append_one rfl (.tmp 38) (.tmp 41) _ rfl 23 Tryd.underlying34 (.int .u32 0) 4 u32info rfl (by omega) w.heap.size A m c2 ((frs tb p).map u32V) rfl HM2.out HVO.out w2.heap.size 1 (.int .u32 (p : Int)) rfl hcl.out rfl (by omega) hBx ?_; intro A' c4 w3 hd)
        obtain ⟨g1, g2⟩ := HG.out.take HV.out HB1.out HO.out HHH.out HB.out HX.out hd.out
        have HG1 := Lib.hid g1
        have HM1 : Hid (m + 1 = (frs tb (p + 1)).length) := by unfold Hid; rw [g2, HM.out]
        clear g1 g2 hd HVO hcl HX HB HHH HO hBx HM2
        go_wp2_with fail
        go_roundg (n - (p + 1))
        case measure => omega
        case rel => exact ⟨p + 1, m + 1, h2, c3, c4, A', l1, l2, by omega, rfl, rfl, rfl, by go_num, HM1, HG1⟩
    · have hmk : m = k := by
        by_cases h1 : p < n
        · omega
        · obtain rfl : p = n := by omega
          have := HF.out
          have := HM.out
          have := HFR.out
          omega
      subst hmk
      have HGT : Hid (Got tb m (fill tb p) (frs tb p)) := ⟨p, by rw [HLN.out]; exact hp, rfl, rfl, HM.out.symm⟩
      by_cases h1 : p < n
      · clear hlt
        go_wp2_with fail
        exact bodyPost_ret (v := .tuple #[.slice (some ⟨h', 0, none⟩) n c', .slice A m c2, .int .i64 0]) (by simp [results, Tryd.results11, go_sem]) rfl ⟨h', c', A, c2, _, _, rfl, HGT.out, HG.out.bo, HG.out.vo, HG.out.hB, HG.out.bel⟩
      · obtain rfl : p = n := by omega
        clear hlt h1
        go_wp2_with fail
        exact bodyPost_ret (v := .tuple #[.slice (some ⟨h', 0, none⟩) p c', .slice A m c2, .int .i64 0]) (by simp [results, Tryd.results11, go_sem]) rfl ⟨h', c', A, c2, _, _, rfl, HGT.out, HG.out.bo, HG.out.vo, HG.out.hB, HG.out.bel⟩

set_option maxHeartbeats 1000000 in
theorem RRow_any (h c n : Nat) (tb : List Bool) (w : World) (H : BoolAt w h c n tb) (hn : n ≤ 65536) : Calls Tryd.prog 20 #[.slice (some ⟨h, 0, none⟩) n c] w fun e w' =>
    ∃ A c2, e = .returned (.slice A (cnt tb) c2) ∧ VO 23 w' w.heap.size A c2 ((tks tb tb.length).map u32V) ∧ Below w.heap.size w w' := by
  have HLN : Hid (tb.length = n) := H.len
  have HC : Hid ((tks tb n).length = cnt tb) := by unfold Hid; rw [← H.len]; exact tks_all tb
  have HH := Lib.hid H
  clear H
  go_enter Tryd.func20, Tryd.ntmps20
  go_upto_region 2 with fail
  have H0 : Hid (VO 23 (w.alloc (.cells #[] 23)) w.heap.size (some ⟨w.heap.size, 0, none⟩) 0 []) := VO.none_ 23 w w.heap.size (Nat.le_refl _)
  have HB1 : Hid (Below w.heap.size w (w.alloc (.cells #[] 23))) := (Below.refl _ _).alloc (Nat.le_refl _) _
  generalize w.alloc (.cells #[] 23) = w1 at *
  generalize some (⟨w.heap.size, 0, none⟩ : Addr) = A0 at *
  go_wp2
  go_loopw [3, 4] (fun x i wr => ∃ (p m c2 : Nat) (A : Option Addr), p ≤ n ∧ m ≤ p ∧ x = .slice A m c2 ∧ i = .int .i64 (p : Int) ∧ Hid (m = (tks tb p).length) ∧ Hid (VO 23 wr w.heap.size A c2 ((tks tb p).map u32V)) ∧ Hid (Below w.heap.size w wr)) (fun _ i _ => n - (intOf i).toNat)
  case atStart => exact ⟨0, 0, 0, A0, Nat.zero_le _, Nat.le_refl _, rfl, rfl, rfl, H0, HB1⟩
  case round =>
    obtain ⟨p, m, c2, A, hp, hmp, rfl, rfl, HM, HV, HB⟩ := hrel
    clear H0 HB1
    by_cases hlt : p < n
    · have hc := (HH.out.ow.below HB.out HH.out.ow.lt)
      have hc : wr.cell? ⟨h, p, none⟩ = some (.bool (tb.getD p false)) := BoolAt.cell ⟨hc, HLN.out⟩ hlt
      cases hv : tb.getD p false with
      | false =>
        rw [hv] at hc
        have e : tks tb (p + 1) = tks tb p := by
          show tks tb p ++ (if tb.getD p false then [p] else []) = _
          rw [hv]; simp
        have HM1 : Hid (m = (tks tb (p + 1)).length) := by unfold Hid; rw [e]; exact HM.out
        have HV1 : Hid (VO 23 wr w.heap.size A c2 ((tks tb (p + 1)).map u32V)) := by unfold Hid; rw [e]; exact HV.out
        clear hv e
        go_wp2
        exact ⟨⟨p + 1, m, c2, A, hlt, by omega, rfl, by go_num, HM1, HV1, HB⟩, by simp [intOf]; omega⟩
      | true =>
        rw [hv] at hc
        have e : tks tb (p + 1) = tks tb p ++ [p] := by
          show tks tb p ++ (if tb.getD p false then [p] else []) = _
          rw [hv]; rfl
        have HM1 : Hid (m + 1 = (tks tb (p + 1)).length) := by unfold Hid; rw [e, List.length_append, HM.out]; rfl
        have HE : Hid (((tks tb p).map u32V) ++ [.int .u32 (p : Int)] = (tks tb (p + 1)).map u32V) := by unfold Hid; rw [e, List.map_append]; rfl
        have HM2 : Hid (((tks tb p).map u32V).length = m) := by unfold Hid; rw [List.length_map, HM.out]
        have hw : IntKind.u32.wrap (p : Int) = (p : Int) := by rw [IntKind.wrap_u32]; omega
        have HX : Hid (Below wr.heap.size wr (wr.alloc (.cells #[.int .u32 (p : Int)] 23))) := (Below.refl _ _).alloc (Nat.le_refl _) _
        have hcl : Hid ((wr.alloc (.cells #[.int .u32 (p : Int)] 23)).cell? ⟨wr.heap.size, 0, none⟩ = some (.int .u32 (p : Int))) := by unfold Hid; simp
        have hBx : w.heap.size ≤ (wr.alloc (.cells #[.int .u32 (p : Int)] 23)).heap.size := Nat.le_trans HB.out.size HX.out.size
        have HVO : Hid (VO 23 (wr.alloc (.cells #[.int .u32 (p : Int)] 23)) w.heap.size A c2 ((tks tb p).map u32V)) := HV.out.kept HX.out
        clear hv e
        go_upto_region 4 with (with_reducible refine wpList_append_one rfl (.tmp 16) (.tmp 19) _ rfl 23 Tryd.underlying34 (.int .u32 0) 4 u32info rfl (by omega) w.heap.size A m c2 ((tks tb p).map u32V) rfl HM2.out HVO.out wr.heap.size 1 (.int .u32 (p : Int)) rfl hcl.out rfl (by omega) hBx ?_; intro A' c4 w3 hd)
        have HV1 : Hid (VO 23 w3 w.heap.size A' c4 ((tks tb (p + 1)).map u32V)) := by
          unfold Hid
          have := hd.out.vo
          rw [HE.out] at this
          exact this
        have HB3 : Hid (Below w.heap.size w w3) := (HB.out.trans (HX.out.mono HB.out.size)).trans hd.out.below
        clear hd HVO hcl HX hBx HM2 HB HV hc
        go_wp2_with fail
        exact ⟨⟨p + 1, m + 1, c4, A', hlt, by omega, rfl, by go_num, HM1, HV1, HB3⟩, by simp [intOf]; omega⟩
    · obtain rfl : p = n := by omega
      have hmc : m = cnt tb := by rw [HM.out, HC.out]
      subst hmc
      go_wp2
      go_ret
      exact ⟨A, c2, rfl, by rw [HLN.out]; exact HV.out, HB.out⟩
end Po
end Go.Proofs.YtndbbpdggggenaaDoor
