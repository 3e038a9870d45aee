/-
  Contracts of layer pool: Take, Row.
-/
import Derived.Test.YtndbbpdggggenaaDoorPoolGrab
namespace Go.Proofs.YtndbbpdggggenaaDoor
open Go.RowKit
namespace Po
open Mem Bt

theorem Take_full {W w : World} {q g b : Nat} {tb : List Bool} (h : Pw W w q g b tb) (hf : free tb = 0) : Calls Tryd.prog 12 #[.pointer (some ⟨q, 0, none⟩)] w fun e w' => e = .returned (.tuple #[.int .u32 0, .int .i64 11]) ∧ w = w' := by
  have cG := Lib.hid (Grab_full h 1 (by omega) (by omega))
  clear h
  go_enter Tryd.func12, Tryd.ntmps12
  go_wp2_with (go_at_call 13; refine cG.out.mono ?_; rintro e w' ⟨rfl, rfl⟩)
  exact bodyPost_ret (v := .tuple #[.int .u32 0, .int .i64 11]) (by simp [results, Tryd.results12, go_sem]) rfl ⟨rfl, rfl⟩
theorem Take_ok {W w : World} {q g b : Nat} {tb : List Bool} (h : Pw W w q g b tb) (hT : Tab W) (hf : 1 ≤ free tb) : Calls Tryd.prog 12 #[.pointer (some ⟨q, 0, none⟩)] w fun e w' =>
    ∃ (t : List Bool) (x : Nat), e = .returned (.tuple #[.int .u32 (x : Int), .int .i64 0]) ∧ Got tb 1 t [x] ∧ Pw W w' q g b t ∧ Flow.Into [b] w w' := by
  have cG := Lib.hid (Grab_ok h hT 1 hf)
  clear h
  go_enter Tryd.func12, Tryd.ntmps12
  go_upto_region 2 with (go_at_call 13; refine cG.out.mono ?_; rintro e w1 ⟨c, t, l, rfl, hg, hp, ho, -, hi⟩)
  obtain ⟨x, rfl⟩ : ∃ x, l = [x] := List.length_eq_one_iff.1 hg.len.2
  have hc : w1.cell? ⟨c, 0, none⟩ = some (.int .u32 (x : Int)) := ho.cell (i := 0) (by simp)
  have HP := Lib.hid hp
  have HG := Lib.hid hg
  have HI := Lib.hid hi
  clear hp hg hi ho cG
  go_wp2_with fail
  exact bodyPost_ret (v := .tuple #[.int .u32 (x : Int), .int .i64 0]) (by simp [results, Tryd.results12, go_sem]) rfl ⟨t, x, rfl, HG.out, HP.out, HI.out⟩

/-- the walk along the taken ones: those ahead of f are laid -/
structure Lay (W w0 wr : World) (q g b : Nat) (tb : List Bool) (A : Option Addr) (c f : Nat) : Prop where
  pw : Pw W wr q g b tb
  vo : VO 23 wr w0.heap.size A c ((tks tb f).map u32V)
  bel : Below w0.heap.size w0 wr
  hf : f ≤ tb.length
theorem tks_short (tb : List Bool) {f : Nat} : (tks tb f).length ≤ f := by rw [tks_len]; exact pc_le _ _
theorem Lay.app {W w0 wr w' : World} {q g b : Nat} {tb : List Bool} {A A' : Option Addr} {c c' f r : Nat} {x : World} (H : Lay W w0 wr q g b tb A c f) (hT : Tab W) (hw0 : Pw W w0 q g b tb) (hr : r < tb.length) (ht : tks tb (r + 1) = tks tb f ++ [r])
    (hx : Below w0.heap.size wr x) (hd : Appd 23 w0.heap.size x w' A A' c' ((tks tb f).map u32V ++ [.int .u32 (r : Int)])) : Lay W w0 w' q g b tb A' c' (r + 1) := by
  have hb := (H.bel.trans hx).trans hd.below
  refine ⟨hw0.kept hT hb, ?_, hb, by omega⟩
  rw [ht, List.map_append]
  exact hd.vo
set_option maxHeartbeats 1000000 in
theorem Row_any {W w : World} {q g b : Nat} {tb : List Bool} (h : Pw W w q g b tb) (hT : Tab W) : Calls Tryd.prog 19 #[.pointer (some ⟨q, 0, none⟩)] w fun e w' =>
    ∃ A c, e = .returned (.slice A (cnt tb) c) ∧ VO 23 w' w.heap.size A c ((tks tb tb.length).map u32V) ∧ Pw W w' q g b tb ∧ Below w.heap.size w w' := by
  have HP := Lib.hid h
  have HT := Lib.hid hT
  have cH := Lib.hid (Held_any h)
  have hle := h.len
  have hcn : cnt tb ≤ 65536 := by have := cnt_le tb; omega
  have hmk := fun w => run_make_empty (P := Tryd.prog) Tryd.underlying34 u32info rfl (by omega) (cnt tb) (by omega) w
  obtain ⟨N, hN⟩ : ∃ N, N = tb.length := ⟨_, rfl⟩
  have HN := Lib.hid hN
  have hN2 : N ≤ 65536 := by omega
  have HC : Hid ((tks tb tb.length).length = cnt tb) := tks_all tb
  generalize hcv : cnt tb = C at *
  clear h hT hle hN hcv
  go_enter Tryd.func19, Tryd.ntmps19
  go_upto_region 2 with (go_at_call 9; refine cH.out.mono ?_; rintro e w' ⟨rfl, rfl⟩)
  have HB : Hid (Below w.heap.size w (w.alloc (.cells (Array.replicate C (.int .u32 0)) 23))) := (Below.refl _ _).alloc (Nat.le_refl _) _
  have HO : Hid (VO 23 (w.alloc (.cells (Array.replicate C (.int .u32 0)) 23)) w.heap.size (some ⟨w.heap.size, 0, none⟩) C []) := by
    unfold Hid
    have := VO.made 23 w w.heap.size (.int .u32 0) C (Nat.le_refl _) (by omega)
    simpa using this
  generalize w.alloc (.cells (Array.replicate C (.int .u32 0)) 23) = w1 at *
  have H0 : Hid (Lay W w w1 q g b tb (some ⟨w.heap.size, 0, none⟩) C 0) := ⟨HP.out.kept HT.out HB.out, HO.out, HB.out, Nat.zero_le _⟩
  generalize some (⟨w.heap.size, 0, none⟩ : Addr) = A0 at *
  clear HO cH hmk
  have cR : ∀ wr A c f, Lay W w wr q g b tb A c f → Hid (Calls Tryd.prog 25 #[.pointer (some ⟨q, 0, none⟩)] wr fun e w' => e = .returned (.pointer (some ⟨g, 0, none⟩)) ∧ wr = w') := fun wr A c f H => row_any H.pw
  have cN : ∀ wr A c (f : Nat), Lay W w wr q g b tb A c f → Hid (Calls Tryd.prog 31 #[.pointer (some ⟨g, 0, none⟩), .int .i64 (f : Int)] wr fun e w' => e = .returned (.tuple #[.int .i64 (foI (firstO tb f true)), .bool (foB (firstO tb f true))]) ∧ wr = w') := fun wr A c f H => H.pw.rw.Next f (by have := H.hf; have := HN.out; omega)
  have cN0 : Hid (Calls Tryd.prog 31 #[.pointer (some ⟨g, 0, none⟩), .int .i64 0] w1 fun e w' => e = .returned (.tuple #[.int .i64 (foI (firstO tb (0 : Nat) true)), .bool (foB (firstO tb (0 : Nat) true))]) ∧ w1 = w') := cN w1 A0 C 0 H0.out
  obtain ⟨o, ho⟩ : ∃ o, o = firstO tb ((0 : Nat) : Int) true := ⟨_, rfl⟩
  have HFO := Lib.hid ho
  rw [← ho] at cN0
  clear ho
  go_wp2_with (first
    | (go_at_call 25; refine (cR _ _ _ _ H0.out).out.mono ?_; rintro e w' ⟨rfl, rfl⟩)
    | (go_at_call 31; refine cN0.out.mono ?_; rintro e w' ⟨rfl, rfl⟩))
  clear cN0
  go_loopg [3, 4, 5] (N + 1) (fun gk v x y wr => ∃ (f m c : Nat) (A : Option Addr) (o : Option Nat), f ≤ N ∧ m ≤ f ∧ gk = N + 1 - f ∧ v = .slice A m c ∧ x = .int .i64 (foI o) ∧ y = .bool (foB o) ∧ Hid (m = (tks tb f).length) ∧ Hid (o = firstO tb (f : Int) true) ∧ Hid (Lay W w wr q g b tb A c f))
  case atStart => exact ⟨0, 0, C, A0, o, Nat.zero_le _, Nat.le_refl _, rfl, rfl, rfl, rfl, rfl, HFO, H0⟩
  case round =>
    obtain ⟨f, m, c, A, o, hf, hm, rfl, rfl, rfl, rfl, HM, HO, HL⟩ := hrel
    clear H0 HFO
    cases o with
    | none =>
      have HE : Hid (tks tb tb.length = tks tb f) := tks_none HL.out.hf HO.out.symm
      have hcm : m = C := by rw [HM.out, ← HC.out, HE.out]
      subst hcm
      have hz : foB none = false := rfl
      simp only [hz]
      go_wp2_with fail
      go_ret
      exact ⟨A, c, rfl, by rw [HE.out]; exact HL.out.vo, HL.out.pw, HL.out.bel⟩
    | some r =>
      obtain ⟨hr1, hr2, hr3⟩ := tks_some HO.out.symm
      have hz : foB (some r) = true := rfl
      have hz2 : foI (some r) = (r : Int) := rfl
      rw [← HN.out] at hr1
      have HR3 := Lib.hid hr3
      have hw : IntKind.u32.wrap (r : Int) = (r : Int) := by rw [IntKind.wrap_u32]; omega
      simp only [hz, hz2]
      have HM2 : Hid (((tks tb f).map u32V).length = m) := by unfold Hid; rw [List.length_map, HM.out]
      have HX : Hid (Below wr.heap.size wr (wr.alloc (.cells #[.int .u32 (r : Int)] 23))) := (Below.refl _ _).alloc (Nat.le_refl _) _
      have hcl : Hid ((wr.alloc (.cells #[.int .u32 (r : Int)] 23)).cell? ⟨wr.heap.size, 0, none⟩ = some (.int .u32 (r : Int))) := by unfold Hid; simp
      have hB : w.heap.size ≤ wr.heap.size := HL.out.bel.size
      have HV : Hid (VO 23 (wr.alloc (.cells #[.int .u32 (r : Int)] 23)) w.heap.size A c ((tks tb f).map u32V)) := HL.out.vo.kept HX.out
      clear hr3
      go_upto_region 4 with (with_reducible refine wpList_append_one rfl (.tmp 24) (.tmp 27) _ rfl 23 Tryd.underlying34 (.int .u32 0) 4 u32info rfl (by omega) w.heap.size A m c ((tks tb f).map u32V) rfl HM2.out HV.out wr.heap.size 1 (.int .u32 (r : Int)) rfl hcl.out rfl (by omega) (Nat.le_trans hB HX.out.size) ?_; intro A' c' w3 hd)
      have HL3 := Lib.hid (HL.out.app HT.out HP.out (r := r) (by rw [← HN.out]; exact hr1) HR3.out (HX.out.mono hB) hd.out)
      have HM3 : Hid (m + 1 = (tks tb (r + 1)).length) := by unfold Hid; rw [HR3.out, List.length_append, HM.out]; rfl
      have cN1 := cN w3 A' c' (r + 1) HL3.out
      have hr1' : ((r + 1 : Nat) : Int) = (r : Int) + 1 := by omega
      rw [hr1'] at cN1
      obtain ⟨o, ho⟩ : ∃ o, o = firstO tb ((r : Int) + 1) true := ⟨_, rfl⟩
      have HFO : Hid (o = firstO tb ((r + 1 : Nat) : Int) true) := by unfold Hid; rw [hr1', ho]
      rw [← ho] at cN1
      clear ho hd HV hcl HX HM2
      go_wp2_with (first
        | (go_at_call 25; refine (cR _ _ _ _ HL3.out).out.mono ?_; rintro e w' ⟨rfl, rfl⟩)
        | (go_at_call 31; refine cN1.out.mono ?_; rintro e w' ⟨rfl, rfl⟩))
      go_roundg (N + 1 - (r + 1))
      case measure => omega
      case rel => exact ⟨r + 1, m + 1, c', A', o, hr1, by omega, rfl, rfl, rfl, rfl, HM3, HFO, HL3⟩
end Po
end Go.Proofs.YtndbbpdggggenaaDoor
