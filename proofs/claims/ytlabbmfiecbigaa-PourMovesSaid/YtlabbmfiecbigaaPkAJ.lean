/-
  MsgR2, MsgR3, MsgG, BufPlain, BufCode1, BufCode2, BufSl, RowE. Put together by pack.py.
-/
import Derived.Test.YtlabbmfiecbigaaPkAH
import Derived.Test.YtlabbmfiecbigaaPkAI
import Derived.Test.YtlabbmfiecbigaaPkAE
import Derived.Lib.AppendZeros
import Derived.Lib.SliceRun
import Derived.Test.YtlabbmfiecbigaaPkAC
import Derived.Test.YtlabbmfiecbigaaDrift

namespace Go.Proofs.Ytlabbmfiecbigaa
open Go.RowKit
namespace Bu
open Mem Lx

set_option maxRecDepth 100000 in
set_option maxHeartbeats 4000000 in
theorem RPut_any {W : World} {A : Option Addr} {c : Nat} {L : List Mg} (h : ML W A L) (m : Mg) (hm : m.1.size ≤ maxLen) (hl : L.length ≤ 400000) : Calls Try.prog 24 #[.slice A L.length c, mgV m] W fun e w' => (∃ A' c', e = .returned (.slice A' (putD L m).length c') ∧ M3 w' W.heap.size A' c' (putD L m)) ∧ Below W.heap.size W w' := by
  have cC := fun (x : Mg) w => Lib.hid (RCmp m.1 x.1 hm w)
  obtain ⟨n, hn⟩ : ∃ n, n = L.length := ⟨_, rfl⟩
  have HN := Lib.hid hn
  have HH := Lib.hid h
  rw [← hn] at hl ⊢
  unfold mgV
  clear h hn hm
  go_enter Try.func24, Try.ntmps24
  go_upto_region 1 with fail
  have hx := heap_alloc_new W (.cells #[.string m.1, .bool m.2.1, .string m.2.2] 45)
  have hb0 : Below W.heap.size W (W.alloc (.cells #[.string m.1, .bool m.2.1, .string m.2.2] 45)) := (Below.refl _ _).alloc (Nat.le_refl _) _
  generalize W.alloc (.cells #[.string m.1, .bool m.2.1, .string m.2.2] 45) = w1 at *
  obtain ⟨g, hg⟩ : ∃ g, g = W.heap.size := ⟨_, rfl⟩
  rw [← hg] at hx ⊢
  have HB1 := Lib.hid hb0
  have HX := Lib.hid hx
  have HH1 := Lib.hid (HH.out.kept hb0)
  clear hx hb0 hg HH
  go_upto_region 2 with fail
  have HV0 : Hid (M3 (w1.alloc (.cells #[] 45)) w1.heap.size (some ⟨w1.heap.size, 0, none⟩) 0 []) := VK.lit (K := MgK) w1 w1.heap.size (Nat.le_refl _)
  have HB0 : Hid (Below w1.heap.size w1 (w1.alloc (.cells #[] 45))) := (Below.refl _ _).alloc (Nat.le_refl _) _
  generalize w1.alloc (.cells #[] 45) = w2 at *
  go_wp2_with fail
  go_loopg [5, 6, 7] n (fun gk bv dv iv wr => ∃ (k j c' : Nat) (A' : Option Addr) (d : Bool) (O : List Mg), k ≤ n ∧ gk = n - k ∧ iv = .int .i64 (k : Int) ∧ bv = .slice A' j c' ∧ dv = .bool d ∧ j ≤ 2 * k ∧ Hid (runP m (L.take k) = (d, O)) ∧ Hid (O.length = j) ∧ Hid (M3 wr w1.heap.size A' c' O) ∧ Hid (Below w1.heap.size w1 wr))
  case atStart => exact ⟨0, 0, 0, _, false, [], Nat.zero_le _, rfl, rfl, rfl, rfl, Nat.zero_le _, rfl, rfl, HV0, HB0⟩
  case round =>
    obtain ⟨k, j, c', A', d, O, hk, rfl, rfl, rfl, rfl, hj, HR, HM, HV, HB⟩ := hrel
    clear HV0 HB0
    obtain ⟨d0, d1, d2⟩ := box3 (kept3 HX.out HB.out)
    by_cases hlt : k < n
    · have hkL : k < L.length := by rw [← HN.out]; exact hlt
      obtain ⟨x, hxx⟩ : ∃ x, x = L[k] := ⟨_, rfl⟩
      have hx' := nat_len hkL
      rw [← hxx] at hx'
      have HS := Lib.hid (runP_next m hx')
      obtain ⟨b, o, e, -, c0, c1, c2⟩ := RdK.msg (HH1.out.kept HB.out) hx'
      subst e
      have HXX := Lib.hid hx'
      have hw2 : IntKind.i64.wrap ((k : Int) + 1) = ((k + 1 : Nat) : Int) := by rw [IntKind.wrap_i64]; omega
      have hm65 : j + 1 ≤ 1048576 := by omega
      clear hxx hx' hkL c1 c2 d1 d2
      have cX := cC x
      obtain ⟨tb, htb⟩ : ∃ tb, tb = (!d && decide (cmpB m.1 x.1 ≤ 0)) := ⟨_, rfl⟩
      have HTB := Lib.hid htb
      clear htb
      go_upto_region 6 with fail
      go_cut [27] (fun tv wx => tv = .bool tb ∧ Hid (Below w1.heap.size w1 wx) ∧ Hid (M3 wx w1.heap.size A' c' O))
      case first =>
        have ht := HTB.out
        clear HTB
        cases d with
        | true =>
          obtain rfl : tb = false := by rw [ht]; rfl
          clear ht
          have z0 := fun q : Drift.Tide [] wr [] => Drift.Tide.cell c0 (by simp) q
          have x0 := fun q : Drift.Tide [] wr [] => Drift.Tide.cell d0 (by simp) q
          refine Drift.wp_region_drift [] [(0,[]),(1,[]),(2,[]),(3,[]),(4,[]),(5,[]),(6,[]),(7,[]),(8,[]),(9,[]),(10,[]),(11,[]),(12,[])] [] [] (by kernel_rfl) (by kernel_rfl) (by simp) ?_
          simp only [Drift.pick, Drift.opsAt, List.getElem?_toArray, List.getElem?_cons_zero, List.getElem?_cons_succ, List.cons_append, List.nil_append, List.filterMap_nil]
          repeat (refine Drift.walk_step (fun K hK => ?_); go_simp; first | (refine hK _ ?_; clear hK K) | (apply Exists.intro; refine ⟨fun q => ?_, hK _ ?_⟩; (go_at_call 29; exact (cX _).out); clear hK K))
          refine Drift.walk_nil ?_
          intro w3 hb _
          clear z0 x0
          simp only [List.length_cons, List.length_nil, List.drop_succ_cons, List.drop_nil, Nat.zero_add, Nat.reduceAdd]
          have HB3 := Lib.hid (HB.out.trans (hb.mono HB.out.size))
          have HV3 := Lib.hid (HV.out.kept hb)
          go_wp2_with fail
          go_meet
          exact ⟨rfl, HB3, HV3⟩
        | false =>
          have hz : cmpB m.1 x.1 ≤ 0 ∨ 0 < cmpB m.1 x.1 := by omega
          rw [Bool.not_false, Bool.true_and] at ht
          generalize cmpB m.1 x.1 = z at *
          rcases hz with hz | hz
          · obtain rfl : tb = true := by rw [ht]; simpa using hz
            clear ht
            have z0 := fun q : Drift.Tide [] wr [] => Drift.Tide.cell c0 (by simp) q
            have x0 := fun q : Drift.Tide [] wr [] => Drift.Tide.cell d0 (by simp) q
            refine Drift.wp_region_drift [] [(0,[]),(1,[]),(2,[]),(3,[]),(4,[]),(5,[]),(6,[]),(7,[]),(8,[]),(9,[]),(10,[]),(11,[]),(12,[])] [] [] (by kernel_rfl) (by kernel_rfl) (by simp) ?_
            simp only [Drift.pick, Drift.opsAt, List.getElem?_toArray, List.getElem?_cons_zero, List.getElem?_cons_succ, List.cons_append, List.nil_append, List.filterMap_nil]
            repeat (refine Drift.walk_step (fun K hK => ?_); go_simp; first | (refine hK _ ?_; clear hK K) | (apply Exists.intro; refine ⟨fun q => ?_, hK _ ?_⟩; (go_at_call 29; exact (cX _).out); clear hK K))
            refine Drift.walk_nil ?_
            intro w3 hb _
            clear z0 x0
            simp only [List.length_cons, List.length_nil, List.drop_succ_cons, List.drop_nil, Nat.zero_add, Nat.reduceAdd]
            have HB3 := Lib.hid (HB.out.trans (hb.mono HB.out.size))
            have HV3 := Lib.hid (HV.out.kept hb)
            go_wp2_with fail
            go_meet
            exact ⟨rfl, HB3, HV3⟩
          · obtain rfl : tb = false := by rw [ht]; simpa using hz
            have hd : decide (z ≤ 0) = false := by simpa using hz
            clear ht hz
            have z0 := fun q : Drift.Tide [] wr [] => Drift.Tide.cell c0 (by simp) q
            have x0 := fun q : Drift.Tide [] wr [] => Drift.Tide.cell d0 (by simp) q
            refine Drift.wp_region_drift [] [(0,[]),(1,[]),(2,[]),(3,[]),(4,[]),(5,[]),(6,[]),(7,[]),(8,[]),(9,[]),(10,[]),(11,[]),(12,[])] [] [] (by kernel_rfl) (by kernel_rfl) (by simp) ?_
            simp only [Drift.pick, Drift.opsAt, List.getElem?_toArray, List.getElem?_cons_zero, List.getElem?_cons_succ, List.cons_append, List.nil_append, List.filterMap_nil]
            repeat (refine Drift.walk_step (fun K hK => ?_); go_simp; first | (refine hK _ ?_; clear hK K) | (apply Exists.intro; refine ⟨fun q => ?_, hK _ ?_⟩; (go_at_call 29; exact (cX _).out); clear hK K))
            refine Drift.walk_nil ?_
            intro w3 hb _
            clear z0 x0
            simp only [List.length_cons, List.length_nil, List.drop_succ_cons, List.drop_nil, Nat.zero_add, Nat.reduceAdd]
            have HB3 := Lib.hid (HB.out.trans (hb.mono HB.out.size))
            have HV3 := Lib.hid (HV.out.kept hb)
            go_wp2_with fail
            go_meet
            exact ⟨rfl, HB3, HV3⟩
      case rest =>
      obtain ⟨rfl, HB, HV⟩ := hcut
      clear c0 d0 cX
      obtain ⟨A1, hA1⟩ : ∃ A1, A1 = A' := ⟨_, rfl⟩
      go_upto_if 27 with fail
      go_cut [5, 6] (fun bv dv wx => ∃ (A1 : Option Addr) (j1 c1 : Nat), bv = .slice A1 j1 c1 ∧ dv = .bool (d || tb) ∧ j1 ≤ j + 1 ∧ Hid ((O ++ (if tb = true then [m] else [])).length = j1) ∧ Hid (M3 wx w1.heap.size A1 c1 (O ++ (if tb = true then [m] else []))) ∧ Hid (Below w1.heap.size w1 wx))
      case first =>
        clear HTB
        cases tb with
        | true =>
          obtain ⟨d0, d1, d2⟩ := box3 (kept3 HX.out HB.out)
          have hX : Below wc.heap.size wc (wc.alloc (.cells #[.string m.1, .bool m.2.1, .string m.2.2] 45)) := (Below.refl _ _).alloc (Nat.le_refl _) _
          have hcl : Hid ((wc.alloc (.cells #[.string m.1, .bool m.2.1, .string m.2.2] 45)).heap[wc.heap.size]? = some (.cells (MgK.cs m).toArray MgK.T (0, 0))) := heap_alloc_new wc _
          have HVX : Hid (M3 (wc.alloc (.cells #[.string m.1, .bool m.2.1, .string m.2.2] 45)) w1.heap.size A' c' O) := HV.out.kept hX
          have hBx : w1.heap.size ≤ (wc.alloc (.cells #[.string m.1, .bool m.2.1, .string m.2.2] 45)).heap.size := Nat.le_trans HB.out.size hX.size
          have HX2 := Lib.hid (hX.mono HB.out.size)
          clear hX
          go_wp2_with (with_reducible refine wpList_appendK (K := MgK) Try.underlying26 mginfo rfl (by decide) (by decide) rfl (.tmp 28) (.tmp 30) rfl w1.heap.size A' j c' O rfl HM.out HVX.out wc.heap.size 1 m rfl hcl.out hm65 hBx ?_; intro A2 c2 w4 hd)
          go_meet
          exact ⟨A2, j + 1, c2, rfl, by simp, Nat.le_refl _, by unfold Hid; rw [if_pos trivial, List.length_append, HM.out]; rfl, by rw [if_pos trivial]; exact hd.out.vo, (HB.out.trans HX2.out).trans hd.out.below⟩
        | false =>
          go_wp2_with fail
          go_meet
          exact ⟨A', j, c', rfl, by simp, by omega, by unfold Hid; simpa using HM.out, by simpa using HV, HB⟩
      case rest =>
      clear HM HV HB hA1
      obtain ⟨A1, j1, c1, rfl, rfl, hj1, HM, HV, HB⟩ := hcut
      obtain ⟨O1, hO1⟩ : ∃ O1, O1 = O ++ (if tb = true then [m] else []) := ⟨_, rfl⟩
      rw [← hO1] at HM HV
      have HO1 := Lib.hid hO1
      obtain ⟨D, hD⟩ : ∃ D, D = (d || tb) := ⟨_, rfl⟩
      rw [← hD]
      have HD := Lib.hid hD
      clear hO1 hD
      obtain ⟨d0, d1, d2⟩ := box3 (kept3 HX.out HB.out)
      obtain ⟨b', o', e', -, c0, -, -⟩ := RdK.msg (HH1.out.kept HB.out) HXX.out
      obtain ⟨rfl, rfl⟩ : b = b' ∧ o = o' := by simpa using e'
      obtain ⟨ne, hne⟩ : ∃ ne, ne = !decide (x.1 = m.1) := ⟨_, rfl⟩
      have HNE := Lib.hid hne
      have hm65 : j1 + 1 ≤ 1048576 := by omega
      clear hne e' d1 d2
      go_upto_region 9 with fail
      go_cut [39] (fun tv wx => tv = .bool ne ∧ Hid (Below w1.heap.size w1 wx) ∧ Hid (M3 wx w1.heap.size A1 c1 O1))
      case first =>
        have ht := HNE.out
        have hq : (x.1.toList == m.1.toList) = !ne := by rw [ba_toList, ht, Bool.not_not]
        clear HNE ht
        have z0 := fun q : Drift.Tide [] wc [] => Drift.Tide.cell c0 (by simp) q
        have x0 := fun q : Drift.Tide [] wc [] => Drift.Tide.cell d0 (by simp) q
        refine Drift.wp_region_drift [] [(0,[]),(1,[]),(2,[]),(3,[]),(4,[]),(5,[]),(6,[]),(7,[])] [] [] (by kernel_rfl) (by kernel_rfl) (by simp) ?_
        simp only [Drift.pick, Drift.opsAt, List.getElem?_toArray, List.getElem?_cons_zero, List.getElem?_cons_succ, List.cons_append, List.nil_append, List.filterMap_nil]
        repeat (refine Drift.walk_step (fun K hK => ?_); go_simp; first | (refine hK _ ?_; clear hK K))
        refine Drift.walk_nil ?_
        intro w3 hb _
        clear z0 x0
        simp only [List.length_cons, List.length_nil, List.drop_succ_cons, List.drop_nil, Nat.zero_add, Nat.reduceAdd]
        have HB3 := Lib.hid (HB.out.trans (hb.mono HB.out.size))
        have HV3 := Lib.hid (HV.out.kept hb)
        clear hb
        go_wp2_with fail
        go_meet
        exact ⟨by simp, HB3, HV3⟩
      case rest =>
      clear HB HV
      obtain ⟨rfl, HB, HV⟩ := hcut
      clear c0 d0
      have HR2 : Hid (runP m (L.take (k + 1)) = (D, O1 ++ (if ne = true then [x] else []))) := by
        unfold Hid
        rw [HS.out, HR.out, HO1.out, HD.out, HNE.out, HTB.out]
        unfold stepP
        cases d <;> by_cases hxm : x.1 = m.1 <;> simp [hxm]
      clear HNE HTB HD HO1 HS HR
      cases ne with
      | true =>
        rw [if_pos rfl] at HR2
        obtain ⟨b', o', e', -, c0, c1', c2'⟩ := RdK.msg (HH1.out.kept HB.out) HXX.out
        obtain ⟨rfl, rfl⟩ : b = b' ∧ o = o' := by simpa using e'
        clear e'
        have hX : Below wc.heap.size wc (wc.alloc (.cells #[.string x.1, .bool x.2.1, .string x.2.2] 45)) := (Below.refl _ _).alloc (Nat.le_refl _) _
        have hcl : Hid ((wc.alloc (.cells #[.string x.1, .bool x.2.1, .string x.2.2] 45)).heap[wc.heap.size]? = some (.cells (MgK.cs x).toArray MgK.T (0, 0))) := heap_alloc_new wc _
        have HVX : Hid (M3 (wc.alloc (.cells #[.string x.1, .bool x.2.1, .string x.2.2] 45)) w1.heap.size A1 c1 O1) := HV.out.kept hX
        have hBx : w1.heap.size ≤ (wc.alloc (.cells #[.string x.1, .bool x.2.1, .string x.2.2] 45)).heap.size := Nat.le_trans HB.out.size hX.size
        have HX2 := Lib.hid (hX.mono HB.out.size)
        clear hX
        go_wp2_with (with_reducible refine wpList_appendK (K := MgK) Try.underlying26 mginfo rfl (by decide) (by decide) rfl (.tmp 40) (.tmp 45) rfl w1.heap.size A1 j1 c1 O1 rfl HM.out HVX.out wc.heap.size 1 x rfl hcl.out hm65 hBx ?_; intro A2 c2 w4 hd)
        go_roundg (n - (k + 1))
        case measure => omega
        case rel => exact ⟨k + 1, j1 + 1, c2, A2, D, O1 ++ [x], hlt, rfl, by go_num, rfl, rfl, by omega, HR2, by unfold Hid; rw [List.length_append, HM.out]; rfl, hd.out.vo, (HB.out.trans HX2.out).trans hd.out.below⟩
      | false =>
        rw [if_neg (by simp), List.append_nil] at HR2
        go_wp2_with fail
        go_roundg (n - (k + 1))
        case measure => omega
        case rel => exact ⟨k + 1, j1, c1, A1, D, O1, hlt, rfl, by go_num, rfl, rfl, by omega, HR2, HM, HV, HB⟩
    · obtain rfl : k = n := by omega
      rw [List.take_of_length_le (by rw [← HN.out]; exact Nat.le_refl _)] at HR
      have HBW := Lib.hid (HB1.out.trans (HB.out.mono HB1.out.size))
      have hm65 : j + 1 ≤ 1048576 := by omega
      clear hlt
      cases d with
      | true =>
        have HP : Hid (putD L m = O) := by unfold Hid putD; rw [HR.out]; simp
        clear HR
        go_wp2_with fail
        go_ret
        exact ⟨⟨A', c', by rw [HP.out, HM.out]; rfl, by rw [HP.out]; exact HV.out.mono HB1.out.size⟩, HBW.out⟩
      | false =>
        have HP : Hid (putD L m = O ++ [m]) := by unfold Hid putD; rw [HR.out]; simp
        clear HR
        have hX : Below wr.heap.size wr (wr.alloc (.cells #[.string m.1, .bool m.2.1, .string m.2.2] 45)) := (Below.refl _ _).alloc (Nat.le_refl _) _
        have hcl : Hid ((wr.alloc (.cells #[.string m.1, .bool m.2.1, .string m.2.2] 45)).heap[wr.heap.size]? = some (.cells (MgK.cs m).toArray MgK.T (0, 0))) := heap_alloc_new wr _
        have HVX : Hid (M3 (wr.alloc (.cells #[.string m.1, .bool m.2.1, .string m.2.2] 45)) w1.heap.size A' c' O) := HV.out.kept hX
        have hBx : w1.heap.size ≤ (wr.alloc (.cells #[.string m.1, .bool m.2.1, .string m.2.2] 45)).heap.size := Nat.le_trans HB.out.size hX.size
        have HX2 := Lib.hid (hX.mono HB.out.size)
        clear hX
        go_wp2_with (with_reducible refine wpList_appendK (K := MgK) Try.underlying26 mginfo rfl (by decide) (by decide) rfl (.tmp 49) (.tmp 51) rfl w1.heap.size A' j c' O rfl HM.out HVX.out wr.heap.size 1 m rfl hcl.out hm65 hBx ?_; intro A2 c2 w4 hd)
        go_ret
        refine ⟨⟨A2, c2, ?_, ?_⟩, ?_⟩
        · rw [HP.out, List.length_append, HM.out]; rfl
        · rw [HP.out]; exact hd.out.vo.mono HB1.out.size
        · exact HB1.out.trans (((HB.out.trans HX2.out).trans hd.out.below).mono HB1.out.size)
end Bu
end Go.Proofs.Ytlabbmfiecbigaa

namespace Go.Proofs.Ytlabbmfiecbigaa
open Go.RowKit
namespace Bu
open Mem Lx
/-- in a block made since W, or in A's -/
def From (W : World) (A A' : Option Addr) : Prop := ∀ x, A' = some x → W.heap.size ≤ x.block ∨ ∃ y, A = some y ∧ y.block = x.block
/-- L's in no block of the other's -/
def Off (A A' : Option Addr) (L : List Mg) : Prop := 0 < L.length → ∀ x y, A = some x → A' = some y → x.block ≠ y.block
/-- two slices of one's own in unlike blocks, one of which grows -/
theorem apart_next {w w' : World} {B B' c2 c' : Nat} {A A' A2 : Option Addr} {L R : List Mg} (hd : AppdK MgK B w w' A A' c' L) (hR : M3 w B' A2 c2 R) (ha : ∀ x y, A = some x → A2 = some y → x.block ≠ y.block) :
    M3 w' B' A2 c2 R ∧ ∀ x y, A' = some x → A2 = some y → x.block ≠ y.block := by
  refine ⟨hR.keep fun a h2 => hd.block _ (hR.at_ a h2).2 fun x hx => ha x a hx h2, fun x y hx hy => ?_⟩
  have hy2 := (hR.at_ y hy).2
  rcases hd.row x hx with ⟨a, e, hb⟩ | hb
  · rw [hb]
    exact ha a y e hy
  · omega
end Bu
end Go.Proofs.Ytlabbmfiecbigaa

namespace Go.Proofs.Ytlabbmfiecbigaa
open Go.RowKit
namespace Bu
open Mem Lx
/-- short enough for the document's answer -/
def Fit (L : List Mg) : Prop := L.length ≤ 150 ∧ ∀ m, m ∈ L → m.1.size ≤ 300
/-- a block of slices that read as these lists -/
def MM (w : World) (g : Nat) (LS : List (List Mg)) : Prop := ∀ (i : Nat) (L : List Mg), LS[i]? = some L → ∃ A c, w.cell? ⟨g, i, none⟩ = some (.slice A L.length c) ∧ ML w A L
theorem MM.one {w : World} {g : Nat} {U : TypeId} {L : List Mg} {A : Option Addr} {c : Nat} {fl : Nat × Nat} (h : w.heap[g]? = some (.cells #[.slice A L.length c] U fl)) (hL : ML w A L) : MM w g [L] := fun i M hM => by
  match i, hM with
  | 0, hM =>
    cases hM
    exact ⟨A, c, by simp [World.cell?, h], hL⟩
theorem MM.two {w : World} {g : Nat} {U : TypeId} {L L' : List Mg} {A A' : Option Addr} {c c' : Nat} {fl : Nat × Nat} (h : w.heap[g]? = some (.cells #[.slice A L.length c, .slice A' L'.length c'] U fl)) (hL : ML w A L) (hL' : ML w A' L') : MM w g [L, L'] := fun i M hM => by
  match i, hM with
  | 0, hM =>
    cases hM
    exact ⟨A, c, by simp [World.cell?, h], hL⟩
  | 1, hM =>
    cases hM
    exact ⟨A', c', by simp [World.cell?, h], hL'⟩
end Bu
end Go.Proofs.Ytlabbmfiecbigaa

namespace Go.Proofs.Ytlabbmfiecbigaa
open Go.RowKit
namespace Bu
open Mem Lx
theorem RdK.of_block {w : World} {g : Nat} {L : List Mg} {U : TypeId} {f : Nat × Nat} (h : w.heap[g]? = some (.cells (L.flatMap MgK.cs).toArray U f)) : ML w (some ⟨g, 0, none⟩) L := fun _ => by
  refine ⟨g, 0, rfl, (Array.getElem?_eq_some_iff.1 h).1, fun i x hx j u hu => ?_⟩
  have hj : j < MgK.k := by
    have := (List.getElem?_eq_some_iff.1 hu).1
    rw [MgK.len] at this
    exact this
  have := MgK.at_ hx hj
  simp only [World.cell?, h, Nat.zero_add]
  simpa [this] using hu
/-- kept where its block is -/
theorem RdK.kept_at {w w' : World} {A : Option Addr} {L : List Mg} (h : ML w A L) (hs : w.heap.size ≤ w'.heap.size) (hk : 0 < L.length → ∀ a, A = some a → w'.heap[a.block]? = w.heap[a.block]?) : ML w' A L := fun h0 => h.keep hs (hk h0) h0
theorem RdK.lt {w : World} {A : Option Addr} {L : List Mg} (h : ML w A L) (h0 : 0 < L.length) : ∀ x, A = some x → x.block < w.heap.size := fun x hx => by
  obtain ⟨b, o, e, hb, _⟩ := h h0
  rw [e] at hx
  cases hx
  exact hb
theorem cmpB_nil (a : ByteArray) : cmpB ⟨#[]⟩ a ≤ 0 := by
  unfold cmpB Lib.compareBytes
  split <;> simp_all
theorem in_below (key : ByteArray) : (fun m : Mg => inB ⟨#[]⟩ key false m.1) = fun m => decide (cmpB m.1 key < 0) := by
  funext m
  simp [inB, cmpB_nil]
/-- the block of a slice of one's own -/
theorem VK.block {w : World} {B c : Nat} {A : Option Addr} {L : List Mg} (h : M3 w B A c L) (h0 : 0 < L.length) : ∃ g C, A = some ⟨g, 0, none⟩ ∧ B ≤ g ∧ w.heap[g]? = some (.cells C 45 (0, 0)) := by
  rcases h.2 with ⟨_, h1⟩ | ⟨g, cap, cur, h1, hB, hg, _⟩
  · omega
  · obtain ⟨rfl, -⟩ : A = some ⟨g, 0, none⟩ ∧ c = cap := by simpa using h1
    exact ⟨g, cur, rfl, hB, hg⟩
theorem set3_keep (w : World) (b : Nat) (x y z : Value) {k : Nat} (hk : k ≠ b) : (set3 w b x y z).heap[k]? = w.heap[k]? := by
  unfold set3
  rw [Below.heap_setCell _ _ _ _ hk, Below.heap_setCell _ _ _ _ hk, Below.heap_setCell _ _ _ _ hk]
theorem set3_size (w : World) (b : Nat) (x y z : Value) : (set3 w b x y z).heap.size = w.heap.size := by simp [set3, World.setCell]
theorem RdK.set3 {w : World} {A : Option Addr} {L : List Mg} (h : ML w A L) (b : Nat) (x y z : Value) (hn : 0 < L.length → ∀ a, A = some a → a.block ≠ b) : ML (set3 w b x y z) A L :=
  RdK.kept_at h (Nat.le_of_eq (set3_size w b x y z).symm) fun h0 a ha => set3_keep w b x y z (hn h0 a ha)
end Bu
end Go.Proofs.Ytlabbmfiecbigaa

namespace Go.Proofs.Ytlabbmfiecbigaa
open Go.RowKit
namespace Bu
open Mem Lx
/-- those within lie together -/
structure Cut (P : Mg → Bool) (L : List Mg) (p q : Nat) : Prop where
  pq : p ≤ q
  le : q ≤ L.length
  ahead : ∀ (i : Nat) (m : Mg), i < p → L[i]? = some m → P m = false
  inn : ∀ (i : Nat) (m : Mg), p ≤ i → i < q → L[i]? = some m → P m = true
  behind : ∀ (i : Nat) (m : Mg), q ≤ i → L[i]? = some m → P m = false
theorem Lb.cut_top {L : List Mg} {lo hi : ByteArray} {p : Nat} (h : Lb L lo p) : Cut (fun m => inB lo hi true m.1) L p L.length :=
  ⟨h.le, Nat.le_refl _, fun i m hi hm => by
    have := h.lo i m hi hm
    rw [cmpB_neg] at this
    simp [inB]
    omega, fun i m hi _ hm => by
    have := h.hi i m hi hm
    rw [cmpB_neg] at this
    simp [inB]
    omega, fun i m hi hm => by
    have := (List.getElem?_eq_some_iff.1 hm).1
    omega⟩
theorem Lb.cut {L : List Mg} {lo hi : ByteArray} {p q r : Nat} (h : Lb L lo p) (k : Lb L hi r) (hq : q = if p < r then r else p) : Cut (fun m => inB lo hi false m.1) L p q := by
  have h1 := h.le
  have h2 := k.le
  have hz : q = p ∧ r ≤ p ∨ q = r ∧ p < r := by
    by_cases hpr : p < r
    · rw [if_pos hpr] at hq
      exact .inr ⟨hq, hpr⟩
    · rw [if_neg hpr] at hq
      exact .inl ⟨hq, by omega⟩
  clear hq
  refine ⟨by omega, by omega, fun i m hi hm => ?_, fun i m hi hi2 hm => ?_, fun i m hi hm => ?_⟩
  · have h3 := h.lo i m hi hm
    have h4 := cmpB_neg lo m.1
    simp [inB]
    omega
  · have h3 := h.hi i m hi hm
    have h4 := cmpB_neg lo m.1
    have h5 := k.lo i m (by omega) hm
    simp [inB]
    omega
  · have h5 := k.hi i m (by omega) hm
    simp [inB]
    omega
set_option maxRecDepth 100000 in
set_option maxHeartbeats 2000000 in
theorem places_any {W : World} {A : Option Addr} {c : Nat} {L : List Mg} (h : ML W A L) (lo hi : ByteArray) (top : Bool) (hr : Ri L) (hl : L.length ≤ 1048576) : Calls Try.prog 45 #[.slice A L.length c, .agg #[.string lo, .string hi, .bool top]] W fun e w' => (∃ (p q : Nat), e = .returned (.tuple #[.int .i64 (p : Int), .int .i64 (q : Int)]) ∧ Cut (fun m => inB lo hi top m.1) L p q) ∧ Below W.heap.size W w' := by
  have cS := fun (W' : World) (hb : Below W.heap.size W W') (key : ByteArray) => Lib.hid (place_any (c := c) (h.kept hb) key hr hl)
  clear h
  generalize hn : L.length = n at *
  have HN := Lib.hid hn
  clear hn
  go_enter Try.func45, Try.ntmps45
  go_upto_region 1 with fail
  have hx := heap_alloc_new W (.cells #[.string lo, .string hi, .bool top] 37)
  have hb0 : Below W.heap.size W (W.alloc (.cells #[.string lo, .string hi, .bool top] 37)) := (Below.refl _ _).alloc (Nat.le_refl _) _
  generalize W.alloc (.cells #[.string lo, .string hi, .bool top] 37) = w1 at *
  obtain ⟨g, hg⟩ : ∃ g, g = W.heap.size := ⟨_, rfl⟩
  rw [← hg] at hx ⊢
  obtain ⟨d0, d1, d2⟩ := box3 hx
  have HX := Lib.hid hx
  have HB := Lib.hid hb0
  clear hx hb0 hg
  go_upto_region 2 with (go_at_call 57; refine (cS _ HB.out _).out.mono ?_; rintro e w2 ⟨⟨p, b, rfl, h1, h2⟩, hb⟩)
  have HP := Lib.hid h1
  obtain ⟨x0, x1, x2⟩ := box3 (kept3 HX.out hb)
  replace HB := Lib.hid (HB.out.trans (hb.mono HB.out.size))
  have hpn : p ≤ n := by rw [← HN.out]; exact h1.le
  clear h1 h2 hb d0 d1 d2 HX
  cases top with
  | true =>
    have HC : Hid (Cut (fun m => inB lo hi true m.1) L p n) := by
      have := HP.out.cut_top (hi := hi)
      rw [HN.out] at this
      exact this
    go_upto_region 5 with fail
    rcases Nat.lt_or_ge p n with hlt | hge
    · go_wp2_with fail
      exact bodyPost_ret (v := .tuple #[.int .i64 (p : Int), .int .i64 (n : Int)]) (by simp [results, Try.results45, go_sem]) rfl ⟨⟨p, n, rfl, HC.out⟩, HB.out⟩
    · obtain rfl : p = n := by omega
      go_wp2_with fail
      exact bodyPost_ret (v := .tuple #[.int .i64 (p : Int), .int .i64 (p : Int)]) (by simp [results, Try.results45, go_sem]) rfl ⟨⟨p, p, rfl, HC.out⟩, HB.out⟩
  | false =>
    go_upto_region 5 with (go_at_call 57; refine (cS _ HB.out _).out.mono ?_; rintro e w3 ⟨⟨r, b2, rfl, h1, h2⟩, hb⟩)
    have HR := Lib.hid h1
    replace HB := Lib.hid (HB.out.trans (hb.mono HB.out.size))
    have hrn : r ≤ n := by rw [← HN.out]; exact h1.le
    clear h1 h2 hb x0 x1 x2 cS
    rcases Nat.lt_or_ge p r with hlt | hge
    · have HC : Hid (Cut (fun m => inB lo hi false m.1) L p r) := HP.out.cut HR.out (by rw [if_pos hlt])
      go_wp2_with fail
      exact bodyPost_ret (v := .tuple #[.int .i64 (p : Int), .int .i64 (r : Int)]) (by simp [results, Try.results45, go_sem]) rfl ⟨⟨p, r, rfl, HC.out⟩, HB.out⟩
    · have HC : Hid (Cut (fun m => inB lo hi false m.1) L p p) := HP.out.cut HR.out (by rw [if_neg (by omega)])
      go_wp2_with fail
      exact bodyPost_ret (v := .tuple #[.int .i64 (p : Int), .int .i64 (p : Int)]) (by simp [results, Try.results45, go_sem]) rfl ⟨⟨p, p, rfl, HC.out⟩, HB.out⟩
end Bu
end Go.Proofs.Ytlabbmfiecbigaa

namespace Go.Proofs.Ytlabbmfiecbigaa
open Go.RowKit
namespace Bu
open Mem Lx
theorem RdK.none_ {w : World} {L : List Mg} (h : ML w none L) : L = [] := by
  cases L with
  | nil => rfl
  | cons y l => obtain ⟨_, _, e, _⟩ := h (by simp); cases e
set_option maxRecDepth 100000 in
set_option maxHeartbeats 2000000 in
theorem Clone_any {W : World} {A : Option Addr} {c : Nat} {L : List Mg} (h : ML W A L) (hl : L.length ≤ 1048576) : Calls Try.prog 42 #[.slice A L.length c] W fun e w' => (∃ A' c', e = .returned (.slice A' L.length c') ∧ M3 w' W.heap.size A' c' L) ∧ Below W.heap.size W w' := by
  have hq := fun (w : World) (a : Option Addr) (n c n' c' : Nat) => Lib.run_eql_slice_nil (P := Try.prog) w 26 _ a n c n' c' Try.underlying26
  cases A with
  | none =>
    obtain rfl := RdK.none_ h
    go_enter Try.func42, Try.ntmps42
    go_wp2_with fail
    go_ret
    exact ⟨⟨none, 0, rfl, VK.nil _ _⟩, Below.refl _ _⟩
  | some a =>
    have HH := Lib.hid h
    generalize hn : L.length = n at *
    have HN := Lib.hid hn
    clear h hn
    go_enter Try.func42, Try.ntmps42
    go_upto_region 3 with fail
    have hb : Below W.heap.size W (W.alloc (.cells #[] 45)) := (Below.refl _ _).alloc (Nat.le_refl _) _
    have HV0 : Hid (M3 (W.alloc (.cells #[] 45)) W.heap.size (some ⟨W.heap.size, 0, none⟩) 0 []) := VK.lit (K := MgK) W W.heap.size (Nat.le_refl _)
    have HAL := Lib.hid (HH.out.kept hb)
    have hs := hb.size
    have hn2 : 0 + n ≤ 1048576 := by omega
    have HB := Lib.hid hb
    clear hb HH
    go_wp2_with (with_reducible refine wpList_append_allK (K := MgK) Try.underlying26 mginfo rfl (by decide) (by decide) rfl (.tmp 5) (.tmp 6) rfl W.heap.size (some ⟨W.heap.size, 0, none⟩) 0 0 [] rfl rfl HV0.out (some a) n c L rfl HN.out HAL.out hn2 hs ?_; intro Aw cw w4 hv4 hb4)
    go_ret
    exact ⟨⟨Aw, cw, rfl, hv4.out⟩, HB.out.trans hb4.out⟩
theorem zeroCells_size (z : Array Value) (n : Nat) : (Builtin.zeroCells z n).size = n * z.size := by simp [Builtin.zeroCells]
set_option maxRecDepth 100000 in
set_option maxHeartbeats 2000000 in
theorem Grow_nil (W : World) (n : Nat) (hn : n ≤ 1048576) : Calls Try.prog 61 #[.slice none 0 0, .int .i64 (n : Int)] W fun e w' => (∃ A' c', e = .returned (.slice A' 0 c') ∧ M3 w' W.heap.size A' c' []) ∧ Below W.heap.size W w' := by
  rcases Nat.eq_zero_or_pos n with rfl | h0
  · go_enter Try.func61, Try.ntmps61
    go_wp2_with fail
    go_ret
    exact ⟨⟨none, 0, rfl, VK.nil _ _⟩, Below.refl _ _⟩
  · obtain ⟨i, hi, hz, hs, hby⟩ := info_parts mginfo
    have hrz := fun ty => Lib.run_append_nil_zeros (P := Try.prog) W 26 3 ty 45 i _ .i64 .i64 Try.underlying26 Try.underlying3 hi hz n h0 (by omega) (by omega) (by rw [hby]; omega)
    have hcap := grownCap_le_maxLen W n 0 45 (by unfold maxLen; omega)
    have hge := grownCap_ge W n 0 45
    generalize grownCap W n 0 45 = cap at *
    have HV : Hid (M3 (W.drew.alloc (.cells (Builtin.zeroCells (Value.agg #[.string ⟨#[]⟩, .bool false, .string ⟨#[]⟩]).cells n ++ Builtin.zeroCells (Value.agg #[.string ⟨#[]⟩, .bool false, .string ⟨#[]⟩]).cells (cap - n)) 45)) W.heap.size (some ⟨W.heap.size, 0, none⟩) cap []) := World.ownsRow_made (base := W.heap.size) (e := 45) (size := 3) W.drew _ cap (Nat.le_refl _) hcap (by
      rw [Array.size_append, zeroCells_size, zeroCells_size, ← Nat.add_mul]
      rw [show n + (cap - n) = cap by omega]
      rfl)
    have HB : Hid (Below W.heap.size W (W.drew.alloc (.cells (Builtin.zeroCells (Value.agg #[.string ⟨#[]⟩, .bool false, .string ⟨#[]⟩]).cells n ++ Builtin.zeroCells (Value.agg #[.string ⟨#[]⟩, .bool false, .string ⟨#[]⟩]).cells (cap - n)) 45))) := (Below.refl _ _).drew.alloc (Nat.le_refl _) _
    generalize W.drew.alloc (.cells (Builtin.zeroCells (Value.agg #[.string ⟨#[]⟩, .bool false, .string ⟨#[]⟩]).cells n ++ Builtin.zeroCells (Value.agg #[.string ⟨#[]⟩, .bool false, .string ⟨#[]⟩]).cells (cap - n)) 45) = w1 at *
    clear hi hz hs hby
    unfold maxLen at hcap
    generalize hg : W.heap.size = g at *
    go_enter Try.func61, Try.ntmps61
    go_wp2_with (with_reducible refine Lib.wpList_append_run _ rfl _ _ _ _ rfl _ _ rfl rfl _ _ (hrz _) ?_)
    go_ret
    exact ⟨⟨_, cap, rfl, HV.out⟩, HB.out⟩
theorem MM.kept {w w' : World} {g : Nat} {LS : List (List Mg)} (h : MM w g LS) (hb : Below w.heap.size w w') : MM w' g LS := fun i L hi => by
  obtain ⟨A, c, hc, hL⟩ := h i L hi
  have hg : g < w.heap.size := by
    rcases Nat.lt_or_ge g w.heap.size with h' | h'
    · exact h'
    · simp [World.cell?, Array.getElem?_eq_none h'] at hc
  refine ⟨A, c, ?_, hL.kept hb⟩
  rw [← hc]
  exact World.cell?_of_block (w := w) (a := ⟨g, i, none⟩) (hb.block g hg)
theorem flat_next {LS : List (List Mg)} {k : Nat} {L : List Mg} (h : LS[k]? = some L) : (LS.take (k + 1)).flatten = (LS.take k).flatten ++ L := by
  have hk := (List.getElem?_eq_some_iff.1 h).1
  have e : LS[k] = L := (List.getElem?_eq_some_iff.1 h).2
  rw [List.take_succ_eq_append_getElem hk, List.flatten_append, e]
  simp
theorem flat_le (LS : List (List Mg)) (k : Nat) : ((LS.take k).flatten).length ≤ LS.flatten.length := by
  have : LS.flatten.length = ((LS.take k).flatten).length + ((LS.drop k).flatten).length := by
    rw [← List.length_append, ← List.flatten_append, List.take_append_drop]
  omega
set_option maxRecDepth 100000 in
set_option maxHeartbeats 4000000 in
theorem Concat_any {W : World} {g cx : Nat} {LS : List (List Mg)} (h : MM W g LS) (hn : LS.length ≤ 1000) (hl : LS.flatten.length ≤ 1000000) : Calls Try.prog 46 #[.slice (some ⟨g, 0, none⟩) LS.length cx] W fun e w' => (∃ A' c', e = .returned (.slice A' LS.flatten.length c') ∧ M3 w' W.heap.size A' c' LS.flatten) ∧ Below W.heap.size W w' := by
  have HF : Hid (∀ k, ((LS.take k).flatten).length ≤ 1000000) := fun k => Nat.le_trans (flat_le LS k) hl
  have HT : Hid ((LS.take LS.length).flatten = LS.flatten) := by unfold Hid; rw [List.take_length]
  have HH := Lib.hid h
  generalize hm : LS.length = m at *
  generalize ht : LS.flatten.length = t at *
  have HM := Lib.hid hm
  have HL := Lib.hid ht
  have cG := fun W => Lib.hid (Grow_nil W t (by omega))
  clear h hm ht
  go_enter Try.func46, Try.ntmps46
  go_upto_block 0 with fail
  go_cut [3] (fun sv wx => sv = .int .i64 (t : Int) ∧ wx = W)
  case first =>
    go_wp2_with fail
    go_loopg [3, 11] m (fun gk sv iv wr => ∃ (k s : Nat), k ≤ m ∧ gk = m - k ∧ iv = .int .i64 (k : Int) ∧ sv = .int .i64 (s : Int) ∧ s ≤ 1000000 ∧ Hid (((LS.take k).flatten).length = s) ∧ wr = W)
    case atStart => exact ⟨0, 0, Nat.zero_le _, rfl, rfl, rfl, Nat.zero_le _, rfl, rfl⟩
    case round =>
      obtain ⟨k, s, hk, rfl, rfl, rfl, hs, HS, rfl⟩ := hrel
      by_cases hlt : k < m
      · have hkL : k < LS.length := by rw [HM.out]; exact hlt
        obtain ⟨L, hLL⟩ : ∃ L, L = LS[k] := ⟨_, rfl⟩
        have hL' : LS[k]? = some L := by rw [hLL]; exact List.getElem?_eq_getElem hkL
        obtain ⟨A, c, hc, hML⟩ := HH.out k L hL'
        obtain ⟨l, hll⟩ : ∃ l, l = L.length := ⟨_, rfl⟩
        rw [← hll] at hc
        have HS2 : Hid (((LS.take (k + 1)).flatten).length = s + l) := by
          unfold Hid
          rw [flat_next hL', List.length_append, HS.out, hll]
        have hb2 : s + l ≤ 1000000 := by rw [← HS2.out]; exact HF.out (k + 1)
        clear hLL hL' hML hll hkL
        have hw2 : IntKind.i64.wrap ((k : Int) + 1) = ((k + 1 : Nat) : Int) := by rw [IntKind.wrap_i64]; omega
        have hw3 : IntKind.i64.wrap ((s : Int) + (l : Int)) = ((s + l : Nat) : Int) := by rw [IntKind.wrap_i64]; omega
        go_wp2_with fail
        go_roundg (m - (k + 1))
        case measure => omega
        case rel => exact ⟨k + 1, s + l, hlt, rfl, by go_num, by go_num, hb2, HS2, rfl⟩
      · obtain rfl : k = m := by omega
        have HE : Hid (s = t) := by
          unfold Hid
          rw [← HS.out, HT.out, HL.out]
        obtain rfl := HE.out
        go_wp2_with fail
        go_meet
        exact ⟨rfl, rfl⟩
  case rest =>
  obtain ⟨rfl, rfl⟩ := hcut
  go_upto_region 10 with (go_at_call 61; refine (cG _).out.mono ?_; rintro e w1 ⟨⟨A0, c0, rfl, h1⟩, hb⟩)
  have H0 := Lib.hid h1
  have HB0 := Lib.hid hb
  clear h1 hb cG
  go_wp2_with fail
  go_loopg [6, 27] m (fun gk bv iv wr => ∃ (k j c' : Nat) (A' : Option Addr), k ≤ m ∧ gk = m - k ∧ iv = .int .i64 (k : Int) ∧ bv = .slice A' j c' ∧ j ≤ 1000000 ∧ Hid (((LS.take k).flatten).length = j) ∧ Hid (M3 wr wc.heap.size A' c' ((LS.take k).flatten)) ∧ Hid (Below wc.heap.size wc wr))
  case atStart => exact ⟨0, 0, c0, A0, Nat.zero_le _, rfl, rfl, rfl, Nat.zero_le _, rfl, H0, HB0⟩
  case round =>
    obtain ⟨k, j, c', A', hk, rfl, rfl, rfl, hj, HJ, HV, HB⟩ := hrel
    clear H0 HB0
    by_cases hlt : k < m
    · have hkL : k < LS.length := by rw [HM.out]; exact hlt
      obtain ⟨L, hLL⟩ : ∃ L, L = LS[k] := ⟨_, rfl⟩
      have hL' : LS[k]? = some L := by rw [hLL]; exact List.getElem?_eq_getElem hkL
      obtain ⟨A, c, hc, hML⟩ := (HH.out.kept HB.out) k L hL'
      obtain ⟨l, hll⟩ : ∃ l, l = L.length := ⟨_, rfl⟩
      rw [← hll] at hc
      have HS2 := Lib.hid (flat_next hL')
      have hb2 : j + l ≤ 1000000 := by
        have := HF.out (k + 1)
        rw [HS2.out, List.length_append, HJ.out, ← hll] at this
        exact this
      have HAL := Lib.hid hML
      have HLN := Lib.hid hll.symm
      have hn2 : j + l ≤ 1048576 := by omega
      have hs2 := HB.out.size
      have hw2 : IntKind.i64.wrap ((k : Int) + 1) = ((k + 1 : Nat) : Int) := by rw [IntKind.wrap_i64]; omega
      clear hLL hL' hML hll hkL
      go_wp2_with (with_reducible refine wpList_append_allK (K := MgK) Try.underlying26 mginfo rfl (by decide) (by decide) rfl (.tmp 31) (.tmp 32) rfl wc.heap.size A' j c' _ rfl HJ.out HV.out A l c L rfl HLN.out HAL.out hn2 hs2 ?_; intro Aw cw w4 hv4 hb4)
      go_roundg (m - (k + 1))
      case measure => omega
      case rel => exact ⟨k + 1, j + l, cw, Aw, hlt, rfl, by go_num, rfl, hb2, by unfold Hid; rw [HS2.out, List.length_append, HJ.out, HLN.out], by rw [HS2.out]; exact hv4.out, HB.out.trans hb4.out⟩
    · obtain rfl : k = m := by omega
      rw [HT.out] at HV HJ
      have HE : Hid (j = t) := by
        unfold Hid
        rw [← HJ.out, HL.out]
      obtain rfl := HE.out
      clear hlt
      go_wp2_with fail
      go_ret
      exact ⟨⟨A', c', rfl, HV.out⟩, HB.out⟩
end Bu
end Go.Proofs.Ytlabbmfiecbigaa

namespace Go.Proofs.Ytlabbmfiecbigaa
open Go.RowKit
namespace Bu
open Mem Lx
/-- a slice that reads as L, and has room for it -/
abbrev MC (w : World) (A : Option Addr) (c : Nat) (L : List Mg) : Prop := RC MgK w A c L
theorem MC.kept {w w' : World} {A : Option Addr} {c : Nat} {L : List Mg} (h : MC w A c L) (hb : Below w.heap.size w w') : MC w' A c L := ⟨h.1.kept hb, h.2⟩
theorem VK.mc {w : World} {A : Option Addr} {B c : Nat} {L : List Mg} (h : M3 w B A c L) : MC w A c L := by
  refine ⟨h.rd, ?_⟩
  rcases h.2 with ⟨_, h1⟩ | ⟨g, cap, cur, h1, _, _, hn, _⟩
  · omega
  · obtain ⟨_, rfl⟩ : A = some ⟨g, 0, none⟩ ∧ c = cap := by simpa using h1
    exact hn
def cutM (A : Option Addr) (c k : Nat) : Option Addr := if c = k then A else A.map (·.add (k * 3))
theorem MC.cut {w : World} {A : Option Addr} {c : Nat} {L : List Mg} (h : MC w A c L) (k : Nat) : MC w (cutM A c k) (c - k) (L.drop k) := by
  refine ⟨?_, by rw [List.length_drop]; have := h.2; omega⟩
  rcases Nat.lt_or_ge k L.length with hk | hk
  · obtain ⟨b, o, e, hd⟩ := h.1.drop hk
    subst e
    have hc := h.2
    unfold cutM
    rw [if_neg (by omega)]
    have : (⟨b, o, none⟩ : Addr).add (k * 3) = ⟨b, o + k * 3, none⟩ := by by_cases h0 : k * 3 = 0 <;> simp [Addr.add, h0]
    rw [Option.map_some, this]
    exact hd
  · rw [List.drop_eq_nil_of_le hk]
    exact RdK.nil _ _
theorem MC.upTo {w : World} {A : Option Addr} {c : Nat} {L : List Mg} (h : MC w A c L) (k : Nat) : MC w A c (L.take k) :=
  ⟨h.1.take k, by rw [List.length_take]; have := h.2; omega⟩
theorem run_cutM (A : Option Addr) (n c k : Nat) (hk : k ≤ n) (w : World) :
    (Instr.slice 26 (.slice A n c) (some (.int .i64 (k : Int))) none none).run Try.prog w = .ok (.slice (cutM A c k) (n - k) (c - k)) w := by
  obtain ⟨i, hi, -, hs, -⟩ := info_parts mginfo
  have ht : Try.prog.underlying 26 = some (.slice 45) := Try.underlying26
  have he : Try.prog.elem 26 = 45 := by simp [Program.elem, ht]
  rw [run_slice_l w 26 A n c (by rw [he]; exact ht) .i64 (k : Int) (by omega) (by omega), he]
  simp [sizeOf, typeInfo, hi, hs, sliced, cutM, Result.andThen]
theorem run_upToM (A : Option Addr) (n c k : Nat) (hk : k ≤ c) (w : World) :
    (Instr.slice 26 (.slice A n c) none (some (.int .i64 (k : Int))) none).run Try.prog w = .ok (.slice A k c) w := by
  obtain ⟨i, hi, -, hs, -⟩ := info_parts mginfo
  exact run_upTo Try.underlying26 hi A n c k hk w
theorem run_midM (A : Option Addr) (n c p q : Nat) (hp : p ≤ q) (hq : q ≤ c) (w : World) :
    (Instr.slice 26 (.slice A n c) (some (.int .i64 (p : Int))) (some (.int .i64 (q : Int))) none).run Try.prog w = .ok (.slice (cutM A c p) (q - p) (c - p)) w := by
  obtain ⟨i, hi, -, hs, -⟩ := info_parts mginfo
  have ht : Try.prog.underlying 26 = some (.slice 45) := Try.underlying26
  have he : Try.prog.elem 26 = 45 := by simp [Program.elem, ht]
  rw [run_slice_lh w 26 A n c (by rw [he]; exact ht) .i64 .i64 (p : Int) (q : Int) (by omega) (by omega) (by omega), he]
  simp [sizeOf, typeInfo, hi, hs, sliced, cutM, Result.andThen]
/-! ### lists -/
theorem mem_at {L : List Mg} {x : Mg} (h : x ∈ L) : ∃ i : Nat, L[i]? = some x := List.getElem?_of_mem h
theorem mem_take_at {L : List Mg} {p : Nat} {x : Mg} (h : x ∈ L.take p) : ∃ i, i < p ∧ L[i]? = some x := by
  obtain ⟨i, hi⟩ := List.getElem?_of_mem h
  rw [List.getElem?_take] at hi
  split at hi
  · exact ⟨i, by assumption, hi⟩
  · cases hi
theorem mem_drop_at {L : List Mg} {p : Nat} {x : Mg} (h : x ∈ L.drop p) : ∃ i, p ≤ i ∧ L[i]? = some x := by
  obtain ⟨i, hi⟩ := List.getElem?_of_mem h
  rw [List.getElem?_drop] at hi
  exact ⟨p + i, by omega, hi⟩
theorem take_drop_drop (L : List Mg) {p q : Nat} (h : p ≤ q) : L.take p ++ (L.take q).drop p ++ L.drop q = L := by
  have e : L.take p = (L.take q).take p := by rw [List.take_take, Nat.min_eq_left h]
  rw [e, List.take_append_drop, List.take_append_drop]
theorem Cut.taken {P : Mg → Bool} {L : List Mg} {p q : Nat} (h : Cut P L p q) (most : Int) : takeD P most L = (((L.take q).drop p).take most.toNat, L.take p ++ ((L.take q).drop p).drop most.toNat ++ L.drop q) := by
  have h2 : ∀ x, x ∈ L.take p → P x = false := fun x hx => by
    obtain ⟨i, hi, e⟩ := mem_take_at hx
    exact h.ahead i x hi e
  have h3 : ∀ x, x ∈ (L.take q).drop p → P x = true := fun x hx => by
    obtain ⟨i, hi, e⟩ := mem_drop_at hx
    rw [List.getElem?_take] at e
    split at e
    · exact h.inn i x hi (by assumption) e
    · cases e
  have h4 : ∀ x, x ∈ L.drop q → P x = false := fun x hx => by
    obtain ⟨i, hi, e⟩ := mem_drop_at hx
    exact h.behind i x hi e
  have := takeD_parts (most := most) h2 h3 h4
  rw [take_drop_drop L h.pq] at this
  exact this
theorem take_min {b : List Mg} {j m : Nat} (hj : j = min b.length m) : b.take m = b.take j ∧ b.drop m = b.drop j := by
  rcases Nat.lt_or_ge m b.length with h | h
  · obtain rfl : j = m := by omega
    exact ⟨rfl, rfl⟩
  · obtain rfl : j = b.length := by omega
    rw [List.take_of_length_le h, List.drop_eq_nil_of_le h]
    simp
/-- what Take takes, and what it leaves, by the places -/
theorem Cut.take {P : Mg → Bool} {L : List Mg} {p q j : Nat} (h : Cut P L p q) (most : Int) (hj : j = min (q - p) most.toNat) : takeD P most L = ((L.take (p + j)).drop p, L.take p ++ L.drop (p + j)) := by
  have hlen : ((L.take q).drop p).length = q - p := by
    rw [List.length_drop, List.length_take, Nat.min_eq_left h.le]
  obtain ⟨e1, e2⟩ := take_min (b := (L.take q).drop p) (j := j) (m := most.toNat) (by rw [hlen]; exact hj)
  rw [h.taken most, e1, e2]
  have hjq : p + j ≤ q := by
    have := h.pq
    omega
  have e3 : (L.take (p + j)).drop p = ((L.take q).drop p).take j := by
    rw [List.drop_take, List.drop_take, List.take_take, Nat.add_sub_cancel_left, Nat.min_eq_left (by omega)]
  have e4 : L.drop (p + j) = ((L.take q).drop p).drop j ++ L.drop q := by
    have : ((L.take q).drop p ++ L.drop q) = L.drop p := by
      rw [← List.drop_append_of_le_length (by rw [List.length_take, Nat.min_eq_left h.le]; exact h.pq), List.take_append_drop]
    rw [← List.drop_append_of_le_length (by rw [hlen]; omega), this, List.drop_drop]
  rw [e3, e4, List.append_assoc]
theorem Cut.part {P : Mg → Bool} {L : List Mg} {p q : Nat} (h : Cut P L p q) : (takeD P (L.length : Int) L).1 = (L.take q).drop p := by
  have h1 := h.pq
  have h2 := h.le
  rw [h.take (j := q - p) _ (by omega)]
  rw [show p + (q - p) = q by omega]
theorem Lb.split {L : List Mg} {key : ByteArray} {p : Nat} (h : Lb L key p) : takeD (fun m => decide (cmpB m.1 key < 0)) (L.length : Int) L = (L.take p, L.drop p) := by
  have hc : Cut (fun m => decide (cmpB m.1 key < 0)) L 0 p := ⟨Nat.zero_le _, h.le, fun i m hi => absurd hi (Nat.not_lt_zero _), fun i m _ hi hm => decide_eq_true (h.lo i m hi hm), fun i m hi hm => decide_eq_false (by have := h.hi i m hi hm; omega)⟩
  have := h.le
  rw [hc.take (j := p) _ (by omega)]
  simp
theorem Lb.found {L : List Mg} {key : ByteArray} {p : Nat} {m : Mg} (h : Lb L key p) (hm : L[p]? = some m) (hk : m.1 = key) : findD L key = some m :=
  findD_at hm hk fun i x hi hx e => by
    have := h.lo i x hi hx
    rw [e, cmpB_self] at this
    omega
/-- those behind the place, but the key's own, are behind the key -/
theorem Lb.above {L : List Mg} {key : ByteArray} {p : Nat} (h : Lb L key p) (hr : Ri L) {i : Nat} {m : Mg} (hi : p ≤ i) (hm : L[i]? = some m) (hn : i = p → m.1 ≠ key) : cmpB key m.1 < 0 := by
  have h1 := h.hi i m hi hm
  have h2 := cmpB_neg m.1 key
  rcases cmpB_tri key m.1 with h3 | h3 | h3
  · exact h3
  · exfalso
    rcases Nat.lt_or_ge p i with hlt | hge
    · have hp : p < L.length := Nat.lt_trans hlt (List.getElem?_eq_some_iff.1 hm).1
      have h4 := hr.at_ (nat_len hp) hm hlt
      rw [← h3] at h4
      have h5 := h.hi p L[p] (Nat.le_refl _) (nat_len hp)
      omega
    · exact hn (by omega) h3.symm
  · omega
theorem Lb.lacks {L : List Mg} {key : ByteArray} {p : Nat} (h : Lb L key p) (hr : Ri L) (hn : ¬ ∃ m, L[p]? = some m ∧ m.1 = key) : findD L key = none :=
  findD_none fun i m _ hm e => by
    rcases Nat.lt_or_ge i p with h1 | h1
    · have := h.lo i m h1 hm
      rw [e, cmpB_self] at this
      omega
    · have := h.above hr h1 hm fun h2 h3 => hn ⟨m, by rw [← h2]; exact hm, h3⟩
      rw [e, cmpB_self] at this
      omega
/-- the buffer with a message -/
theorem Lb.put {L : List Mg} {m : Mg} {p q : Nat} (h : Lb L m.1 p) (hr : Ri L) (hq : q = p ∧ (¬ ∃ x, L[p]? = some x ∧ x.1 = m.1) ∨ q = p + 1 ∧ ∃ x, L[p]? = some x ∧ x.1 = m.1) : putD L m = L.take p ++ [m] ++ L.drop q := by
  have hpq : p ≤ q := by omega
  have h1 : ∀ x, x ∈ L.take p → cmpB x.1 m.1 < 0 := fun x hx => by
    obtain ⟨i, hi, e⟩ := mem_take_at hx
    exact h.lo i x hi e
  have h2 : ∀ x, x ∈ L.drop q → cmpB m.1 x.1 < 0 := fun x hx => by
    obtain ⟨i, hi, e⟩ := mem_drop_at hx
    refine h.above hr (by omega) e fun h3 h4 => ?_
    rcases hq with ⟨_, hn⟩ | ⟨h5, _⟩
    · exact hn ⟨x, by rw [← h3]; exact e, h4⟩
    · omega
  refine Ri.ext (hr.put m) ?_ fun x => ?_
  · refine List.pairwise_append.2 ⟨List.pairwise_append.2 ⟨hr.sublist (List.take_sublist _ _), List.pairwise_singleton _ _, fun a ha b hb => ?_⟩, hr.sublist (List.drop_sublist _ _), fun a ha b hb => ?_⟩
    · obtain rfl : b = m := by simpa using hb
      exact h1 a ha
    · rcases List.mem_append.1 ha with ha | ha
      · exact cmpB_trans (h1 a ha) (h2 b hb)
      · obtain rfl : a = m := by simpa using ha
        exact h2 b hb
  · rw [mem_putD, List.mem_append, List.mem_append, List.mem_singleton]
    constructor
    · rintro (rfl | ⟨hx, hne⟩)
      · exact .inl (.inr rfl)
      · obtain ⟨i, hi⟩ := mem_at hx
        rcases Nat.lt_or_ge i p with h3 | h3
        · left; left
          refine List.mem_of_getElem? (i := i) ?_
          rw [List.getElem?_take, if_pos h3]
          exact hi
        · rcases Nat.lt_or_ge i q with h4 | h4
          · exfalso
            rcases hq with ⟨h5, _⟩ | ⟨h5, y, hy, hk⟩
            · omega
            · obtain rfl : i = p := by omega
              rw [hi] at hy
              cases hy
              exact hne hk
          · right
            refine List.mem_of_getElem? (i := i - q) ?_
            rw [List.getElem?_drop, show q + (i - q) = i by omega]
            exact hi
    · rintro ((hx | rfl) | hx)
      · exact .inr ⟨List.mem_of_mem_take hx, cmpB_ne (h1 x hx)⟩
      · exact .inl rfl
      · exact .inr ⟨List.mem_of_mem_drop hx, fun e => cmpB_ne (h2 x hx) e.symm⟩
theorem mergeD_none {L : List Mg} (h : Ri L) : mergeD L [] = L := by
  refine Ri.ext (Ri.merge List.Pairwise.nil).1 h fun x => ?_
  rw [mem_mergeD h]
  simp
theorem mergeD_lt {x y : Mg} {l m : List Mg} (h : Ri (x :: l)) (k : Ri (y :: m)) (hc : cmpB x.1 y.1 < 0) : mergeD (x :: l) (y :: m) = x :: mergeD l (y :: m) := by
  obtain ⟨h1, h2⟩ := List.pairwise_cons.1 h
  obtain ⟨k1, k2⟩ := List.pairwise_cons.1 k
  have hy : ∀ z, z ∈ y :: m → cmpB x.1 z.1 < 0 := fun z hz => by
    rcases List.mem_cons.1 hz with rfl | hz
    · exact hc
    · exact cmpB_trans hc (k1 z hz)
  refine Ri.ext (Ri.merge k).1 (List.pairwise_cons.2 ⟨fun z hz => ?_, (Ri.merge k).1⟩) fun z => ?_
  · rcases (mem_mergeD h2).1 hz with h3 | ⟨h3, _⟩
    · exact h1 z h3
    · exact hy z h3
  · rw [mem_mergeD h, List.mem_cons (a := z) (b := x), List.mem_cons (a := z) (b := x), mem_mergeD h2]
    constructor
    · rintro ((h3 | h3) | ⟨h3, h4⟩)
      · exact .inl h3
      · exact .inr (.inl h3)
      · exact .inr (.inr ⟨h3, fun y hy => h4 y (by simp [hy])⟩)
    · rintro (h3 | h3 | ⟨h3, h4⟩)
      · exact .inl (.inl h3)
      · exact .inl (.inr h3)
      · exact .inr ⟨h3, fun u hu => by
          rcases List.mem_cons.1 hu with rfl | hu
          · exact cmpB_ne (hy z h3)
          · exact h4 u hu⟩
theorem mergeD_gt {x y : Mg} {l m : List Mg} (h : Ri (x :: l)) (k : Ri (y :: m)) (hc : cmpB y.1 x.1 < 0) : mergeD (x :: l) (y :: m) = y :: mergeD (x :: l) m := by
  obtain ⟨h1, h2⟩ := List.pairwise_cons.1 h
  obtain ⟨k1, k2⟩ := List.pairwise_cons.1 k
  have hx : ∀ z, z ∈ x :: l → cmpB y.1 z.1 < 0 := fun z hz => by
    rcases List.mem_cons.1 hz with rfl | hz
    · exact hc
    · exact cmpB_trans hc (h1 z hz)
  refine Ri.ext (Ri.merge k).1 (List.pairwise_cons.2 ⟨fun z hz => ?_, (Ri.merge k2).1⟩) fun z => ?_
  · rcases (mem_mergeD h).1 hz with h3 | ⟨h3, _⟩
    · exact hx z h3
    · exact k1 z h3
  · rw [mem_mergeD h, List.mem_cons (a := z) (b := y), List.mem_cons (a := z) (b := y), mem_mergeD h]
    constructor
    · rintro (h3 | ⟨h3 | h3, h4⟩)
      · exact .inr (.inl h3)
      · exact .inl h3
      · exact .inr (.inr ⟨h3, h4⟩)
    · rintro (rfl | h3 | ⟨h3, h4⟩)
      · exact .inr ⟨.inl rfl, fun u hu => (cmpB_ne (hx u hu)).symm⟩
      · exact .inl h3
      · exact .inr ⟨.inr h3, h4⟩
theorem mergeD_eq {x y : Mg} {l m : List Mg} (h : Ri (x :: l)) (k : Ri (y :: m)) (hc : x.1 = y.1) : mergeD (x :: l) (y :: m) = mergeD (x :: l) m := by
  obtain ⟨k1, k2⟩ := List.pairwise_cons.1 k
  refine Ri.ext (Ri.merge k).1 (Ri.merge k2).1 fun z => ?_
  rw [mem_mergeD h, mem_mergeD h, List.mem_cons (a := z) (b := y)]
  constructor
  · rintro (h3 | ⟨rfl | h3, h4⟩)
    · exact .inl h3
    · exact absurd hc (h4 x (by simp))
    · exact .inr ⟨h3, h4⟩
  · rintro (h3 | ⟨h3, h4⟩)
    · exact .inl h3
    · exact .inr ⟨.inr h3, h4⟩
end Bu
end Go.Proofs.Ytlabbmfiecbigaa

namespace Go.Proofs.Ytlabbmfiecbigaa
open Go.RowKit
namespace Mem
/-- append of one struct as an event of a region that draws its order -/
theorem evAt_appendK {α : Type} {K : Kind α} {P : Program} {SS : List Nat} {S : TypeId} {z : Value} {by_ : Nat} (hS : P.underlying S = some (.slice K.T)) (hinfo : (P.info? K.T).map (fun i => (i.zero, i.size, i.bytes)) = some (some z, K.k, by_)) (hz : z.cells.size = K.k) (hby : by_ ≤ 64) (hk : 0 < K.k)
    {w : World} {o : Oper} {a : Act} {V : Value → World → Prop} (s x : Operand)
    (ho : o.op = .call { callee := .builtin .append, args := #[s, x], argTypes := #[S, S] })
    (B : Nat) (A : Option Addr) (n c : Nat) (L : List α) (hs : a.eval s = .slice A n c) (hvn : L.length = n) (h : VK K w B A c L) (xb cx : Nat) (y : α) (hx : a.eval x = .slice (some ⟨xb, 0, none⟩) 1 cx) (hu : w.heap[xb]? = some (.cells (K.cs y).toArray K.T (0, 0))) (hn : n + 1 ≤ 1048576) (hB : B ≤ w.heap.size)
    (hSS : ∀ a, A = some a → a.block ∈ SS) (hh : ∀ A' c' w', AppdK K B w w' A A' c' (L ++ [y]) → V (.slice A' (n + 1) c') w') : Flow.evAt P SS o a w V := by
  subst hvn
  obtain ⟨A', c', w', hrun, hd⟩ := run_appendK hS hinfo hz hby o.type h xb cx y hu hn hk hB
  unfold Flow.evAt execOp
  simp only [ho, resolve, invoke, builtin, Sem.run_bind, Sem.run_pure, Result.andThen_ok, List.map_toArray, List.map_cons, List.map_nil, hs, hx, hrun]
  exact ⟨hh A' c' w' hd, hd.below.os, hd.below.tape, hd.below.output, hd.below.size, fun k hk hn => hd.block k hk fun a ha hak => hn (hak ▸ hSS a ha)⟩
/-- append of a whole slice to nil, as an event -/
theorem evAt_append_nilK {α : Type} {K : Kind α} {P : Program} {SS : List Nat} {S : TypeId} {z : Value} {by_ : Nat} (hS : P.underlying S = some (.slice K.T)) (hinfo : (P.info? K.T).map (fun i => (i.zero, i.size, i.bytes)) = some (some z, K.k, by_)) (hz : z.cells.size = K.k) (hby : by_ ≤ 64) (hk : 0 < K.k)
    {w : World} {o : Oper} {a : Act} {V : Value → World → Prop} (s x : Operand)
    (ho : o.op = .call { callee := .builtin .append, args := #[s, x], argTypes := #[S, S] })
    (B : Nat) (hs : a.eval s = .slice none 0 0) (A2 : Option Addr) (m c2 : Nat) (M : List α) (hx : a.eval x = .slice A2 m c2) (hM : M.length = m) (hb : RdK K w A2 M) (hn : m ≤ 1048576) (hB : B ≤ w.heap.size)
    (hh : ∀ A' c' w', VK K w' B A' c' M → Below w.heap.size w w' → V (.slice A' m c') w') : Flow.evAt P SS o a w V := by
  subst hM
  obtain ⟨A', c', w', hrun, hd⟩ := run_append_allA (L := []) hS hinfo hz hby o.type (VK.nil w B) c2 hb (by simpa using hn) hk hB
  simp only [List.length_nil, Nat.zero_add] at hrun
  unfold Flow.evAt execOp
  simp only [ho, resolve, invoke, builtin, Sem.run_bind, Sem.run_pure, Result.andThen_ok, List.map_toArray, List.map_cons, List.map_nil, hs, hx, hrun]
  have hblk : ∀ k, k < w.heap.size → w'.heap[k]? = w.heap[k]? := fun k hk => hd.block k hk fun a ha => by cases ha
  have hbel : Below w.heap.size w w' := ⟨hd.below.os, hd.below.tape, hd.below.output, hd.below.size, hblk⟩
  exact ⟨hh A' c' w' (by simpa using hd.vo) hbel, hd.below.os, hd.below.tape, hd.below.output, hd.below.size, fun k hk _ => hblk k hk⟩
/-- what an append of one struct leaves, told from an earlier world -/
structure AppW {α : Type} (K : Kind α) (B : Nat) (w w' : World) (A A' : Option Addr) (c' : Nat) (L : List α) : Prop where
  vo : VK K w' B A' c' L
  below : Below B w w'
  block : ∀ k, k < w.heap.size → (∀ a, A = some a → a.block ≠ k) → w'.heap[k]? = w.heap[k]?
  row : ∀ a', A' = some a' → (∃ a, A = some a ∧ a'.block = a.block) ∨ w.heap.size ≤ a'.block
theorem AppW.then_ {α : Type} {K : Kind α} {B c' : Nat} {w w' w2 : World} {A A' : Option Addr} {L : List α} (h : AppW K B w w' A A' c' L) (hb : Below w'.heap.size w' w2) (hB : B ≤ w'.heap.size) : AppW K B w w2 A A' c' L :=
  ⟨h.vo.kept hb, h.below.trans (hb.mono hB), fun k hk hn => (hb.block k (Nat.lt_of_lt_of_le hk h.below.size)).trans (h.block k hk hn), h.row⟩
/-- the event's answer -/
def EvApp {α : Type} (K : Kind α) (B : Nat) (w : World) (A : Option Addr) (n : Nat) (L : List α) (v : Value) (w' : World) : Prop := ∃ A' c', v = .slice A' n c' ∧ AppW K B w w' A A' c' L
theorem evAt_appW {α : Type} {K : Kind α} {P : Program} {SS : List Nat} {S : TypeId} {z : Value} {by_ : Nat} (hS : P.underlying S = some (.slice K.T)) (hinfo : (P.info? K.T).map (fun i => (i.zero, i.size, i.bytes)) = some (some z, K.k, by_)) (hz : z.cells.size = K.k) (hby : by_ ≤ 64) (hk : 0 < K.k)
    {w W2 : World} {o : Oper} {a : Act} (s x : Operand)
    (ho : o.op = .call { callee := .builtin .append, args := #[s, x], argTypes := #[S, S] })
    (B : Nat) (A : Option Addr) (n c : Nat) (L : List α) (hs : a.eval s = .slice A n c) (hvn : L.length = n) (h : VK K w B A c L) (hkk : Below w.heap.size w W2) (xb cx : Nat) (y : α) (hx : a.eval x = .slice (some ⟨xb, 0, none⟩) 1 cx) (hu : W2.heap[xb]? = some (.cells (K.cs y).toArray K.T (0, 0))) (hn : n + 1 ≤ 1048576) (hB : B ≤ w.heap.size)
    (hSS : ∀ a, A = some a → a.block ∈ SS) : Flow.evAt P SS o a W2 (EvApp K B w A (n + 1) (L ++ [y])) :=
  evAt_appendK hS hinfo hz hby hk s x ho B A n c L hs hvn (h.kept hkk) xb cx y hx hu hn (Nat.le_trans hB hkk.size) hSS fun A' c' w' hd => ⟨A', c', rfl, hd.vo, (hkk.mono hB).trans hd.below, fun k hk hn => (hd.block k (Nat.lt_of_lt_of_le hk hkk.size) hn).trans (hkk.block k hk), fun a' ha' => by
    rcases hd.row a' ha' with h1 | h1
    · exact .inl h1
    · exact .inr (by rw [h1]; exact hkk.size)⟩
theorem VK.blocks {α : Type} {K : Kind α} {w : World} {B c : Nat} {A : Option Addr} {L : List α} (h : VK K w B A c L) : ∃ S : List Nat, (∀ a, A = some a → a.block ∈ S) ∧ ∀ k, k ∈ S → B ≤ k ∧ k < w.heap.size := by
  cases A with
  | none => exact ⟨[], (fun a ha => by cases ha), (fun k hk => by cases hk)⟩
  | some x =>
    refine ⟨[x.block], (fun a ha => by cases ha; simp), fun k hk => ?_⟩
    obtain rfl : k = x.block := by simpa using hk
    exact h.at_ x rfl
end Mem
end Go.Proofs.Ytlabbmfiecbigaa
