/-
  FanR2. Put together by pack.py.
-/
import Derived.Test.YtlabbmfiecbigaaPkAL
import Derived.Test.YtlabbmfiecbigaaPkAE

namespace Go.Proofs.Ytlabbmfiecbigaa
open Go.RowKit
namespace Fa
open Mem Lx Bu
/-- a span's box and the answer's, the first as it is told -/
def Bx2 (W : World) (g : Nat) (x y : Value) (z : Value) (w : World) : Prop := Below W.heap.size W w ∧ W.heap.size ≤ g ∧ w.heap[g]? = some (.cells #[x, y, z] 37 (0, 0)) ∧ w.heap[g + 1]? = some (.cells #[.string ⟨#[]⟩, .string ⟨#[]⟩, .bool false] 37 (0, 0))
theorem Bx2.kept {W : World} {g : Nat} {x y z : Value} {w w' : World} (h : Bx2 W g x y z w) (hb : Below w.heap.size w w') : Bx2 W g x y z w' := ⟨h.1.trans (hb.mono h.1.size), h.2.1, kept3 h.2.2.1 hb, kept3 h.2.2.2 hb⟩
theorem Bx2.set0 {W : World} {g : Nat} {x y z : Value} {w : World} (h : Bx2 W g x y z w) (v : Value) : Bx2 W g v y z (w.setCell ⟨g, 0, none⟩ v) := ⟨h.1.setCell h.2.1 v, h.2.1, set_box0 h.2.2.1 v, (set_other v (by omega)).trans h.2.2.2⟩
theorem Bx2.set1 {W : World} {g : Nat} {x y z : Value} {w : World} (h : Bx2 W g x y z w) (v : Value) : Bx2 W g x v z (w.setCell ⟨g, 1, none⟩ v) := ⟨h.1.setCell h.2.1 v, h.2.1, set_box1 h.2.2.1 v, (set_other v (by omega)).trans h.2.2.2⟩
theorem Bx2.set2 {W : World} {g : Nat} {x y z : Value} {w : World} (h : Bx2 W g x y z w) (v : Value) : Bx2 W g x y v (w.setCell ⟨g, 2, none⟩ v) := ⟨h.1.setCell h.2.1 v, h.2.1, set_box2 h.2.2.1 v, (set_other v (by omega)).trans h.2.2.2⟩
theorem loS_size {L : List ByteArray} (hk : ∀ m, m ∈ L → m.size ≤ maxLen) {lo : ByteArray} (hlo : lo.size ≤ maxLen) (i : Nat) : (loS L i lo).size ≤ maxLen := by
  cases i with
  | zero => exact hlo
  | succ i =>
    cases hp : L[i]? with
    | none => rw [loS_none hp]; exact hlo
    | some p =>
      rw [loS_some hp]
      split
      · exact hk p (List.mem_of_getElem? hp)
      · exact hlo
theorem spanS_size {L : List ByteArray} (hk : ∀ m, m ∈ L → m.size ≤ maxLen) {lo : ByteArray} (hlo : lo.size ≤ maxLen) (i : Int) (hi : ByteArray) (top : Bool) : (spanS L i lo hi top).1.1.size ≤ maxLen := by
  have h2 := loS_size hk hlo i.toNat
  unfold spanS
  by_cases h0 : i < 0 ∨ (L.length : Int) < i
  · rw [if_pos h0]
    exact Nat.zero_le _
  · rw [if_neg h0]
    by_cases he : emptyB (loS L i.toNat lo) (if (hiS L i.toNat hi top).2 = true then ⟨#[]⟩ else (hiS L i.toNat hi top).1) (hiS L i.toNat hi top).2 = true
    · simp only
      rw [if_pos he]
      exact Nat.zero_le _
    · simp only
      rw [if_neg he]
      exact h2
set_option maxRecDepth 100000 in
set_option maxHeartbeats 4000000 in
theorem RSpan_any {W : World} {A : Option Addr} {c : Nat} {L : List ByteArray} (h : SL W A L) (i : Int) (lo hi : ByteArray) (top : Bool) (hlo : lo.size ≤ maxLen) (hk : ∀ m, m ∈ L → m.size ≤ maxLen) (hl : L.length ≤ 1048576) : Calls Try.prog 10 #[.slice A L.length c, .int .i64 i, spanV lo hi top] W fun e w' => e = .returned (.tuple #[spanV (spanS L i lo hi top).1.1 (spanS L i lo hi top).1.2.1 (spanS L i lo hi top).1.2.2, .bool (spanS L i lo hi top).2]) ∧ Below W.heap.size W w' := by
  have HH := Lib.hid h
  have HS : Hid (∀ k : Nat, i = (k : Int) → k ≤ L.length → spanS L i lo hi top = if emptyB (loS L k lo) (if (hiS L k hi top).2 = true then ⟨#[]⟩ else (hiS L k hi top).1) (hiS L k hi top).2 = true then ((⟨#[]⟩, ⟨#[]⟩, false), false) else ((loS L k lo, if (hiS L k hi top).2 = true then ⟨#[]⟩ else (hiS L k hi top).1, (hiS L k hi top).2), true)) := fun k e hk => by
    subst e
    unfold spanS
    rw [if_neg (by omega)]
    rfl
  have HS0 : Hid (i < 0 ∨ (L.length : Int) < i → spanS L i lo hi top = ((⟨#[]⟩, ⟨#[]⟩, false), false)) := fun e => by
    unfold spanS
    rw [if_pos e]
  have HLS : Hid (∀ k, (loS L k lo).size ≤ maxLen) := fun k => loS_size hk hlo k
  have HK := Lib.hid hk
  generalize spanS L i lo hi top = R at *
  generalize hn : L.length = n at *
  have HN := Lib.hid hn
  clear h hk hn hlo
  go_enter Try.func10, Try.ntmps10
  go_upto_region 1 with fail
  have HB0 : Hid (Bx2 W W.heap.size (.string lo) (.string hi) (.bool top) ((W.alloc (.cells #[.string lo, .string hi, .bool top] 37)).alloc (.cells #[.string ⟨#[]⟩, .string ⟨#[]⟩, .bool false] 37))) := ⟨(two_new _ _ _).2.2, Nat.le_refl _, (two_new _ _ _).1, (two_new _ _ _).2.1⟩
  generalize (W.alloc (.cells #[.string lo, .string hi, .bool top] 37)).alloc (.cells #[.string ⟨#[]⟩, .string ⟨#[]⟩, .bool false] 37) = w1 at *
  obtain ⟨g, hg⟩ : ∃ g, g = W.heap.size := ⟨_, rfl⟩
  rw [← hg] at HB0
  simp only [← hg]
  clear hg
  by_cases hr : i < 0 ∨ (n : Int) < i
  · obtain rfl := HS0.out hr
    have f0 := free3 HB0.out.2.2.2 0
    have f1 := free3 HB0.out.2.2.2 1
    have f2 := free3 HB0.out.2.2.2 2
    obtain ⟨d0, d1, d2⟩ := box3 HB0.out.2.2.2
    have hgW := HB0.out.2.1
    have fin : Hid (Below W.heap.size W (set3 w1 (g + 1) (.string ⟨#[]⟩) (.string ⟨#[]⟩) (.bool false)) ∧ (set3 w1 (g + 1) (.string ⟨#[]⟩) (.string ⟨#[]⟩) (.bool false)).heap[g + 1]? = some (.cells #[.string ⟨#[]⟩, .string ⟨#[]⟩, .bool false] 37 (0, 0))) := ⟨set3_below HB0.out.1 (by omega) _ _ _, set3_at HB0.out.2.2.2 _ _ _⟩
    unfold set3 at fin
    clear HS HS0
    rcases hr with hr | hr
    · go_wp2_with fail
      generalize ((w1.setCell ⟨g + 1, 0, none⟩ (.string ⟨#[]⟩)).setCell ⟨g + 1, 1, none⟩ (.string ⟨#[]⟩)).setCell ⟨g + 1, 2, none⟩ (.bool false) = w9 at *
      obtain ⟨o0, o1, o2⟩ := box3 fin.out.2
      exact bodyPost_ret (v := .tuple #[.agg #[.string ⟨#[]⟩, .string ⟨#[]⟩, .bool false], .bool false]) (by simp [results, Try.results10, go_sem, o0, o1, o2]) rfl ⟨rfl, fin.out.1⟩
    · have hr0 : decide (i < 0) = false := by simp; omega
      go_wp2_with fail
      generalize ((w1.setCell ⟨g + 1, 0, none⟩ (.string ⟨#[]⟩)).setCell ⟨g + 1, 1, none⟩ (.string ⟨#[]⟩)).setCell ⟨g + 1, 2, none⟩ (.bool false) = w9 at *
      obtain ⟨o0, o1, o2⟩ := box3 fin.out.2
      exact bodyPost_ret (v := .tuple #[.agg #[.string ⟨#[]⟩, .string ⟨#[]⟩, .bool false], .bool false]) (by simp [results, Try.results10, go_sem, o0, o1, o2]) rfl ⟨rfl, fin.out.1⟩
  obtain ⟨k, hki⟩ : ∃ k : Nat, i = (k : Int) := ⟨i.toNat, by omega⟩
  have hkn : k ≤ n := by omega
  have HR := Lib.hid (HS.out k hki hkn)
  have HA : Hid ((loS L k lo).size ≤ maxLen) := HLS.out k
  subst hki
  clear hr HS HS0 HLS
  obtain ⟨a, ha⟩ : ∃ a, a = loS L k lo := ⟨_, rfl⟩
  obtain ⟨bb, hbb⟩ : ∃ bb, bb = hiS L k hi top := ⟨_, rfl⟩
  rw [← ha, ← hbb] at HR
  rw [← ha] at HA
  have HAE := Lib.hid ha
  have HBE := Lib.hid hbb
  clear ha hbb
  obtain ⟨b1, b2⟩ := bb
  simp only at HR
  go_upto_region 3 with fail
  go_cut [29] (fun tv wx => ∃ t1 : Bool, tv = .bool t1 ∧ Hid (Bx2 W g (.string lo) (.string hi) (.bool top) wx) ∧ Hid (t1 = true → ∃ j, k = j + 1 ∧ L[j]? = some a) ∧ Hid (t1 = false → a = lo))
  case first =>
    rcases Nat.eq_zero_or_pos k with rfl | h0
    · refine Drift.wp_region_drift [] [(0,[]),(1,[]),(2,[]),(3,[]),(4,[]),(5,[]),(6,[]),(7,[]),(8,[]),(9,[]),(10,[]),(11,[]),(12,[])] [] [] (by kernel_rfl) (by kernel_rfl) (by simp) ?_
      simp only [Drift.pick, Drift.opsAt, List.getElem?_toArray, List.getElem?_cons_zero, List.getElem?_cons_succ, List.cons_append, List.nil_append, List.filterMap_nil]
      repeat (refine Drift.walk_step (fun K hK => ?_); go_simp; (refine hK _ ?_; clear hK K))
      refine Drift.walk_nil ?_
      intro w2 hb _
      have HB2 := Lib.hid (HB0.out.kept hb)
      clear hb HB0
      simp only [List.length_cons, List.length_nil, List.drop_succ_cons, List.drop_nil, Nat.zero_add, Nat.reduceAdd]
      go_wp2_with fail
      go_meet
      exact ⟨false, rfl, HB2, (fun h => by cases h), fun _ => HAE.out⟩
    · obtain ⟨j, hj⟩ : ∃ j, k = j + 1 := ⟨k - 1, by omega⟩
      have hjn : j < n := by omega
      obtain ⟨p, hp⟩ : ∃ p, L[j]? = some p := ⟨L[j]'(by rw [HN.out]; exact hjn), nat_lenS (by rw [HN.out]; exact hjn)⟩
      obtain ⟨b, o, e, -, c0⟩ := RdK.str (HH.out.kept HB0.out.1) hp
      subst e
      obtain ⟨d0, d1, d2⟩ := box3 HB0.out.2.2.1
      have cX := fun w => Lib.hid (RCmp p lo (HK.out p (List.mem_of_getElem? hp)) w)
      have hw1 : IntKind.i64.wrap ((k : Int) - 1) = (j : Int) := by rw [IntKind.wrap_i64]; omega
      have haa : a = if 0 < cmpB p lo then p else lo := by rw [HAE.out, hj]; exact loS_some hp lo
      have HT : Hid (decide (0 < cmpB p lo) = false → a = lo) := fun h => by
        rw [haa, if_neg (by simpa using h)]
      have HT2 : Hid (decide (0 < cmpB p lo) = true → ∃ j, k = j + 1 ∧ L[j]? = some a) := fun h => ⟨j, hj, by rw [haa, if_pos (by simpa using h)]; exact hp⟩
      have z0 := fun q : Drift.Tide [] w1 [] => Drift.Tide.cell c0 (by simp) q
      have y0 := fun q : Drift.Tide [] w1 [] => Drift.Tide.cell d0 (by simp) q
      generalize cmpB p lo = z at *
      clear c0 d0 d1 d2 hj haa hp
      refine Drift.wp_region_drift [] [(0,[]),(1,[]),(2,[]),(3,[]),(4,[]),(5,[]),(6,[]),(7,[]),(8,[]),(9,[]),(10,[]),(11,[]),(12,[])] [] [] (by kernel_rfl) (by kernel_rfl) (by simp) ?_
      simp only [Drift.pick, Drift.opsAt, List.getElem?_toArray, List.getElem?_cons_zero, List.getElem?_cons_succ, List.cons_append, List.nil_append, List.filterMap_nil]
      repeat (refine Drift.walk_step (fun K hK => ?_); go_simp; first | (refine hK _ ?_; clear hK K) | (apply Exists.intro; refine ⟨fun q => ?_, hK _ ?_⟩; (go_at_call 29; exact (cX _).out); clear hK K))
      refine Drift.walk_nil ?_
      intro w2 hb _
      have HB2 := Lib.hid (HB0.out.kept hb)
      clear hb HB0 z0 y0 cX
      simp only [List.length_cons, List.length_nil, List.drop_succ_cons, List.drop_nil, Nat.zero_add, Nat.reduceAdd]
      go_wp2_with fail
      go_meet
      exact ⟨_, rfl, HB2, HT2, HT⟩
  case rest =>
  clear HB0
  obtain ⟨t1, rfl, HB1, HT1, HT2⟩ := hcut
  go_upto_if 29 with fail
  go_cut [] (fun wx => Hid (Bx2 W g (.string a) (.string hi) (.bool top) wx))
  case first =>
    cases t1 with
    | true =>
      obtain ⟨j, hj, hp⟩ := HT1.out rfl
      have hjn : j < n := by omega
      obtain ⟨b, o, e, -, c0⟩ := RdK.str (HH.out.kept HB1.out.1) hp
      subst e
      have f0 := free3 HB1.out.2.2.1 0
      obtain ⟨d0, d1, d2⟩ := box3 HB1.out.2.2.1
      have hw1 : IntKind.i64.wrap ((k : Int) - 1) = (j : Int) := by rw [IntKind.wrap_i64]; omega
      have HB2 := Lib.hid (HB1.out.set0 (.string a))
      clear hj hp HT1 HT2
      go_wp2_with fail
      go_meet
      exact HB2
    | false =>
      obtain rfl := HT2.out rfl
      clear HT1 HT2
      go_wp2_with fail
      go_meet
      exact HB1
  case rest =>
  clear HB1 HT1 HT2 HAE
  have HB1 := hcut
  clear hcut
  go_upto_region 5 with fail
  go_cut [53] (fun tv wx => ∃ t1 : Bool, tv = .bool t1 ∧ Hid (Bx2 W g (.string a) (.string hi) (.bool top) wx) ∧ Hid (t1 = true → k < n ∧ L[k]? = some b1 ∧ b2 = false) ∧ Hid (t1 = false → b1 = hi ∧ b2 = top))
  case first =>
    by_cases hkl : k < n
    · obtain ⟨p, hp⟩ : ∃ p, L[k]? = some p := ⟨L[k]'(by rw [HN.out]; exact hkl), nat_lenS (by rw [HN.out]; exact hkl)⟩
      have hbe : (b1, b2) = if top = true ∨ cmpB p hi < 0 then (p, false) else (hi, top) := by rw [HBE.out]; exact hiS_some hp hi top
      obtain ⟨d0, d1, d2⟩ := box3 HB1.out.2.2.1
      cases top with
      | true =>
        obtain ⟨rfl, rfl⟩ : b1 = p ∧ b2 = false := by simpa using hbe
        have HP := Lib.hid hp
        have y2 := fun q : Drift.Tide [] wc [] => Drift.Tide.cell d2 (by simp) q
        clear d0 d1 d2 hbe hp
        refine Drift.wp_region_drift [] [(0,[]),(1,[]),(2,[]),(3,[]),(4,[]),(5,[]),(6,[]),(7,[]),(8,[]),(9,[]),(10,[]),(11,[]),(12,[]),(13,[]),(14,[]),(15,[]),(16,[]),(17,[])] [] [] (by kernel_rfl) (by kernel_rfl) (by simp) ?_
        simp only [Drift.pick, Drift.opsAt, List.getElem?_toArray, List.getElem?_cons_zero, List.getElem?_cons_succ, List.cons_append, List.nil_append, List.filterMap_nil]
        repeat (refine Drift.walk_step (fun K hK => ?_); go_simp; (refine hK _ ?_; clear hK K))
        refine Drift.walk_nil ?_
        intro w2 hb _
        have HB2 := Lib.hid (HB1.out.kept hb)
        clear hb HB1 y2
        simp only [List.length_cons, List.length_nil, List.drop_succ_cons, List.drop_nil, Nat.zero_add, Nat.reduceAdd]
        go_wp2_with fail
        go_meet
        exact ⟨true, rfl, HB2, (fun _ => ⟨hkl, HP.out, by first | rfl | trivial⟩), (fun h => by cases h)⟩
      | false =>
        obtain ⟨b, o, e, -, c0⟩ := RdK.str (HH.out.kept HB1.out.1) hp
        subst e
        have cX := fun w => Lib.hid (RCmp p hi (HK.out p (List.mem_of_getElem? hp)) w)
        have HT : Hid (decide (cmpB p hi < 0) = true → k < n ∧ L[k]? = some b1 ∧ b2 = false) := fun h => by
          have h2 : cmpB p hi < 0 := by simpa using h
          rw [if_pos (.inr h2)] at hbe
          obtain ⟨rfl, rfl⟩ : b1 = p ∧ b2 = false := by simpa using hbe
          exact ⟨hkl, hp, rfl⟩
        have HT2 : Hid (decide (cmpB p hi < 0) = false → b1 = hi ∧ b2 = false) := fun h => by
          have h2 : ¬ cmpB p hi < 0 := by simpa using h
          rw [if_neg (by simpa using h2)] at hbe
          simpa using hbe
        have z0 := fun q : Drift.Tide [] wc [] => Drift.Tide.cell c0 (by simp) q
        have y1 := fun q : Drift.Tide [] wc [] => Drift.Tide.cell d1 (by simp) q
        have y2 := fun q : Drift.Tide [] wc [] => Drift.Tide.cell d2 (by simp) q
        generalize cmpB p hi = z at *
        clear c0 d0 d1 d2 hbe hp
        refine Drift.wp_region_drift [] [(0,[]),(1,[]),(2,[]),(3,[]),(4,[]),(5,[]),(6,[]),(7,[]),(8,[]),(9,[]),(10,[]),(11,[]),(12,[]),(13,[]),(14,[]),(15,[]),(16,[]),(17,[])] [] [] (by kernel_rfl) (by kernel_rfl) (by simp) ?_
        simp only [Drift.pick, Drift.opsAt, List.getElem?_toArray, List.getElem?_cons_zero, List.getElem?_cons_succ, List.cons_append, List.nil_append, List.filterMap_nil]
        repeat (refine Drift.walk_step (fun K hK => ?_); go_simp; first | (refine hK _ ?_; clear hK K) | (apply Exists.intro; refine ⟨fun q => ?_, hK _ ?_⟩; (go_at_call 29; exact (cX _).out); clear hK K))
        refine Drift.walk_nil ?_
        intro w2 hb _
        have HB2 := Lib.hid (HB1.out.kept hb)
        clear hb HB1 z0 y1 y2 cX
        simp only [List.length_cons, List.length_nil, List.drop_succ_cons, List.drop_nil, Nat.zero_add, Nat.reduceAdd]
        go_wp2_with fail
        go_meet
        exact ⟨_, rfl, HB2, HT, HT2⟩
    · obtain rfl : k = n := by omega
      have hbe : (b1, b2) = (hi, top) := by rw [HBE.out]; exact hiS_none (List.getElem?_eq_none (by rw [HN.out]; exact Nat.le_refl _)) hi top
      obtain ⟨rfl, rfl⟩ : b1 = hi ∧ b2 = top := by simpa using hbe
      clear hbe hkl
      refine Drift.wp_region_drift [] [(0,[]),(1,[]),(2,[]),(3,[]),(4,[]),(5,[]),(6,[]),(7,[]),(8,[]),(9,[]),(10,[]),(11,[]),(12,[]),(13,[]),(14,[]),(15,[]),(16,[]),(17,[])] [] [] (by kernel_rfl) (by kernel_rfl) (by simp) ?_
      simp only [Drift.pick, Drift.opsAt, List.getElem?_toArray, List.getElem?_cons_zero, List.getElem?_cons_succ, List.cons_append, List.nil_append, List.filterMap_nil]
      repeat (refine Drift.walk_step (fun K hK => ?_); go_simp; (refine hK _ ?_; clear hK K))
      refine Drift.walk_nil ?_
      intro w2 hb _
      have HB2 := Lib.hid (HB1.out.kept hb)
      clear hb HB1 
      simp only [List.length_cons, List.length_nil, List.drop_succ_cons, List.drop_nil, Nat.zero_add, Nat.reduceAdd]
      go_wp2_with fail
      go_meet
      exact ⟨false, rfl, HB2, (fun h => by cases h), fun _ => ⟨by first | rfl | trivial, by first | rfl | trivial⟩⟩
  case rest =>
  clear HB1 HBE
  obtain ⟨t1, rfl, HB1, HT1, HT2⟩ := hcut
  go_upto_if 53 with fail
  go_cut [] (fun wx => Hid (Bx2 W g (.string a) (.string b1) (.bool b2) wx))
  case first =>
    cases t1 with
    | true =>
      obtain ⟨hkl, hp, rfl⟩ := HT1.out rfl
      obtain ⟨b, o, e, -, c0⟩ := RdK.str (HH.out.kept HB1.out.1) hp
      subst e
      have f1 := free3 HB1.out.2.2.1 1
      obtain ⟨d0, d1, d2⟩ := box3 HB1.out.2.2.1
      have HB2 := Lib.hid (HB1.out.set1 (.string b1))
      have f2 := free3 HB2.out.2.2.1 2
      obtain ⟨e0, e1, e2⟩ := box3 HB2.out.2.2.1
      have HB3 := Lib.hid (HB2.out.set2 (.bool false))
      clear hp HT1 HT2
      go_upto_region 7 with fail
      generalize wc.setCell ⟨g, 1, none⟩ (.string b1) = w5 at *
      go_wp2_with fail
      go_meet
      exact HB3
    | false =>
      obtain ⟨rfl, rfl⟩ := HT2.out rfl
      clear HT1 HT2
      go_wp2_with fail
      go_meet
      exact HB1
  case rest =>
  clear HB1 HT1 HT2
  have HB1 := hcut
  clear hcut
  obtain ⟨en, hen⟩ : ∃ en : ByteArray, en = if b2 = true then ⟨#[]⟩ else b1 := ⟨_, rfl⟩
  rw [← hen] at HR
  obtain ⟨d0, d1, d2⟩ := box3 HB1.out.2.2.1
  go_upto_if 61 with fail
  go_cut [] (fun wx => Hid (Bx2 W g (.string a) (.string en) (.bool b2) wx))
  case first =>
    cases b2 with
    | true =>
      obtain rfl : en = ⟨#[]⟩ := by rw [hen, if_pos rfl]
      have f1 := free3 HB1.out.2.2.1 1
      have HB2 := Lib.hid (HB1.out.set1 (.string ⟨#[]⟩))
      clear hen
      go_wp2_with fail
      go_meet
      exact HB2
    | false =>
      obtain rfl : en = b1 := by rw [hen, if_neg (by simp)]
      clear hen
      go_wp2_with fail
      go_meet
      exact HB1
  case rest =>
  clear HB1 d0 d1 d2 hen
  have HB1 := hcut
  clear hcut
  obtain ⟨d0, d1, d2⟩ := box3 HB1.out.2.2.1
  have cE := fun w => Lib.hid (REmpty_any a en b2 w HA.out)
  obtain ⟨ev, hev⟩ : ∃ ev, ev = emptyB a en b2 := ⟨_, rfl⟩
  rw [← hev] at HR cE
  clear hev
  cases ev with
  | true =>
    obtain rfl : R = ((⟨#[]⟩, ⟨#[]⟩, false), false) := by rw [HR.out, if_pos rfl]
    go_upto_region 11 with (go_at_call 30; refine (cE _).out.mono ?_; rintro e w6 ⟨rfl, hb⟩)
    have HB2 := Lib.hid (HB1.out.kept hb)
    clear HB1 hb d0 d1 d2 cE HR
    have f0 := free3 HB2.out.2.2.2 0
    have f1 := free3 HB2.out.2.2.2 1
    have f2 := free3 HB2.out.2.2.2 2
    obtain ⟨d0, d1, d2⟩ := box3 HB2.out.2.2.2
    have hgW := HB2.out.2.1
    have fin : Hid (Below W.heap.size W (set3 w6 (g + 1) (.string ⟨#[]⟩) (.string ⟨#[]⟩) (.bool false)) ∧ (set3 w6 (g + 1) (.string ⟨#[]⟩) (.string ⟨#[]⟩) (.bool false)).heap[g + 1]? = some (.cells #[.string ⟨#[]⟩, .string ⟨#[]⟩, .bool false] 37 (0, 0))) := ⟨set3_below HB2.out.1 (by omega) _ _ _, set3_at HB2.out.2.2.2 _ _ _⟩
    unfold set3 at fin
    go_wp2_with fail
    generalize ((w6.setCell ⟨g + 1, 0, none⟩ (.string ⟨#[]⟩)).setCell ⟨g + 1, 1, none⟩ (.string ⟨#[]⟩)).setCell ⟨g + 1, 2, none⟩ (.bool false) = w9 at *
    obtain ⟨o0, o1, o2⟩ := box3 fin.out.2
    exact bodyPost_ret (v := .tuple #[.agg #[.string ⟨#[]⟩, .string ⟨#[]⟩, .bool false], .bool false]) (by simp [results, Try.results10, go_sem, o0, o1, o2]) rfl ⟨rfl, fin.out.1⟩
  | false =>
    obtain rfl : R = ((a, en, b2), true) := by rw [HR.out, if_neg (by simp)]
    go_upto_region 12 with (go_at_call 30; refine (cE _).out.mono ?_; rintro e w6 ⟨rfl, hb⟩)
    have HB2 := Lib.hid (HB1.out.kept hb)
    clear HB1 hb d0 d1 d2 cE HR
    have f0 := free3 HB2.out.2.2.2 0
    have f1 := free3 HB2.out.2.2.2 1
    have f2 := free3 HB2.out.2.2.2 2
    obtain ⟨e0, e1, e2⟩ := box3 HB2.out.2.2.1
    obtain ⟨d0, d1, d2⟩ := box3 HB2.out.2.2.2
    have hgW := HB2.out.2.1
    have fin : Hid (Below W.heap.size W (set3 w6 (g + 1) (.string a) (.string en) (.bool b2)) ∧ (set3 w6 (g + 1) (.string a) (.string en) (.bool b2)).heap[g + 1]? = some (.cells #[.string a, .string en, .bool b2] 37 (0, 0))) := ⟨set3_below HB2.out.1 (by omega) _ _ _, set3_at HB2.out.2.2.2 _ _ _⟩
    unfold set3 at fin
    go_wp2_with fail
    generalize ((w6.setCell ⟨g + 1, 0, none⟩ (.string a)).setCell ⟨g + 1, 1, none⟩ (.string en)).setCell ⟨g + 1, 2, none⟩ (.bool b2) = w9 at *
    obtain ⟨o0, o1, o2⟩ := box3 fin.out.2
    exact bodyPost_ret (v := .tuple #[.agg #[.string a, .string en, .bool b2], .bool true]) (by simp [results, Try.results10, go_sem, o0, o1, o2]) rfl ⟨rfl, fin.out.1⟩
end Fa
end Go.Proofs.Ytlabbmfiecbigaa
