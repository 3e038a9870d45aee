/-
  Contracts of the document's row: Has, Cut, Front, Back, Same.
-/
import Derived.Test.YtokgnnmnnjfjbaaChainNew
namespace Go.Proofs.Ytokgnnmnnjfjbaa
open Go.RowKit
namespace Cn
open Mem

theorem ret_len {A : Option Addr} {m m' c : Nat} (h : m = m') : Ending.returned (.slice A m c) = .returned (.slice A m' c) := by rw [h]
def cutZ (l : List Int) (i : Int) : List Int := l.filter (· != i)
theorem cutZ_take (l : List Int) (i : Int) {k : Nat} (hk : k < l.length) : cutZ (l.take (k + 1)) i = cutZ (l.take k) i ++ (if l[k] != i then [l[k]] else []) := by
  unfold cutZ
  rw [← List.take_append_getElem hk, List.filter_append]
  congr 1
  by_cases h : l[k] = i <;> simp [List.filter_cons, h]
theorem cutZ_len (l : List Int) (i : Int) : (cutZ l i).length ≤ l.length := List.length_filter_le _ _

set_option maxHeartbeats 1000000 in
theorem RHas_any (A : Option Addr) (c : Nat) (xs : List Int) (i : Int) (w : World) (h : IL w A xs) (hn : xs.length ≤ 1048576) : Calls Try.prog 13 #[.slice A xs.length c, .int .i64 i] w fun e w' => e = .returned (.bool (xs.contains i)) ∧ w = w' := by
  have HL := Lib.hid h
  obtain ⟨N, hN⟩ : ∃ N, N = xs.length := ⟨_, rfl⟩
  rw [← hN] at hn ⊢
  have HN := Lib.hid hN
  clear h hN
  go_enter Try.func13, Try.ntmps13
  go_wp2
  go_loopw [5] (fun i' wr => ∃ k : Nat, k ≤ N ∧ i' = .int .i64 (k : Int) ∧ Hid (i ∉ xs.take k) ∧ w = wr) (fun i' _ => N - (intOf i').toNat)
  case atStart => exact ⟨0, Nat.zero_le _, rfl, by unfold Hid; simp, rfl⟩
  case round =>
    obtain ⟨k, hk, rfl, HI, rfl⟩ := hrel
    by_cases hlt : k < N
    · have hkl : k < xs.length := by rw [← HN.out]; exact hlt
      obtain ⟨b, o, rfl, hc⟩ := HL.out.at_ hkl
      obtain ⟨x, hx⟩ : ∃ x, x = xs[k] := ⟨_, rfl⟩
      have HX := Lib.hid hx
      rw [← hx] at hc
      clear hx
      by_cases he : x = i
      · subst he
        have HC : Hid (xs.contains x = true) := by unfold Hid; rw [HX.out]; simp
        clear HX
        go_wp2
        go_ret
        exact ⟨ret_bool HC.out.symm, rfl⟩
      · have he' : (x == i) = false := by simpa using he
        have HT : Hid (i ∉ xs.take (k + 1)) := by
          unfold Hid
          rw [← List.take_append_getElem hkl, List.mem_append, not_or]
          exact ⟨HI.out, by simp; rw [← HX.out]; exact fun h => he h.symm⟩
        clear he
        go_wp2
        exact ⟨⟨k + 1, hlt, by go_num, HT, trivial⟩, by simp [intOf]; omega⟩
    · obtain rfl : k = N := by omega
      have HC : Hid (xs.contains i = false) := by
        have := HI.out
        rw [List.take_of_length_le (Nat.le_of_eq HN.out.symm)] at this
        unfold Hid; simpa using this
      go_wp2
      go_ret
      exact ⟨ret_bool HC.out.symm, rfl⟩
set_option maxHeartbeats 2000000 in
theorem RCut_any (A : Option Addr) (c : Nat) (xs : List Int) (i : Int) (w : World) (h : IL w A xs) (hn : xs.length ≤ 1048576) : Calls Try.prog 14 #[.slice A xs.length c, .int .i64 i] w fun e w' => (∃ A' c', e = .returned (.slice A' (cutZ xs i).length c') ∧ Iow 3 w' w.heap.size A' c' (cutZ xs i)) ∧ Below w.heap.size w w' := by
  have HL := Lib.hid h
  obtain ⟨N, hN⟩ : ∃ N, N = xs.length := ⟨_, rfl⟩
  rw [← hN] at hn ⊢
  have HN := Lib.hid hN
  clear h hN
  go_enter Try.func14, Try.ntmps14
  go_wp2
  go_loopw [5, 6] (fun v i' wr => ∃ (k m c' : Nat) (A' : Option Addr), k ≤ N ∧ m ≤ k ∧ i' = .int .i64 (k : Int) ∧ v = .slice A' m c' ∧ Hid (m = (cutZ (xs.take k) i).length) ∧ Hid (Iow 3 wr w.heap.size A' c' (cutZ (xs.take k) i)) ∧ Hid (Below w.heap.size w wr)) (fun _ i' _ => N - (intOf i').toNat)
  case atStart =>
    exact ⟨0, 0, 0, _, Nat.zero_le _, Nat.le_refl _, rfl, rfl, by unfold Hid; simp [cutZ], by
      have := Iow.none_ 3 w w.heap.size (Nat.le_refl _)
      unfold Hid; simpa [cutZ] using this, (Below.refl _ _).alloc (Nat.le_refl _) _⟩
  case round =>
    obtain ⟨k, m, c', A', hk, hmk, rfl, rfl, HM, HO, HB⟩ := hrel
    by_cases hlt : k < N
    · have hkl : k < xs.length := by rw [← HN.out]; exact hlt
      obtain ⟨b, o, rfl, hc⟩ := (HL.out.below HB.out).at_ hkl
      obtain ⟨x, hx⟩ : ∃ x, x = xs[k] := ⟨_, rfl⟩
      have HX := Lib.hid hx
      rw [← hx] at hc
      have HT := Lib.hid (cutZ_take xs i hkl)
      rw [← hx] at HT
      clear hx
      by_cases he : x = i
      · subst he
        have HE : Hid (cutZ (xs.take (k + 1)) x = cutZ (xs.take k) x) := by unfold Hid; rw [HT.out]; simp
        have he' : (x != x) = false := by simp
        clear HX HT
        go_wp2
        exact ⟨⟨k + 1, m, c', A', hlt, by omega, by go_num, rfl, by rw [HE.out]; exact HM, by rw [HE.out]; exact HO, HB⟩, by simp [intOf]; omega⟩
      · have he' : (x != i) = true := by simpa using he
        have HE : Hid (cutZ (xs.take (k + 1)) i = cutZ (xs.take k) i ++ [x]) := by unfold Hid; rw [HT.out, if_pos he']
        clear HX HT he
        go_wp2_with (with_reducible refine wpList_append_ints rfl (.tmp 20) (.tmp 25) _ rfl w.heap.size 3 Try.underlying28 intinfo A' m c' (cutZ (xs.take k) i) rfl HM.out.symm (HO.out.alloc _) _ 1 1 [x] rfl rfl (IL.one 3 wr x) (by omega) (by have := HB.out.size; simp; omega) w (HB.out.alloc HB.out.size _) ?_; intro A3 c3 w3 hO hB3)
        exact ⟨⟨k + 1, m + 1, c3, A3, hlt, by omega, by go_num, rfl, by rw [HE.out, List.length_append, ← HM.out]; rfl, by rw [HE.out]; exact hO, hB3⟩, by simp [intOf]; omega⟩
    · obtain rfl : k = N := by omega
      have HE : Hid (xs.take k = xs) := by unfold Hid; rw [List.take_of_length_le (Nat.le_of_eq HN.out.symm)]
      clear hlt
      rw [HE.out] at HM HO
      go_wp2
      go_ret
      exact ⟨⟨A', c', ret_len HM.out, HO.out⟩, HB.out⟩
set_option maxHeartbeats 2000000 in
theorem RFront_any (A : Option Addr) (c : Nat) (xs : List Int) (i : Int) (w : World) (h : IL w A xs) (hn : xs.length ≤ 1000000) : Calls Try.prog 9 #[.slice A xs.length c, .int .i64 i] w fun e w' => (∃ A' c', e = .returned (.slice A' (i :: cutZ xs i).length c') ∧ Iow 3 w' w.heap.size A' c' (i :: cutZ xs i)) ∧ Below w.heap.size w w' := by
  have HL := Lib.hid h
  have cC := fun w (h : IL w A xs) => Lib.hid (RCut_any A c xs i w h (by omega))
  have hcl := cutZ_len xs i
  obtain ⟨m, hm⟩ : ∃ m, m = (cutZ xs i).length := ⟨_, rfl⟩
  have HM := Lib.hid hm
  rw [← hm] at cC hcl
  have hm9 : m ≤ 1000000 := by omega
  generalize xs.length = N at *
  clear h hm hn hcl
  go_enter Try.func9, Try.ntmps9
  go_wp2_with (first
    | (go_at_call 14; refine (cC _ (HL.out.alloc _)).out.mono ?_; rintro e w1 ⟨⟨A1, c1, rfl, ho⟩, hb⟩; have HO := Lib.hid ho; have HB := Lib.hid hb; clear ho hb)
    | (with_reducible refine wpList_append_ints rfl (.tmp 6) (.tmp 9) _ rfl w.heap.size 3 Try.underlying28 intinfo _ 1 1 [i] rfl rfl ((Iow.one 3 w w.heap.size i (Nat.le_refl _)).kept HB.out) A1 m c1 (cutZ xs i) rfl HM.out.symm HO.out.il (by omega) (by have := HB.out.size; simp at this; omega) w (((Below.refl _ w).alloc (Nat.le_refl _) _).trans (HB.out.mono (by simp))) ?_; intro A3 c3 w3 hO hB3))
  go_ret
  exact ⟨⟨A3, c3, ret_len (by rw [HM.out]; exact Nat.add_comm _ _), hO.out⟩, hB3.out⟩
set_option maxHeartbeats 2000000 in
theorem RBack_any (A : Option Addr) (c : Nat) (xs : List Int) (i : Int) (w : World) (h : IL w A xs) (hn : xs.length ≤ 1000000) : Calls Try.prog 11 #[.slice A xs.length c, .int .i64 i] w fun e w' => (∃ A' c', e = .returned (.slice A' (cutZ xs i ++ [i]).length c') ∧ Iow 3 w' w.heap.size A' c' (cutZ xs i ++ [i])) ∧ Below w.heap.size w w' := by
  have HL := Lib.hid h
  have cC := fun w (h : IL w A xs) => Lib.hid (RCut_any A c xs i w h (by omega))
  have hcl := cutZ_len xs i
  obtain ⟨m, hm⟩ : ∃ m, m = (cutZ xs i).length := ⟨_, rfl⟩
  have HM := Lib.hid hm
  rw [← hm] at cC hcl
  have hm9 : m ≤ 1000000 := by omega
  generalize xs.length = N at *
  clear h hm hn hcl
  go_enter Try.func11, Try.ntmps11
  go_wp2_with (first
    | (go_at_call 14; refine (cC _ HL.out).out.mono ?_; rintro e w1 ⟨⟨A1, c1, rfl, ho⟩, hb⟩; have HO := Lib.hid ho; have HB := Lib.hid hb; clear ho hb)
    | (with_reducible refine wpList_append_ints rfl (.tmp 7) (.tmp 9) _ rfl w.heap.size 3 Try.underlying28 intinfo A1 m c1 (cutZ xs i) rfl HM.out.symm (HO.out.alloc _) _ 1 1 [i] rfl rfl (IL.one 3 w1 i) (by omega) (by have := HB.out.size; simp; omega) w (HB.out.alloc HB.out.size _) ?_; intro A3 c3 w3 hO hB3))
  go_ret
  exact ⟨⟨A3, c3, ret_len (by rw [HM.out, List.length_append]; rfl), hO.out⟩, hB3.out⟩
set_option maxHeartbeats 2000000 in
theorem RSame_any (A B : Option Addr) (c d : Nat) (xs ys : List Int) (w : World) (hA : IL w A xs) (hB : IL w B ys) (hn : xs.length ≤ 1048576) (hm : ys.length ≤ 1048576) : Calls Try.prog 17 #[.slice A xs.length c, .slice B ys.length d] w fun e w' => e = .returned (.bool (decide (xs = ys))) ∧ Below w.heap.size w w' := by
  by_cases hl : xs.length = ys.length
  · have HLA := Lib.hid hA
    have HLB := Lib.hid hB
    obtain ⟨N, hN⟩ : ∃ N, N = xs.length := ⟨_, rfl⟩
    have HN := Lib.hid hN
    have HN2 : Hid (N = ys.length) := by unfold Hid; omega
    rw [← hl, ← hN]
    rw [← hN] at hn
    clear hA hB hN hl hm
    go_enter Try.func17, Try.ntmps17
    go_wp2
    go_loopw [5] (fun i' wr => ∃ k : Nat, k ≤ N ∧ i' = .int .i64 (k : Int) ∧ Hid (xs.take k = ys.take k) ∧ Hid (Below w.heap.size w wr)) (fun i' _ => N - (intOf i').toNat)
    case atStart => exact ⟨0, Nat.zero_le _, rfl, by unfold Hid; simp, Below.refl _ _⟩
    case round =>
      obtain ⟨k, hk, rfl, HI, HB⟩ := hrel
      by_cases hlt : k < N
      · have hka : k < xs.length := by rw [← HN.out]; exact hlt
        have hkb : k < ys.length := by rw [← HN2.out]; exact hlt
        obtain ⟨a, o, rfl, ha⟩ := (HLA.out.below HB.out).at_ hka
        obtain ⟨b, o2, rfl, hb⟩ := (HLB.out.below HB.out).at_ hkb
        have HT : Hid (xs.take (k + 1) = ys.take (k + 1) ↔ xs[k] = ys[k]) := by
          unfold Hid
          rw [← List.take_append_getElem hka, ← List.take_append_getElem hkb, HI.out, List.append_right_inj]
          exact ⟨fun h => (List.cons.inj h).1, fun h => by rw [h]⟩
        obtain ⟨x, hx⟩ : ∃ x, x = xs[k] := ⟨_, rfl⟩
        obtain ⟨y, hy⟩ : ∃ y, y = ys[k] := ⟨_, rfl⟩
        have HX := Lib.hid hx
        have HY := Lib.hid hy
        rw [← hx] at ha HT
        rw [← hy] at hb HT
        clear hx hy
        have e1 := fun q : Drift.Tide [] wr [] => Drift.Tide.cell ha (by simp) q
        have e2 := fun q : Drift.Tide [] wr [] => Drift.Tide.cell hb (by simp) q
        clear ha hb
        by_cases he : x = y
        · have HE : Hid (xs.take (k + 1) = ys.take (k + 1)) := HT.out.2 he
          have he' : (x != y) = false := by simpa using he
          clear he HX HY HT
          go_wp2_with fail
          refine Drift.wp_region_drift [] [(0,[]),(1,[]),(2,[]),(3,[]),(4,[]),(5,[]),(6,[]),(7,[]),(8,[])] [] [] (by kernel_rfl) (by kernel_rfl) (by simp) ?_
          simp only [Drift.pick, Drift.opsAt, List.getElem?_toArray, List.getElem?_cons_zero, List.getElem?_cons_succ, List.cons_append, List.nil_append, List.filterMap_cons, List.filterMap_nil]
          repeat (refine Drift.walk_step (fun K hK => ?_); go_simp; refine hK _ ?_; clear hK K)
          refine Drift.walk_nil ?_
          intro w2 hb2 _
          have HB2 := Lib.hid hb2
          clear hb2 e1 e2
          simp only [List.length_cons, List.length_nil, List.drop_succ_cons, List.drop_nil, Nat.zero_add, Nat.reduceAdd]
          go_wp2_with fail
          exact ⟨⟨k + 1, hlt, by go_num, HE, HB.out.trans (HB2.out.mono HB.out.size)⟩, by simp [intOf]; omega⟩
        · have he' : (x != y) = true := by simpa using he
          have HE : Hid (decide (xs = ys) = false) := by
            unfold Hid
            rw [decide_eq_false_iff_not]
            rintro rfl
            exact he (HX.out.trans HY.out.symm)
          clear he HX HY HT
          go_wp2_with fail
          refine Drift.wp_region_drift [] [(0,[]),(1,[]),(2,[]),(3,[]),(4,[]),(5,[]),(6,[]),(7,[]),(8,[])] [] [] (by kernel_rfl) (by kernel_rfl) (by simp) ?_
          simp only [Drift.pick, Drift.opsAt, List.getElem?_toArray, List.getElem?_cons_zero, List.getElem?_cons_succ, List.cons_append, List.nil_append, List.filterMap_cons, List.filterMap_nil]
          repeat (refine Drift.walk_step (fun K hK => ?_); go_simp; refine hK _ ?_; clear hK K)
          refine Drift.walk_nil ?_
          intro w2 hb2 _
          have HB2 := Lib.hid hb2
          clear hb2 e1 e2
          simp only [List.length_cons, List.length_nil, List.drop_succ_cons, List.drop_nil, Nat.zero_add, Nat.reduceAdd]
          go_wp2_with fail
          go_ret
          exact ⟨ret_bool HE.out.symm, HB.out.trans (HB2.out.mono HB.out.size)⟩
      · obtain rfl : k = N := by omega
        have HE : Hid (decide (xs = ys) = true) := by
          have := HI.out
          rw [List.take_of_length_le (Nat.le_of_eq HN.out.symm), List.take_of_length_le (Nat.le_of_eq HN2.out.symm)] at this
          unfold Hid
          rw [decide_eq_true_eq]; exact this
        clear hlt
        go_wp2_with fail
        go_ret
        exact ⟨ret_bool HE.out.symm, HB.out⟩
  · have h1 : ((xs.length : Int) != (ys.length : Int)) = true := by simp; omega
    have h2 : decide (xs = ys) = false := by rw [decide_eq_false_iff_not]; rintro rfl; exact hl rfl
    rw [h2]
    generalize xs.length = n1 at *
    generalize ys.length = n2 at *
    clear hl h2 hA hB
    go_enter Try.func17, Try.ntmps17
    go_wp2
    go_ret
    exact ⟨rfl, Below.refl _ _⟩
end Cn
end Go.Proofs.Ytokgnnmnnjfjbaa
