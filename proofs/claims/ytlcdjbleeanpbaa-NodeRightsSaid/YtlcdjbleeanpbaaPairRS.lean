/-
  The document's leaf: Right, Same.
-/
import Derived.Test.YtlcdjbleeanpbaaPairK
namespace Go.Proofs.Ytlcdjbleeanpbaa
open Go.RowKit
namespace Lf
open Mem Lx Bu
/-- keys rise strictly -/
def PRise (L : List Pr) : Prop := ∀ (i : Nat) (a b : Pr), L[i]? = some a → L[i + 1]? = some b → cmpB a.1 b.1 < 0
set_option maxRecDepth 100000 in
set_option maxHeartbeats 2000000 in
theorem RRight_any {W : World} {A : Option Addr} {c : Nat} {L : List Pr} (h : PL W A L) (hk : ∀ m, m ∈ L → m.1.size ≤ maxLen) (hl : L.length ≤ 1048576) : Calls Try.prog 57 #[.slice A L.length c] W fun e w' => (∃ v : Bool, e = .returned (.bool v) ∧ (v = true ↔ PRise L)) ∧ Below W.heap.size W w' := by
  obtain ⟨n, hn⟩ : ∃ n, n = L.length := ⟨_, rfl⟩
  have HN := Lib.hid hn
  have HH := Lib.hid h
  have HK := Lib.hid hk
  rw [← hn] at hl ⊢
  clear h hk hn
  go_enter Try.func57, Try.ntmps57
  go_wp2_with fail
  go_loopg [3] (n - 1) (fun gk iv wr => ∃ k : Nat, 1 ≤ k ∧ (k = 1 ∨ k ≤ n) ∧ gk = n - k ∧ iv = .int .i64 (k : Int) ∧ Hid (∀ (i : Nat) (a b : Pr), i + 1 < k → L[i]? = some a → L[i + 1]? = some b → cmpB a.1 b.1 < 0) ∧ Hid (Below W.heap.size W wr))
  case atStart => exact ⟨1, Nat.le_refl _, .inl rfl, rfl, rfl, fun i a b hi => by omega, Below.refl _ _⟩
  case round =>
    obtain ⟨k, hk1, hkn, rfl, rfl, HE, HB⟩ := hrel
    by_cases hlt : k < n
    · obtain ⟨j, hjk⟩ : ∃ j, k = j + 1 := ⟨k - 1, by omega⟩
      have hj : j < L.length := by rw [← HN.out]; omega
      have hj1 : k < L.length := by rw [← HN.out]; omega
      obtain ⟨x, hx⟩ : ∃ x, x = L[j] := ⟨_, rfl⟩
      obtain ⟨y, hy⟩ : ∃ y, y = L[k] := ⟨_, rfl⟩
      have hx' := nat_len hj
      have hy' := nat_len hj1
      rw [← hx] at hx'
      rw [← hy] at hy'
      obtain ⟨b, o, e, hc⟩ := RdK.pplace (HH.out.kept HB.out) (Nat.lt_of_le_of_lt (Nat.zero_le _) hj)
      subst e
      obtain ⟨c0, -⟩ := hc j x hx'
      obtain ⟨c1, -⟩ := hc k y hy'
      have cC := fun w => Lib.hid (RCmp x.1 y.1 (HK.out x (List.mem_of_getElem? hx')) w)
      have HX := Lib.hid hx'
      have HY := Lib.hid hy'
      have z0 := fun q : Drift.Tide [] wr [] => Drift.Tide.cell c0 (by simp) q
      have z1 := fun q : Drift.Tide [] wr [] => Drift.Tide.cell c1 (by simp) q
      have hw1 : IntKind.i64.wrap ((k : Int) - 1) = (j : Int) := by rw [IntKind.wrap_i64]; omega
      have hw2 : IntKind.i64.wrap ((k : Int) + 1) = ((k + 1 : Nat) : Int) := by rw [IntKind.wrap_i64]; omega
      have HJ := Lib.hid hjk
      have hjn : j < n := by omega
      clear hc c0 c1 hx hy hx' hy' hj hj1 hjk
      go_upto_region 4 with fail
      refine Drift.wp_region_drift [] [(0,[]),(1,[]),(2,[]),(3,[]),(4,[]),(5,[]),(6,[]),(7,[]),(8,[]),(9,[]),(10,[]),(11,[]),(12,[])] [] [] (by kernel_rfl) (by kernel_rfl) (by simp) ?_
      simp only [Drift.pick, Drift.opsAt, List.getElem?_toArray, List.getElem?_cons_zero, List.getElem?_cons_succ, List.cons_append, List.nil_append, List.filterMap_nil]
      repeat (refine Drift.walk_step (fun K hK => ?_); go_simp; first | (refine hK _ ?_; clear hK K) | (apply Exists.intro; refine ⟨fun q => ?_, hK _ ?_⟩; (go_at_call 61; exact (cC _).out); clear hK K))
      refine Drift.walk_nil ?_
      intro w2 hb _
      have HB2 := Lib.hid (HB.out.trans (hb.mono HB.out.size))
      clear z0 z1 hw1 hb HB cC
      simp only [List.length_cons, List.length_nil, List.drop_succ_cons, List.drop_nil, Nat.zero_add, Nat.reduceAdd]
      by_cases hcm : cmpB x.1 y.1 < 0
      · have hd : decide (0 ≤ cmpB x.1 y.1) = false := by simpa using hcm
        have HE2 : Hid (∀ (i : Nat) (a b : Pr), i + 1 < k + 1 → L[i]? = some a → L[i + 1]? = some b → cmpB a.1 b.1 < 0) := fun i a b hi ha hb => by
          by_cases e : i = j
          · subst e
            rw [HX.out] at ha
            rw [← HJ.out, HY.out] at hb
            cases ha
            cases hb
            exact hcm
          · exact HE.out i a b (by have := HJ.out; omega) ha hb
        generalize cmpB x.1 y.1 = z at *
        clear hd
        go_wp2_with fail
        go_roundg (n - (k + 1))
        case measure => omega
        case rel => exact ⟨k + 1, by omega, .inr hlt, rfl, by go_num, HE2, HB2⟩
      · have HN2 : Hid (¬ PRise L) := fun hr => hcm (hr j x y HX.out (by rw [← HJ.out]; exact HY.out))
        have hd : 0 ≤ cmpB x.1 y.1 := by omega
        clear hcm
        generalize cmpB x.1 y.1 = z at *
        go_wp2_with fail
        go_ret
        exact ⟨⟨false, rfl, by simpa using HN2.out⟩, HB2.out⟩
    · have HR : Hid (PRise L) := fun i a b ha hb => HE.out i a b (by
        have := (List.getElem?_eq_some_iff.1 hb).1
        rw [← HN.out] at this
        omega) ha hb
      have hge : n ≤ k := by omega
      have hd : decide ((k : Int) < (n : Int)) = false := by simp; omega
      clear hlt
      go_wp2_with fail
      go_ret
      exact ⟨⟨true, rfl, by simpa using HR.out⟩, HB.out⟩
set_option maxRecDepth 100000 in
set_option maxHeartbeats 2000000 in
theorem RSame_any {W : World} {A A' : Option Addr} {c c' : Nat} {L L' : List Pr} (h : PL W A L) (h' : PL W A' L') (hl : L.length ≤ 1048576) (_ : L'.length ≤ 1048576) : Calls Try.prog 41 #[.slice A L.length c, .slice A' L'.length c'] W fun e w' => (∃ v : Bool, e = .returned (.bool v) ∧ (v = true ↔ L = L')) ∧ Below W.heap.size W w' := by
  obtain ⟨n, hn⟩ : ∃ n, n = L.length := ⟨_, rfl⟩
  by_cases hnn : L.length = L'.length
  case neg =>
    have HR : Hid (¬ L = L') := fun e => hnn (by rw [e])
    have hd : ((L.length : Int) != (L'.length : Int)) = true := by simp; omega
    clear h h' hn hl
    generalize L.length = n at *
    generalize L'.length = n' at *
    clear hnn
    go_enter Try.func41, Try.ntmps41
    go_wp2
    go_ret
    exact ⟨⟨false, rfl, by simpa using HR.out⟩, Below.refl _ _⟩
  rw [← hnn, ← hn]
  rw [← hn] at hl
  have HN := Lib.hid hn
  have HN' : Hid (n = L'.length) := hn.trans hnn
  have HH := Lib.hid h
  have HH' := Lib.hid h'
  clear h h' hn hnn
  go_enter Try.func41, Try.ntmps41
  go_wp2_with fail
  go_loopg [5] n (fun gk iv wr => ∃ k : Nat, k ≤ n ∧ gk = n - k ∧ iv = .int .i64 (k : Int) ∧ Hid (∀ i, i < k → L[i]? = L'[i]?) ∧ Hid (Below W.heap.size W wr))
  case atStart => exact ⟨0, Nat.zero_le _, rfl, rfl, fun i hi => by omega, Below.refl _ _⟩
  case round =>
    obtain ⟨k, hk, rfl, rfl, HE, HB⟩ := hrel
    by_cases hlt : k < n
    · have hj : k < L.length := by rw [← HN.out]; exact hlt
      have hj' : k < L'.length := by rw [← HN'.out]; exact hlt
      obtain ⟨x, hx⟩ : ∃ x, x = L[k] := ⟨_, rfl⟩
      obtain ⟨y, hy⟩ : ∃ y, y = L'[k] := ⟨_, rfl⟩
      have hx' := nat_len hj
      have hy' := nat_len hj'
      rw [← hx] at hx'
      rw [← hy] at hy'
      obtain ⟨b, o, e, -, c0, c1⟩ := RdK.pair (HH.out.kept HB.out) hx'
      subst e
      obtain ⟨b', o', e', -, d0, d1⟩ := RdK.pair (HH'.out.kept HB.out) hy'
      subst e'
      have HX := Lib.hid hx'
      have HY := Lib.hid hy'
      by_cases hxy : x = y
      · have hne : ∀ w, (binOp .neq 42 (.agg #[.string x.1, .string x.2]) (.agg #[.string y.1, .string y.2])).run Try.prog w = .ok (.bool false) w := fun w => (pr_ne x y w).trans (by simp [hxy])
        have HE2 : Hid (∀ i, i < k + 1 → L[i]? = L'[i]?) := fun i hi => by
          by_cases e : i = k
          · subst e
            rw [HX.out, HY.out, hxy]
          · exact HE.out i (by omega)
        clear hxy
        have z0 := fun q : Drift.Tide [] wr [] => Drift.Tide.cell c0 (by simp) q
        have z1 := fun q : Drift.Tide [] wr [] => Drift.Tide.cell c1 (by simp) q
        have x0 := fun q : Drift.Tide [] wr [] => Drift.Tide.cell d0 (by simp) q
        have x1 := fun q : Drift.Tide [] wr [] => Drift.Tide.cell d1 (by simp) q
        have hw2 : IntKind.i64.wrap ((k : Int) + 1) = ((k + 1 : Nat) : Int) := by rw [IntKind.wrap_i64]; omega
        clear c0 c1 d0 d1 hx hy hx' hy' hj hj'
        go_upto_region 6 with fail
        refine Drift.wp_region_drift [] [(0,[]),(1,[]),(2,[]),(3,[]),(4,[]),(5,[]),(6,[]),(7,[]),(8,[])] [] [] (by kernel_rfl) (by kernel_rfl) (by simp) ?_
        simp only [Drift.pick, Drift.opsAt, List.getElem?_toArray, List.getElem?_cons_zero, List.getElem?_cons_succ, List.cons_append, List.nil_append, List.filterMap_nil]
        repeat (refine Drift.walk_step (fun K hK => ?_); go_simp; (refine hK _ ?_; clear hK K))
        refine Drift.walk_nil ?_
        intro w2 hb _
        have HB2 := Lib.hid (HB.out.trans (hb.mono HB.out.size))
        clear z0 z1 x0 x1 hb HB hne
        simp only [List.length_cons, List.length_nil, List.drop_succ_cons, List.drop_nil, Nat.zero_add, Nat.reduceAdd]
        go_wp2_with fail
        go_roundg (n - (k + 1))
        case measure => omega
        case rel => exact ⟨k + 1, hlt, rfl, by go_num, HE2, HB2⟩
      · have hne : ∀ w, (binOp .neq 42 (.agg #[.string x.1, .string x.2]) (.agg #[.string y.1, .string y.2])).run Try.prog w = .ok (.bool true) w := fun w => (pr_ne x y w).trans (by simp [hxy])
        have HN2 : Hid (¬ L = L') := fun e => hxy (by
          have h1 := HX.out
          rw [e, HY.out] at h1
          exact (Option.some.inj h1).symm)
        clear hxy
        have z0 := fun q : Drift.Tide [] wr [] => Drift.Tide.cell c0 (by simp) q
        have z1 := fun q : Drift.Tide [] wr [] => Drift.Tide.cell c1 (by simp) q
        have x0 := fun q : Drift.Tide [] wr [] => Drift.Tide.cell d0 (by simp) q
        have x1 := fun q : Drift.Tide [] wr [] => Drift.Tide.cell d1 (by simp) q
        have hw2 : IntKind.i64.wrap ((k : Int) + 1) = ((k + 1 : Nat) : Int) := by rw [IntKind.wrap_i64]; omega
        clear c0 c1 d0 d1 hx hy hx' hy' hj hj'
        go_upto_region 6 with fail
        refine Drift.wp_region_drift [] [(0,[]),(1,[]),(2,[]),(3,[]),(4,[]),(5,[]),(6,[]),(7,[]),(8,[])] [] [] (by kernel_rfl) (by kernel_rfl) (by simp) ?_
        simp only [Drift.pick, Drift.opsAt, List.getElem?_toArray, List.getElem?_cons_zero, List.getElem?_cons_succ, List.cons_append, List.nil_append, List.filterMap_nil]
        repeat (refine Drift.walk_step (fun K hK => ?_); go_simp; (refine hK _ ?_; clear hK K))
        refine Drift.walk_nil ?_
        intro w2 hb _
        have HB2 := Lib.hid (HB.out.trans (hb.mono HB.out.size))
        clear z0 z1 x0 x1 hb HB hne
        simp only [List.length_cons, List.length_nil, List.drop_succ_cons, List.drop_nil, Nat.zero_add, Nat.reduceAdd]
        go_wp2_with fail
        go_ret
        exact ⟨⟨false, rfl, by simpa using HN2.out⟩, HB2.out⟩
    · have HR : Hid (L = L') := by
        refine List.ext_getElem? fun i => ?_
        by_cases hi : i < k
        · exact HE.out i hi
        · rw [List.getElem?_eq_none (by rw [← HN.out]; omega), List.getElem?_eq_none (by rw [← HN'.out]; omega)]
      obtain rfl : k = n := by omega
      clear hlt
      go_wp2_with fail
      go_ret
      exact ⟨⟨true, rfl, by simpa using HR.out⟩, HB.out⟩
end Lf
end Go.Proofs.Ytlcdjbleeanpbaa
