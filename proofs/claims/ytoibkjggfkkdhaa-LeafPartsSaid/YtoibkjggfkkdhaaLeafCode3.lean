/-
  The code's leaf: Get, Part, Halve.
-/
import Derived.Test.YtoibkjggfkkdhaaLeafCode2
import Derived.Test.YtoibkjggfkkdhaaCutC
import Derived.Test.YtoibkjggfkkdhaaPairR2
namespace Go.Proofs.Ytoibkjggfkkdhaa
open Go.RowKit
namespace Lf
open Mem Lx Bu
theorem Lb.lacks {L : List Pr} {key : ByteArray} {p : Nat} (h : Lb L key p) (hr : PRi L) (hn : ¬ ∃ m, L[p]? = some m ∧ m.1 = key) : getP L key = none :=
  getP_none fun i m _ hm e => by
    rcases Nat.lt_or_ge i p with hi | hi
    · have := h.lo i m hi hm
      rw [e, cmpB_self] at this
      omega
    · rcases Nat.eq_or_lt_of_le hi with rfl | hi
      · exact hn ⟨m, hm, e⟩
      · have hl := (List.getElem?_eq_some_iff.1 hm).1
        have hp : L[p]? = some (L[p]'(by omega)) := List.getElem?_eq_getElem _
        generalize L[p]'(by omega) = z at hp
        have h1 := h.hi p z (Nat.le_refl _) hp
        have h2 := PRi.at_ hr hp hm hi
        rw [e] at h2
        omega
theorem Lb.found {L : List Pr} {key : ByteArray} {p : Nat} {x : Pr} (hr : PRi L) (hx : L[p]? = some x) (hk : x.1 = key) : getP L key = some x.2 := by
  rw [hr.get, ← hk]
  exact List.mem_of_getElem? hx
set_option maxRecDepth 100000 in
set_option maxHeartbeats 2000000 in
theorem Get_any {W : World} {A : Option Addr} {c : Nat} {L : List Pr} (h : PC W A c L) (key : ByteArray) (_ : ∀ x, x ∈ L → x.1.size ≤ 1000) (hr : PRi L) (hl : L.length ≤ 1000) : Calls Try.prog 13 #[.slice A L.length c, .string key] W fun e w' => e = .returned (.tuple #[.string ((getP L key).getD ⟨#[]⟩), .bool (getP L key).isSome]) ∧ Below W.heap.size W w' := by
  have cS := Lib.hid (place_any (c := c) h.1 key hr (by omega))
  have HH := Lib.hid h
  clear h
  generalize hn : L.length = n at *
  have HN := Lib.hid hn
  clear hn
  go_enter Try.func13, Try.ntmps13
  go_upto_region 2 with (go_at_call 24; refine cS.out.mono ?_; rintro e w2 ⟨⟨p, b, rfl, h1, h2⟩, hb⟩)
  have HP := Lib.hid h1
  have HF := Lib.hid h2
  have HB := Lib.hid hb
  have hpn : p ≤ n := by rw [← HN.out]; exact h1.le
  clear h1 h2 hb cS
  cases b with
  | false =>
    have HE : Hid (getP L key = none) := HP.out.lacks hr (by have := HF.out; simpa using this)
    go_wp2_with fail
    refine bodyPost_ret (v := .tuple #[.string ⟨#[]⟩, .bool false]) (by simp [results, Try.results13, go_sem]) rfl ⟨?_, HB.out⟩
    rw [HE.out]
    rfl
  | true =>
    obtain ⟨x, hx, hk⟩ := HF.out.1 rfl
    have HE : Hid (getP L key = some x.2) := Lb.found hr hx hk
    have hpn2 : p < n := by rw [← HN.out]; exact (List.getElem?_eq_some_iff.1 hx).1
    obtain ⟨b, o, e, -, c0, c1⟩ := RdK.pair (HH.out.1.kept HB.out) hx
    subst e
    clear hx hk
    go_wp2_with fail
    refine bodyPost_ret (v := .tuple #[.string x.2, .bool true]) (by simp [results, Try.results13, go_sem]) rfl ⟨?_, HB.out⟩
    rw [HE.out]
    rfl
/-- the first of a span's, by the places -/
theorem Cut.part {P : Pr → Bool} {L : List Pr} {p q j : Nat} (h : Cut P L p q) (most : Int) (hj : j = min (q - p) most.toNat) : partP P most L = (L.take (p + j)).drop p := by
  have hf : L.filter P = (L.take q).drop p := by
    have e : L = L.take p ++ ((L.take q).drop p ++ L.drop q) := by
      have h1 : (L.take q).drop p ++ L.drop q = L.drop p := by
        have h2 := List.drop_append_of_le_length (l₁ := L.take q) (l₂ := L.drop q) (i := p) (by rw [List.length_take]; have := h.pq; have := h.le; omega)
        rw [List.take_append_drop] at h2
        exact h2.symm
      rw [h1, List.take_append_drop]
    have f1 : (L.take p).filter P = [] := by
      rw [List.filter_eq_nil_iff]
      intro x hx
      obtain ⟨i, hi⟩ := List.getElem?_of_mem hx
      have hip : i < p := by
        have := (List.getElem?_eq_some_iff.1 hi).1
        rw [List.length_take] at this
        omega
      rw [List.getElem?_take_of_lt hip] at hi
      rw [h.ahead i x hip hi]
      simp
    have f2 : ((L.take q).drop p).filter P = (L.take q).drop p := by
      rw [List.filter_eq_self]
      intro x hx
      obtain ⟨i, hi⟩ := List.getElem?_of_mem hx
      rw [List.getElem?_drop] at hi
      have hiq : p + i < q := by
        have := (List.getElem?_eq_some_iff.1 hi).1
        rw [List.length_take] at this
        omega
      rw [List.getElem?_take_of_lt hiq] at hi
      exact h.inn (p + i) x (by omega) hiq hi
    have f3 : (L.drop q).filter P = [] := by
      rw [List.filter_eq_nil_iff]
      intro x hx
      obtain ⟨i, hi⟩ := List.getElem?_of_mem hx
      rw [List.getElem?_drop] at hi
      rw [h.behind (q + i) x (by omega) hi]
      simp
    calc L.filter P = (L.take p ++ ((L.take q).drop p ++ L.drop q)).filter P := by rw [← e]
      _ = (L.take q).drop p := by rw [List.filter_append, List.filter_append, f1, f2, f3]; simp
  unfold partP
  rw [hf, List.take_drop, List.take_take]
  have h1 := h.pq
  have h2 := h.le
  rcases Nat.le_total (q - p) most.toNat with h3 | h3
  · rw [Nat.min_eq_left h3] at hj
    rw [show min (p + most.toNat) q = q by omega, show p + j = q by omega]
  · rw [Nat.min_eq_right h3] at hj
    rw [show min (p + most.toNat) q = p + most.toNat by omega, hj]
/-- a row of the call's own, told as a value -/
def EvP (B n : Nat) (X : List Pr) (v : Value) (w : World) : Prop := ∃ A' c', v = .slice A' n c' ∧ P3 w B A' c' X
theorem cloneP1 {W : World} {A : Option Addr} {n c : Nat} {X : List Pr} (h : PL W A X) (hn : X.length = n) (hl : n ≤ 1000000) : Calls Try.prog 29 #[.slice A n c] W fun e w' => (∃ v, e = .returned v ∧ EvP W.heap.size n X v w') ∧ Below W.heap.size W w' := by
  subst hn
  exact (CloneP_any (c := c) h (by omega)).mono fun e w' ⟨⟨A', c', he, hm⟩, hb⟩ => ⟨⟨_, he, A', c', rfl, hm⟩, hb⟩
theorem run_midP (A : Option Addr) (n c p q : Nat) (hp : p ≤ q) (hq : q ≤ c) (w : World) :
    (Instr.slice 22 (.slice A n c) (some (.int .i64 (p : Int))) (some (.int .i64 (q : Int))) none).run Try.prog w = .ok (.slice (cutK 2 A c p) (q - p) (c - p)) w := run_midK Try.underlying22 prinfo A n c p q hp hq w
set_option maxRecDepth 100000 in
set_option maxHeartbeats 4000000 in
theorem Part_any {W : World} {A : Option Addr} {c : Nat} {L : List Pr} (h : PC W A c L) (lo hi : ByteArray) (top : Bool) (most : Int) (_ : lo.size ≤ 1000) (_ : hi.size ≤ 1000) (_ : ∀ x, x ∈ L → x.1.size ≤ 1000) (hr : PRi L) (hl : L.length ≤ 1000) : Calls Try.prog 17 #[.slice A L.length c, .agg #[.string lo, .string hi, .bool top], .int .i64 most] W fun e w' => (∃ A1 c1, e = .returned (.slice A1 (partP (fun m => inB lo hi top m.1) most L).length c1) ∧ PL w' A1 (partP (fun m => inB lo hi top m.1) most L)) ∧ Below W.heap.size W w' := by
  have cS := fun (W' : World) (hb : Below W.heap.size W W') => Lib.hid (places_any (c := c) (h.1.kept hb) lo hi top hr (by omega))
  have HH := Lib.hid h
  have hc := h.2
  have HT : Hid (∀ p q j, Cut (fun m => inB lo hi top m.1) L p q → j = min (q - p) most.toNat → partP (fun m => inB lo hi top m.1) most L = (L.take (p + j)).drop p) := fun p q j hp hj => hp.part most hj
  clear h
  generalize hn : L.length = n at *
  generalize partP (fun m => inB lo hi top m.1) most L = TT at *
  have HN := Lib.hid hn
  clear hn
  go_enter Try.func17, Try.ntmps17
  go_upto_region 1 with fail
  have hx := heap_alloc_new W (.cells #[.string lo, .string hi, .bool top] 37)
  have hb0 : Below W.heap.size W (W.alloc (.cells #[.string lo, .string hi, .bool top] 37)) := (Below.refl _ _).alloc (Nat.le_refl _) _
  generalize W.alloc (.cells #[.string lo, .string hi, .bool top] 37) = w1 at *
  obtain ⟨g, hg⟩ : ∃ g, g = W.heap.size := ⟨_, rfl⟩
  rw [← hg] at hx ⊢
  have HB := Lib.hid hb0
  obtain ⟨d0, d1, d2⟩ := box3 hx
  clear hx hb0 hg
  go_upto_region 2 with (go_at_call 28; refine (cS _ HB.out).out.mono ?_; rintro e w2 ⟨⟨p, q, rfl, h1⟩, hb⟩)
  clear d0 d1 d2 cS
  have hpq : p ≤ q := h1.pq
  have hqn : q ≤ n := by rw [← HN.out]; exact h1.le
  replace HB := Lib.hid (HB.out.trans (hb.mono HB.out.size))
  have HMC := Lib.hid (HH.out.kept HB.out)
  have HC := Lib.hid h1
  obtain ⟨j, hj⟩ : ∃ j, j = min (q - p) most.toNat := ⟨_, rfl⟩
  have eT := HT.out p q j h1 hj
  clear HT
  obtain ⟨r, hrr⟩ : ∃ r, r = p + j := ⟨_, rfl⟩
  rw [← hrr] at eT
  subst eT
  have hrq : r ≤ q := by omega
  have hpr : p ≤ r := by omega
  have HL1 : Hid (((L.take r).drop p).length = r - p) := by unfold Hid; rw [List.length_drop, List.length_take, HN.out]; omega
  clear h1 hb
  go_upto_region 2 with fail
  go_cut [8] (fun v wx => v = .int .i64 (r : Int) ∧ wx = w2)
  case first =>
    have hw1 : IntKind.i64.wrap ((q : Int) - (p : Int)) = ((q - p : Nat) : Int) := by rw [IntKind.wrap_i64]; omega
    rcases Int.lt_trichotomy most 0 with hm | hm | hm
    · obtain rfl : j = 0 := by omega
      clear hj HL1
      go_wp2_with fail
      all_goals (go_meet; exact ⟨congrArg (Value.int .i64) (by omega), rfl⟩)
    · subst hm
      obtain rfl : j = 0 := by omega
      clear hj HL1
      go_wp2_with fail
      all_goals (go_meet; exact ⟨congrArg (Value.int .i64) (by omega), rfl⟩)
    · obtain ⟨k, hk⟩ : ∃ k : Nat, most = (k : Int) := ⟨most.toNat, by omega⟩
      subst hk
      rcases Nat.lt_trichotomy (q - p) k with hk | hk | hk
      · obtain rfl : j = q - p := by omega
        clear hj HL1
        go_wp2_with fail
        all_goals (go_meet; exact ⟨congrArg (Value.int .i64) (by omega), rfl⟩)
      · subst hk
        obtain rfl : j = q - p := by omega
        clear hj HL1
        go_wp2_with fail
        all_goals (go_meet; exact ⟨congrArg (Value.int .i64) (by omega), rfl⟩)
      · obtain rfl : j = k := by omega
        clear hj HL1
        go_wp2_with fail
        all_goals (go_meet; exact ⟨congrArg (Value.int .i64) (by omega), rfl⟩)
  case rest =>
  clear hj hrr
  obtain ⟨rfl, rfl⟩ := hcut
  have r1 := fun w => run_midP A n c p r (by omega) (by omega) w
  have cC := Lib.hid (cloneP1 (c := c - p) (X := (L.take r).drop p) ((HMC.out.upTo r).cut p).1 HL1.out (by omega))
  have hK : PrK.k = 2 := rfl
  rw [hK] at cC
  go_wp2_with (go_at_call 29; refine cC.out.mono ?_; rintro e w3 ⟨⟨v, rfl, A', c', rfl, hv⟩, hb⟩)
  go_ret
  exact ⟨⟨A', c', by rw [HL1.out]; rfl, hv.rd⟩, HB.out.trans (hb.mono HB.out.size)⟩
set_option maxRecDepth 100000 in
set_option maxHeartbeats 4000000 in
theorem Halve_any {W : World} {A : Option Addr} {c : Nat} {L : List Pr} (h : PC W A c L) (hL : ∀ x, x ∈ L → x.1.size ≤ 1000) (_ : PRi L) (hl : L.length ≤ 1000) : Calls Try.prog 19 #[.slice A L.length c] W fun e w' => (∃ A1 c1 A2 c2, e = .returned (.tuple #[.slice A1 (halfP L).1.length c1, .slice A2 (halfP L).2.1.length c2, .string (halfP L).2.2.1, .bool (halfP L).2.2.2]) ∧ PC w' A1 c1 (halfP L).1 ∧ PC w' A2 c2 (halfP L).2.1) ∧ Below W.heap.size W w' := by
  rcases Nat.lt_or_ge L.length 2 with h2 | h2
  · rw [halfP_few h2]
    clear h hL
    generalize L.length = n at *
    go_enter Try.func19, Try.ntmps19
    go_wp2_with fail
    exact bodyPost_ret (v := .tuple #[.slice none 0 0, .slice none 0 0, .string ⟨#[]⟩, .bool false]) (by simp [results, Try.results19, go_sem]) rfl ⟨⟨none, 0, none, 0, rfl, RC.nil _ _ _, RC.nil _ _ _⟩, Below.refl _ _⟩
  · obtain ⟨k, hk⟩ : ∃ k, k = (L.length + 1) / 2 := ⟨_, rfl⟩
    have hk1 : k - 1 < L.length := by omega
    have hk2 : k < L.length := by omega
    obtain ⟨x, hx⟩ : ∃ x, x = L[k - 1] := ⟨_, rfl⟩
    obtain ⟨y, hy⟩ : ∃ y, y = L[k] := ⟨_, rfl⟩
    have hx' : L[k - 1]? = some x := by rw [hx]; exact List.getElem?_eq_getElem hk1
    have hy' : L[k]? = some y := by rw [hy]; exact List.getElem?_eq_getElem hk2
    have hh := halfP_some (by rw [← hk]; exact hx') (by rw [← hk]; exact hy')
    rw [hh, ← hk]
    simp only
    have hxs := hL x (List.mem_of_getElem? hx')
    have hys := hL y (List.mem_of_getElem? hy')
    obtain ⟨b, o, e, hc⟩ := RdK.pplace h.1 (by omega)
    subst e
    obtain ⟨c0, -⟩ := hc _ x hx'
    obtain ⟨d0, -⟩ := hc _ y hy'
    have HH := Lib.hid h
    have hcc := h.2
    have cC : ∀ w : World, Hid (Calls Try.prog 31 #[.string x.1, .string y.1] w fun e w' => e = .returned (.tuple #[.string (cutB x.1 y.1).1, .bool (cutB x.1 y.1).2]) ∧ Below w.heap.size w w') := fun w => (Cut_any x.1 y.1 w (by unfold maxLen; omega) (by unfold maxLen; omega)).mono fun e w' ⟨he, m, hw⟩ => ⟨he, by subst hw; exact ⟨rfl, rfl, rfl, Nat.le_refl _, fun _ _ => rfl⟩⟩
    generalize cutB x.1 y.1 = ct at *
    obtain ⟨pv, po⟩ := ct
    simp only at cC ⊢
    clear hx hy hh
    have hk3 : k < L.length := hk2
    clear hk1 hk2
    generalize hn : L.length = n at *
    have HN := Lib.hid hn
    have HL1 : Hid ((L.take k).length = k) := by unfold Hid; rw [List.length_take, hn]; omega
    have HL2 : Hid ((L.drop k).length = n - k) := by unfold Hid; rw [List.length_drop, hn]
    obtain ⟨j, hj⟩ : ∃ j, j = k - 1 := ⟨_, rfl⟩
    rw [← hj] at c0
    have hw1 : IntKind.i64.wrap ((n : Int) + 1) = ((n + 1 : Nat) : Int) := by rw [IntKind.wrap_i64]; omega
    have hw2 : IntKind.i64.wrap ((k : Int) - 1) = (j : Int) := by rw [IntKind.wrap_i64]; omega
    have HQ : Hid (((n : Int) + 1) / 2 = (k : Int)) := by unfold Hid; omega
    have hw3 : IntKind.i64.wrap (k : Int) = (k : Int) := by rw [IntKind.wrap_i64]; omega
    have hjn : j < n := by omega
    have hkc : k ≤ c := by omega
    have z0 := fun q : Drift.Tide [] W [] => Drift.Tide.cell c0 (by simp) q
    have z1 := fun q : Drift.Tide [] W [] => Drift.Tide.cell d0 (by simp) q
    have HW : Hid ((L.take k).length = k ∧ (L.drop k).length = n - k) := ⟨HL1.out, HL2.out⟩
    rw [HL1.out, HL2.out]
    clear h hc hx' hy' hk hn hxs hys c0 d0 hj
    go_enter Try.func19, Try.ntmps19
    go_upto_region 4 with fail
    rw [HQ.out]
    refine Drift.wp_region_drift [] [(0,[]),(1,[]),(2,[]),(3,[]),(4,[]),(5,[]),(6,[]),(7,[]),(8,[]),(9,[]),(10,[]),(11,[]),(12,[]),(13,[]),(14,[]),(15,[])] [] [] (by kernel_rfl) (by kernel_rfl) (by simp) ?_
    simp only [Drift.pick, Drift.opsAt, List.getElem?_toArray, List.getElem?_cons_zero, List.getElem?_cons_succ, List.cons_append, List.nil_append, List.filterMap_nil]
    repeat (refine Drift.walk_step (fun K hK => ?_); go_simp; first | (refine hK _ ?_; clear hK K) | (apply Exists.intro; refine ⟨fun q => ?_, hK _ ?_⟩; (go_at_call 31; exact (cC _).out); clear hK K))
    refine Drift.walk_nil ?_
    intro w2 hb _
    have HB : Hid (Below W.heap.size W w2) := hb
    have HM := Lib.hid (HH.out.kept hb)
    have r1 := fun w => run_upToP (some ⟨b, o, none⟩) n c k hkc w
    have r2 := fun w => run_cutP (some ⟨b, o, none⟩) n c k (by omega) w
    clear z0 z1 hb cC HH hw1 hw2 hw3
    simp only [List.length_cons, List.length_nil, List.drop_succ_cons, List.drop_nil, Nat.zero_add, Nat.reduceAdd]
    go_upto_region 5 with fail
    refine Drift.wp_region_drift [] [(0,[]),(1,[]),(2,[]),(4,[]),(5,[]),(6,[]),(8,[]),(3,[]),(7,[]),(9,[]),(10,[]),(11,[]),(12,[])] [3, 7] [] (by kernel_rfl) (by kernel_rfl) (by simp) ?_
    simp only [Drift.pick, Drift.opsAt, List.getElem?_toArray, List.getElem?_cons_zero, List.getElem?_cons_succ, List.cons_append, List.nil_append, List.filterMap_nil]
    repeat (refine Drift.walk_step (fun K hK => ?_); go_simp; (refine hK _ ?_; clear hK K))
    refine Drift.walk_event rfl Drift.mkwalk_nil (EvP W.heap.size k (L.take k)) (fun W2 hk _ => ?_) (fun v w5 hv hI _ hTd => ?_)
    · go_simp
      go_at_call 29
      refine (cloneP1 (X := L.take k) ((HM.out.kept hk).upTo k).1 HL1.out (by omega)).mono ?_
      rintro e w' ⟨⟨v, rfl, A', c', rfl, hv⟩, hb⟩
      exact ⟨_, rfl, ⟨A', c', rfl, hv.mono (Nat.le_trans HB.out.size hk.size)⟩, Flow.Into.of_below hb⟩
    obtain ⟨A1, c1, rfl, hv⟩ := hv
    have HI1 : Hid (Below w2.heap.size w2 w5) := hI.below
    have HV1 := Lib.hid hv
    have HM5 := Lib.hid (HM.out.kept hI.below)
    have HB5 : Hid (Below W.heap.size W w5) := HB.out.trans (hI.below.mono HB.out.size)
    clear hI hv hTd HM
    refine Drift.walk_event rfl Drift.mkwalk_nil (EvP W.heap.size (n - k) (L.drop k)) (fun W2 hk _ => ?_) (fun v w6 hv hI _ hTd => ?_)
    · go_simp
      go_at_call 29
      refine (cloneP1 (X := L.drop k) ((HM5.out.kept hk).cut k).1 HL2.out (by omega)).mono ?_
      rintro e w' ⟨⟨v, rfl, A', c', rfl, hv⟩, hb⟩
      exact ⟨_, rfl, ⟨A', c', rfl, hv.mono (Nat.le_trans HB5.out.size hk.size)⟩, Flow.Into.of_below hb⟩
    obtain ⟨A2, c2, rfl, hv⟩ := hv
    have HV2 := Lib.hid hv
    have HV1' := Lib.hid (HV1.out.kept hI.below)
    have HB6 : Hid (Below W.heap.size W w6) := HB5.out.trans (hI.below.mono HB5.out.size)
    clear hI hv HV1 HM5 HI1 HB5
    repeat (refine Drift.walk_step (fun K hK => ?_); go_simp; (refine hK _ ?_; clear hK K))
    refine Drift.walk_nil ?_
    intro w7 hb7 _
    have HB7 : Hid (Below W.heap.size W w7) := HB6.out.trans (hb7.mono HB6.out.size)
    have HV3 := Lib.hid (HV1'.out.kept hb7)
    have HV4 := Lib.hid (HV2.out.kept hb7)
    clear hTd hb7 HV1' HV2 HB6 r1 r2
    simp only [List.length_cons, List.length_nil, List.drop_succ_cons, List.drop_nil, Nat.zero_add, Nat.reduceAdd]
    go_wp2_with fail
    exact bodyPost_ret (v := .tuple #[.slice A1 k c1, .slice A2 (n - k) c2, .string pv, .bool true]) (by simp [results, Try.results19, go_sem]) rfl ⟨⟨A1, c1, A2, c2, rfl, VK.rc HV3.out, VK.rc HV4.out⟩, HB7.out⟩
end Lf
end Go.Proofs.Ytoibkjggfkkdhaa
