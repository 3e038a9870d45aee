/-
  The code's buf: Put, Part, Take, Split.
-/
import Derived.Test.YtmgmkfophdjidaaBufSl
namespace Go.Proofs.Ytmgmkfophdjidaa
open Go.RowKit
namespace Bu
open Mem Lx
/-- an answer in a row made since B -/
def EvRow (B n : Nat) (X : List Mg) (v : Value) (w : World) : Prop := ∃ A' c', v = .slice A' n c' ∧ M3 w B A' c' X
theorem MM.three {w : World} {g : Nat} {U : TypeId} {L1 L2 L3 : List Mg} {A1 A2 A3 : Option Addr} {n1 n2 n3 c1 c2 c3 : Nat} {fl : Nat × Nat} (h : w.heap[g]? = some (.cells #[.slice A1 n1 c1, .slice A2 n2 c2, .slice A3 n3 c3] U fl)) (e1 : L1.length = n1) (e2 : L2.length = n2) (e3 : L3.length = n3) (h1 : ML w A1 L1) (h2 : ML w A2 L2) (h3 : ML w A3 L3) : MM w g [L1, L2, L3] := fun i M hM => by
  subst e1 e2 e3
  match i, hM with
  | 0, hM =>
    cases hM
    exact ⟨A1, c1, by simp [World.cell?, h], h1⟩
  | 1, hM =>
    cases hM
    exact ⟨A2, c2, by simp [World.cell?, h], h2⟩
  | 2, hM =>
    cases hM
    exact ⟨A3, c3, by simp [World.cell?, h], h3⟩
theorem concat3 {W : World} {g cx : Nat} {U : TypeId} {L1 L2 L3 X : List Mg} {A1 A2 A3 : Option Addr} {n1 n2 n3 c1 c2 c3 N : Nat} {fl : Nat × Nat} (h : W.heap[g]? = some (.cells #[.slice A1 n1 c1, .slice A2 n2 c2, .slice A3 n3 c3] U fl)) (e1 : L1.length = n1) (e2 : L2.length = n2) (e3 : L3.length = n3) (h1 : ML W A1 L1) (h2 : ML W A2 L2) (h3 : ML W A3 L3) (hX : L1 ++ L2 ++ L3 = X) (hN : X.length = N) (hl : N ≤ 1000000) : Calls Try.prog 28 #[.slice (some ⟨g, 0, none⟩) 3 cx] W fun e w' => (∃ v, e = .returned v ∧ EvRow W.heap.size N X v w') ∧ Below W.heap.size W w' := by
  have hf : [L1, L2, L3].flatten = X := by rw [← hX]; simp
  have := Concat_any (cx := cx) (MM.three h e1 e2 e3 h1 h2 h3) (show 3 ≤ 1000 by decide) (by rw [hf, hN]; exact hl)
  rw [hf, hN] at this
  exact this.mono fun e w' ⟨⟨A', c', he, hm⟩, hb⟩ => ⟨⟨_, he, A', c', rfl, hm⟩, hb⟩
theorem concat2 {W : World} {g cx : Nat} {U : TypeId} {L1 L2 X : List Mg} {A1 A2 : Option Addr} {n1 n2 c1 c2 N : Nat} {fl : Nat × Nat} (h : W.heap[g]? = some (.cells #[.slice A1 n1 c1, .slice A2 n2 c2] U fl)) (e1 : L1.length = n1) (e2 : L2.length = n2) (h1 : ML W A1 L1) (h2 : ML W A2 L2) (hX : L1 ++ L2 = X) (hN : X.length = N) (hl : N ≤ 1000000) : Calls Try.prog 28 #[.slice (some ⟨g, 0, none⟩) 2 cx] W fun e w' => (∃ v, e = .returned v ∧ EvRow W.heap.size N X v w') ∧ Below W.heap.size W w' := by
  subst e1 e2
  have hf : [L1, L2].flatten = X := by rw [← hX]; simp
  have := Concat_any (cx := cx) (MM.two h h1 h2) (show 2 ≤ 1000 by decide) (by rw [hf, hN]; exact hl)
  rw [hf, hN] at this
  exact this.mono fun e w' ⟨⟨A', c', he, hm⟩, hb⟩ => ⟨⟨_, he, A', c', rfl, hm⟩, hb⟩
theorem clone1 {W : World} {A : Option Addr} {n c : Nat} {X : List Mg} (h : ML W A X) (hn : X.length = n) (hl : n ≤ 1000000) : Calls Try.prog 30 #[.slice A n c] W fun e w' => (∃ v, e = .returned v ∧ EvRow W.heap.size n X v w') ∧ Below W.heap.size W w' := by
  subst hn
  exact (Clone_any (c := c) h (by omega)).mono fun e w' ⟨⟨A', c', he, hm⟩, hb⟩ => ⟨⟨_, he, A', c', rfl, hm⟩, hb⟩
set_option maxRecDepth 100000 in
set_option maxHeartbeats 4000000 in
theorem Put_any {W : World} {A : Option Addr} {c : Nat} {L : List Mg} (h : MC W A c L) (m : Mg) (_ : m.1.size ≤ 1000) (_ : ∀ m, m ∈ L → m.1.size ≤ 1000) (hr : Ri L) (hl : L.length ≤ 1000) : Calls Try.prog 15 #[.slice A L.length c, mgV m] W fun e w' => (∃ A' c', e = .returned (.slice A' (putD L m).length c') ∧ ML w' A' (putD L m)) ∧ Below W.heap.size W w' := by
  have cS := fun (W' : World) (hb : Below W.heap.size W W') => Lib.hid (place_any (c := c) (h.1.kept hb) m.1 hr (by omega))
  have HH := Lib.hid h
  have hc := h.2
  have hpl := hr.put_len m
  clear h
  generalize hn : L.length = n at *
  generalize hN : (putD L m).length = N at *
  have HN := Lib.hid hn
  have HPN := Lib.hid hN
  clear hn hN
  unfold mgV
  go_enter Try.func15, Try.ntmps15
  go_upto_region 1 with fail
  have hx := heap_alloc_new W (.cells #[.string m.1, .bool m.2.1, .string m.2.2] 28)
  have hb0 : Below W.heap.size W (W.alloc (.cells #[.string m.1, .bool m.2.1, .string m.2.2] 28)) := (Below.refl _ _).alloc (Nat.le_refl _) _
  generalize W.alloc (.cells #[.string m.1, .bool m.2.1, .string m.2.2] 28) = w1 at *
  obtain ⟨g, hg⟩ : ∃ g, g = W.heap.size := ⟨_, rfl⟩
  rw [← hg] at hx ⊢
  have HB := Lib.hid hb0
  have HX := Lib.hid hx
  clear hx hb0 hg
  obtain ⟨d0, d1, d2⟩ := box3 HX.out
  go_upto_region 2 with (go_at_call 27; refine (cS _ HB.out).out.mono ?_; rintro e w2 ⟨⟨p, b, rfl, h1, h2⟩, hb⟩)
  clear d0 d1 d2 cS
  have HP := Lib.hid h1
  have HF := Lib.hid h2
  replace HX := Lib.hid (kept3 HX.out hb)
  replace HB := Lib.hid (HB.out.trans (hb.mono HB.out.size))
  have hpn : p ≤ n := by rw [← HN.out]; exact h1.le
  clear h1 h2 hb
  obtain ⟨q, hq⟩ : ∃ q, q = if b = true then p + 1 else p := ⟨_, rfl⟩
  have HQ : Hid (q = p ∧ (¬ ∃ x, L[p]? = some x ∧ x.1 = m.1) ∨ q = p + 1 ∧ ∃ x, L[p]? = some x ∧ x.1 = m.1) := by
    have := HF.out
    cases b with
    | false => exact .inl ⟨by simpa using hq, by simpa using this⟩
    | true => exact .inr ⟨by simpa using hq, this.1 rfl⟩
  have hqn : q ≤ n := by
    rcases HQ.out with ⟨h1, _⟩ | ⟨h1, x, hx, _⟩
    · omega
    · have := (List.getElem?_eq_some_iff.1 hx).1
      rw [HN.out] at this
      omega
  clear HF
  go_upto_if 16 with fail
  go_cut [7] (fun qv wx => qv = .int .i64 (q : Int) ∧ wx = w2)
  case first =>
    cases b with
    | false =>
      obtain rfl : q = p := by simpa using hq
      clear hq
      go_wp2_with fail
      go_meet
      exact ⟨rfl, rfl⟩
    | true =>
      obtain rfl : q = p + 1 := by simpa using hq
      clear hq
      have hw : IntKind.i64.wrap ((p : Int) + 1) = ((p + 1 : Nat) : Int) := by rw [IntKind.wrap_i64]; omega
      go_wp2_with fail
      go_meet
      exact ⟨by go_num, rfl⟩
  case rest =>
  clear hq
  obtain ⟨rfl, rfl⟩ := hcut
  have HX1 : Hid (L.take p ++ [m] ++ L.drop q = putD L m) := (HP.out.put hr HQ.out).symm
  have HMC := Lib.hid (HH.out.kept HB.out)
  have r1 := fun w => run_upToM A n c p (by omega) w
  have r2 := fun w => run_cutM A n c q hqn w
  obtain ⟨d0, d1, d2⟩ := box3 HX.out
  have z0 := fun t : Drift.Tide [] wc [] => Drift.Tide.cell d0 (by simp) t
  have z1 := fun t : Drift.Tide [] wc [] => Drift.Tide.cell d1 (by simp) t
  have z2 := fun t : Drift.Tide [] wc [] => Drift.Tide.cell d2 (by simp) t
  clear d0 d1 d2 HX
  go_upto_region 5 with fail
  refine Drift.wp_region_drift [] [(0,[]),(1,[]),(2,[]),(3,[]),(5,[]),(6,[]),(7,[]),(4,[]),(8,[]),(9,[]),(10,[])] [9] [4, 8] (by kernel_rfl) (by kernel_rfl) (by simp) ?_
  simp only [Drift.pick, Drift.opsAt, List.getElem?_toArray, List.getElem?_cons_zero, List.getElem?_cons_succ, List.cons_append, List.nil_append, List.filterMap_nil]
  repeat (refine Drift.walk_step (fun K hK => ?_); go_simp; (refine hK _ ?_; clear hK K))
  refine Drift.walk_make rfl Drift.mkwalk_nil (fun b => .slice (some ⟨b, 0, none⟩) 1 1) (.cells #[.string m.1, .bool m.2.1, .string m.2.2] 28) (fun W => by go_simp) (fun b1 hb1 hT1 => ?_)
  refine Drift.walk_make rfl Drift.mkwalk_nil (fun b => .slice (some ⟨b, 0, none⟩) 3 3) (.cells #[.slice A p c, .slice (some ⟨b1, 0, none⟩) 1 1, .slice (cutM A c q) (n - q) (c - q)] 22) (fun W => by go_simp) (fun b3 hb3 hT3 => ?_)
  refine Drift.walk_event rfl Drift.mkwalk_nil (EvRow W.heap.size N (putD L m)) (fun W2 hk hl2 => ?_) (fun v w5 hv hI _ hTd => ?_)
  · go_simp
    go_at_call 28
    have hM := HMC.out.kept hk
    refine (concat3 (L1 := L.take p) (L2 := [m]) (L3 := L.drop q) (hl2 (b3, .cells #[.slice A p c, .slice (some ⟨b1, 0, none⟩) 1 1, .slice (cutM A c q) (n - q) (c - q)] 22) (by simp)) (by rw [List.length_take, HN.out]; omega) rfl (by rw [List.length_drop, HN.out]) (hM.upTo p).1 (RdK.of_block (L := [m]) (hl2 (b1, .cells #[.string m.1, .bool m.2.1, .string m.2.2] 28) (by simp))) (hM.cut q).1 HX1.out HPN.out (by omega)).mono ?_
    rintro e w' ⟨⟨v, rfl, A', c', rfl, hv⟩, hb⟩
    exact ⟨_, rfl, ⟨A', c', rfl, hv.mono (Nat.le_trans HB.out.size hk.size)⟩, Flow.Into.of_below hb⟩
  obtain ⟨A', c', rfl, hv⟩ := hv
  have HI := Lib.hid hI
  have HV := Lib.hid hv
  clear hI hv
  repeat (refine Drift.walk_step (fun K hK => ?_); go_simp; (refine hK _ ?_; clear hK K))
  refine Drift.walk_nil ?_
  intro w6 hb6 _
  have HB6 : Hid (Below W.heap.size W w6) := HB.out.trans ((HI.out.below.trans (hb6.mono HI.out.size)).mono HB.out.size)
  have HV6 := Lib.hid (HV.out.kept hb6)
  clear hTd hb6 HV HI z0 z1 z2 r1 r2 hT1 hT3
  simp only [List.length_cons, List.length_nil, List.drop_succ_cons, List.drop_nil, Nat.zero_add, Nat.reduceAdd]
  go_wp2_with fail
  go_ret
  exact ⟨⟨A', c', rfl, HV6.out.rd⟩, HB6.out⟩
set_option maxRecDepth 100000 in
set_option maxHeartbeats 4000000 in
theorem Split_any {W : World} {A : Option Addr} {c : Nat} {L : List Mg} (h : MC W A c L) (key : ByteArray) (_ : key.size ≤ 1000) (_ : ∀ m, m ∈ L → m.1.size ≤ 1000) (hr : Ri L) (hl : L.length ≤ 1000) : Calls Try.prog 21 #[.slice A L.length c, .string key] W fun e w' => (∃ A1 c1 A2 c2, e = .returned (.tuple #[.slice A1 (takeD (fun m => decide (cmpB m.1 key < 0)) (L.length : Int) L).1.length c1, .slice A2 (takeD (fun m => decide (cmpB m.1 key < 0)) (L.length : Int) L).2.length c2]) ∧ MC w' A1 c1 (takeD (fun m => decide (cmpB m.1 key < 0)) (L.length : Int) L).1 ∧ MC w' A2 c2 (takeD (fun m => decide (cmpB m.1 key < 0)) (L.length : Int) L).2 ∧ From W A A2) ∧ Below W.heap.size W w' := by
  have cS := Lib.hid (place_any (c := c) h.1 key hr (by omega))
  have HH := Lib.hid h
  have hc := h.2
  have HT : Hid (∀ p, Lb L key p → takeD (fun m => decide (cmpB m.1 key < 0)) (L.length : Int) L = (L.take p, L.drop p)) := fun p hp => hp.split
  clear h
  generalize hn : L.length = n at *
  generalize takeD (fun m => decide (cmpB m.1 key < 0)) (n : Int) L = TT at *
  obtain ⟨T1, T2⟩ := TT
  have HN := Lib.hid hn
  clear hn
  simp only
  go_enter Try.func21, Try.ntmps21
  go_upto_region 2 with (go_at_call 27; refine cS.out.mono ?_; rintro e w2 ⟨⟨p, b, rfl, h1, -⟩, hb⟩)
  have hpn : p ≤ n := by rw [← HN.out]; exact h1.le
  have e12 := HT.out p h1
  obtain ⟨rfl, rfl⟩ : T1 = L.take p ∧ T2 = L.drop p := by simpa using e12
  have HMC := Lib.hid (HH.out.kept hb)
  have HB := Lib.hid hb
  have HL1 : Hid ((L.take p).length = p) := by unfold Hid; rw [List.length_take, HN.out]; omega
  have HL2 : Hid ((L.drop p).length = n - p) := by unfold Hid; rw [List.length_drop, HN.out]
  have r1 := fun w => run_upToM A n c p (by omega) w
  have r2 := fun w => run_cutM A n c p hpn w
  clear h1 hb cS e12 HT
  refine Drift.wp_region_drift [] [(0,[]),(1,[]),(2,[]),(4,[]),(5,[]),(6,[]),(3,[]),(7,[]),(8,[]),(9,[])] [3, 7] [] (by kernel_rfl) (by kernel_rfl) (by simp) ?_
  simp only [Drift.pick, Drift.opsAt, List.getElem?_toArray, List.getElem?_cons_zero, List.getElem?_cons_succ, List.cons_append, List.nil_append, List.filterMap_nil]
  repeat (refine Drift.walk_step (fun K hK => ?_); go_simp; (refine hK _ ?_; clear hK K))
  refine Drift.walk_event rfl Drift.mkwalk_nil (EvRow W.heap.size p (L.take p)) (fun W2 hk _ => ?_) (fun v w5 hv hI _ hTd => ?_)
  · go_simp
    go_at_call 30
    refine (clone1 (X := L.take p) ((HMC.out.kept hk).upTo p).1 HL1.out (by omega)).mono ?_
    rintro e w' ⟨⟨v, rfl, A', c', rfl, hv⟩, hb⟩
    exact ⟨_, rfl, ⟨A', c', rfl, hv.mono (Nat.le_trans HB.out.size hk.size)⟩, Flow.Into.of_below hb⟩
  obtain ⟨A1, c1, rfl, hv⟩ := hv
  have HI1 : Hid (Below w2.heap.size w2 w5) := hI.below
  have HV1 := Lib.hid hv
  have HMC5 := Lib.hid (HMC.out.kept hI.below)
  have HB5 : Hid (Below W.heap.size W w5) := HB.out.trans (hI.below.mono HB.out.size)
  clear hI hv hTd HMC
  refine Drift.walk_event rfl Drift.mkwalk_nil (EvRow W.heap.size (n - p) (L.drop p)) (fun W2 hk _ => ?_) (fun v w6 hv hI _ hTd => ?_)
  · go_simp
    go_at_call 30
    refine (clone1 (X := L.drop p) ((HMC5.out.kept hk).cut p).1 HL2.out (by omega)).mono ?_
    rintro e w' ⟨⟨v, rfl, A', c', rfl, hv⟩, hb⟩
    exact ⟨_, rfl, ⟨A', c', rfl, hv.mono (Nat.le_trans HB5.out.size hk.size)⟩, Flow.Into.of_below hb⟩
  obtain ⟨A2, c2, rfl, hv⟩ := hv
  have HV2 := Lib.hid hv
  have HV1' := Lib.hid (HV1.out.kept hI.below)
  have HB6 : Hid (Below W.heap.size W w6) := HB5.out.trans (hI.below.mono HB5.out.size)
  clear hI hv HV1 HMC5 HI1 HB5
  repeat (refine Drift.walk_step (fun K hK => ?_); go_simp; (refine hK _ ?_; clear hK K))
  refine Drift.walk_nil ?_
  intro w7 hb7 _
  have HB7 : Hid (Below W.heap.size W w7) := HB6.out.trans (hb7.mono HB6.out.size)
  have HV3 := Lib.hid (HV1'.out.kept hb7)
  have HV4 := Lib.hid (HV2.out.kept hb7)
  clear hTd hb7 HV1' HV2 HB6 r1 r2
  simp only [List.length_cons, List.length_nil, List.drop_succ_cons, List.drop_nil, Nat.zero_add, Nat.reduceAdd]
  go_wp2_with fail
  exact bodyPost_ret (v := .tuple #[.slice A1 p c1, .slice A2 (n - p) c2]) (by simp [results, Try.results21, go_sem]) rfl ⟨⟨A1, c1, A2, c2, by rw [HL1.out, HL2.out], VK.mc HV3.out, VK.mc HV4.out, fun x hx => .inl (HV4.out.at_ x hx).1⟩, HB7.out⟩
set_option maxRecDepth 100000 in
set_option maxHeartbeats 4000000 in
theorem Part_any {W : World} {A : Option Addr} {c : Nat} {L : List Mg} (h : MC W A c L) (lo hi : ByteArray) (top : Bool) (_ : lo.size ≤ 1000) (_ : hi.size ≤ 1000) (_ : ∀ m, m ∈ L → m.1.size ≤ 1000) (hr : Ri L) (hl : L.length ≤ 1000) : Calls Try.prog 22 #[.slice A L.length c, spanV lo hi top] W fun e w' => (∃ A1 c1, e = .returned (.slice A1 (takeD (fun m => inB lo hi top m.1) (L.length : Int) L).1.length c1) ∧ ML w' A1 (takeD (fun m => inB lo hi top m.1) (L.length : Int) L).1) ∧ Below W.heap.size W w' := by
  have cS := fun (W' : World) (hb : Below W.heap.size W W') => Lib.hid (places_any (c := c) (h.1.kept hb) lo hi top hr (by omega))
  have HH := Lib.hid h
  have hc := h.2
  have HT : Hid (∀ p q, Cut (fun m => inB lo hi top m.1) L p q → (takeD (fun m => inB lo hi top m.1) (L.length : Int) L).1 = (L.take q).drop p) := fun p q hp => hp.part
  clear h
  generalize hn : L.length = n at *
  generalize (takeD (fun m => inB lo hi top m.1) (n : Int) L).1 = TT at *
  have HN := Lib.hid hn
  clear hn
  go_enter Try.func22, Try.ntmps22
  go_upto_region 1 with fail
  have hx := heap_alloc_new W (.cells #[.string lo, .string hi, .bool top] 35)
  have hb0 : Below W.heap.size W (W.alloc (.cells #[.string lo, .string hi, .bool top] 35)) := (Below.refl _ _).alloc (Nat.le_refl _) _
  generalize W.alloc (.cells #[.string lo, .string hi, .bool top] 35) = w1 at *
  obtain ⟨g, hg⟩ : ∃ g, g = W.heap.size := ⟨_, rfl⟩
  rw [← hg] at hx ⊢
  have HB := Lib.hid hb0
  obtain ⟨d0, d1, d2⟩ := box3 hx
  clear hx hb0 hg
  go_upto_region 2 with (go_at_call 29; refine (cS _ HB.out).out.mono ?_; rintro e w2 ⟨⟨p, q, rfl, h1⟩, hb⟩)
  clear d0 d1 d2 cS
  obtain rfl := HT.out p q h1
  have hpq : p ≤ q := h1.pq
  have hqn : q ≤ n := by rw [← HN.out]; exact h1.le
  replace HB := Lib.hid (HB.out.trans (hb.mono HB.out.size))
  have HMC := Lib.hid (HH.out.kept HB.out)
  have HL1 : Hid (((L.take q).drop p).length = q - p) := by unfold Hid; rw [List.length_drop, List.length_take, HN.out]; omega
  have r1 := fun w => run_midM A n c p q hpq (by omega) w
  clear h1 hb HT
  have cC := Lib.hid (clone1 (c := c - p) (X := (L.take q).drop p) ((HMC.out.upTo q).cut p).1 HL1.out (by omega))
  go_wp2_with (go_at_call 30; refine cC.out.mono ?_; rintro e w3 ⟨⟨v, rfl, A', c', rfl, hv⟩, hb⟩)
  go_ret
  exact ⟨⟨A', c', by rw [HL1.out]; rfl, hv.rd⟩, HB.out.trans (hb.mono HB.out.size)⟩
set_option maxRecDepth 100000 in
set_option maxHeartbeats 4000000 in
theorem Take_any {W : World} {A : Option Addr} {c : Nat} {L : List Mg} (h : MC W A c L) (lo hi : ByteArray) (top : Bool) (most : Int) (_ : lo.size ≤ 1000) (_ : hi.size ≤ 1000) (_ : ∀ m, m ∈ L → m.1.size ≤ 1000) (hr : Ri L) (hl : L.length ≤ 1000) : Calls Try.prog 19 #[.slice A L.length c, spanV lo hi top, .int .i64 most] W fun e w' => (∃ A1 c1 A2 c2, e = .returned (.tuple #[.slice A1 (takeD (fun m => inB lo hi top m.1) most L).1.length c1, .slice A2 (takeD (fun m => inB lo hi top m.1) most L).2.length c2]) ∧ MC w' A1 c1 (takeD (fun m => inB lo hi top m.1) most L).1 ∧ MC w' A2 c2 (takeD (fun m => inB lo hi top m.1) most L).2 ∧ (0 < (takeD (fun m => inB lo hi top m.1) most L).1.length → M3 w' W.heap.size A1 c1 (takeD (fun m => inB lo hi top m.1) most L).1) ∧ Off A1 A2 (takeD (fun m => inB lo hi top m.1) most L).1) ∧ Below W.heap.size W w' := by
  have cS := fun (W' : World) (hb : Below W.heap.size W W') => Lib.hid (places_any (c := c) (h.1.kept hb) lo hi top hr (by omega))
  have HH := Lib.hid h
  have hc := h.2
  have HT : Hid (∀ p q j, Cut (fun m => inB lo hi top m.1) L p q → j = min (q - p) most.toNat → takeD (fun m => inB lo hi top m.1) most L = ((L.take (p + j)).drop p, L.take p ++ L.drop (p + j))) := fun p q j hp hj => hp.take most hj
  clear h
  generalize hn : L.length = n at *
  generalize takeD (fun m => inB lo hi top m.1) most L = TT at *
  obtain ⟨T1, T2⟩ := TT
  have HN := Lib.hid hn
  clear hn
  simp only
  go_enter Try.func19, Try.ntmps19
  go_upto_region 1 with fail
  have hx := heap_alloc_new W (.cells #[.string lo, .string hi, .bool top] 35)
  have hb0 : Below W.heap.size W (W.alloc (.cells #[.string lo, .string hi, .bool top] 35)) := (Below.refl _ _).alloc (Nat.le_refl _) _
  generalize W.alloc (.cells #[.string lo, .string hi, .bool top] 35) = w1 at *
  obtain ⟨g, hg⟩ : ∃ g, g = W.heap.size := ⟨_, rfl⟩
  rw [← hg] at hx ⊢
  have HB := Lib.hid hb0
  obtain ⟨d0, d1, d2⟩ := box3 hx
  clear hx hb0 hg
  go_upto_region 2 with (go_at_call 29; refine (cS _ HB.out).out.mono ?_; rintro e w2 ⟨⟨p, q, rfl, h1⟩, hb⟩)
  clear d0 d1 d2 cS
  obtain ⟨j, hj⟩ : ∃ j, j = min (q - p) most.toNat := ⟨_, rfl⟩
  obtain ⟨e, he⟩ : ∃ e, e = p + j := ⟨_, rfl⟩
  have e12 := HT.out p q j h1 hj
  rw [← he] at e12
  obtain ⟨rfl, rfl⟩ : T1 = (L.take e).drop p ∧ T2 = L.take p ++ L.drop e := by simpa using e12
  have hpq : p ≤ q := h1.pq
  have hqn : q ≤ n := by rw [← HN.out]; exact h1.le
  replace HB := Lib.hid (HB.out.trans (hb.mono HB.out.size))
  have HMC := Lib.hid (HH.out.kept HB.out)
  have hjq : e ≤ q := by omega
  have hpe : p ≤ e := by omega
  obtain ⟨N2, hN2⟩ : ∃ N2, N2 = p + (n - e) := ⟨_, rfl⟩
  have HL1 : Hid (((L.take e).drop p).length = e - p) := by unfold Hid; rw [List.length_drop, List.length_take, HN.out]; omega
  have HL2 : Hid ((L.take p ++ L.drop e).length = N2) := by unfold Hid; rw [List.length_append, List.length_take, List.length_drop, HN.out]; omega
  clear h1 hb HT e12 hN2
  go_upto_region 2 with fail
  go_cut [9] (fun v wx => v = .int .i64 (e : Int) ∧ wx = w2)
  case first =>
    have hw1 : IntKind.i64.wrap ((q : Int) - (p : Int)) = ((q - p : Nat) : Int) := by rw [IntKind.wrap_i64]; omega
    rcases Int.lt_trichotomy most 0 with hm | hm | hm
    · obtain rfl : j = 0 := by omega
      clear hj HL1 HL2
      go_wp2_with fail
      all_goals (go_meet; exact ⟨congrArg (Value.int .i64) (by omega), rfl⟩)
    · subst hm
      obtain rfl : j = 0 := by omega
      clear hj HL1 HL2
      go_wp2_with fail
      all_goals (go_meet; exact ⟨congrArg (Value.int .i64) (by omega), rfl⟩)
    · obtain ⟨k, hk⟩ : ∃ k : Nat, most = (k : Int) := ⟨most.toNat, by omega⟩
      subst hk
      rcases Nat.lt_trichotomy (q - p) k with hk | hk | hk
      · obtain rfl : j = q - p := by omega
        clear hj HL1 HL2
        go_wp2_with fail
        all_goals (go_meet; exact ⟨congrArg (Value.int .i64) (by omega), rfl⟩)
      · subst hk
        obtain rfl : j = q - p := by omega
        clear hj HL1 HL2
        go_wp2_with fail
        all_goals (go_meet; exact ⟨congrArg (Value.int .i64) (by omega), rfl⟩)
      · obtain rfl : j = k := by omega
        clear hj HL1 HL2
        go_wp2_with fail
        all_goals (go_meet; exact ⟨congrArg (Value.int .i64) (by omega), rfl⟩)
  case rest =>
  clear hj he
  obtain ⟨rfl, rfl⟩ := hcut
  have r1 := fun w => run_midM A n c p e (by omega) (by omega) w
  have r2 := fun w => run_upToM A n c p (by omega) w
  have r3 := fun w => run_cutM A n c e (by omega) w
  go_upto_region 3 with fail
  refine Drift.wp_region_drift [] [(0,[]),(1,[]),(2,[]),(3,[]),(5,[]),(6,[]),(7,[]),(8,[]),(9,[]),(10,[]),(4,[11]),(11,[]),(12,[]),(13,[]),(14,[])] [4, 12] [11] (by kernel_rfl) (by kernel_rfl) (by simp) ?_
  simp only [Drift.pick, Drift.opsAt, List.getElem?_toArray, List.getElem?_cons_zero, List.getElem?_cons_succ, List.cons_append, List.nil_append, List.filterMap_cons, List.filterMap_nil]
  repeat (refine Drift.walk_step (fun K hK => ?_); go_simp; (refine hK _ ?_; clear hK K))
  refine Drift.walk_event rfl (Drift.mkwalk_one rfl (fun b => .slice (some ⟨b, 0, none⟩) 2 2) (.cells #[.slice A p c, .slice (cutM A c e) (n - e) (c - e)] 22) (fun W => by go_simp) fun b hb => Drift.mkwalk_nil) (EvRow wc.heap.size (e - p) ((L.take e).drop p)) (fun W2 hk _ => ?_) (fun v w5 hv hI _ hTd => ?_)
  · go_simp
    go_at_call 30
    refine (clone1 (X := (L.take e).drop p) (((HMC.out.kept hk).upTo e).cut p).1 HL1.out (by omega)).mono ?_
    rintro e w' ⟨⟨v, rfl, A', c', rfl, hv⟩, hb⟩
    exact ⟨_, rfl, ⟨A', c', rfl, hv.mono hk.size⟩, Flow.Into.of_below hb⟩
  obtain ⟨A1, c1, rfl, hv⟩ := hv
  have HV1 := Lib.hid hv
  have HMC5 := Lib.hid (HMC.out.kept hI.below)
  have HB5 : Hid (Below W.heap.size W w5) := HB.out.trans (hI.below.mono HB.out.size)
  clear hI hv HMC
  refine Drift.walk_make rfl Drift.mkwalk_nil (fun b => .slice (some ⟨b, 0, none⟩) 2 2) (.cells #[.slice A p c, .slice (cutM A c e) (n - e) (c - e)] 22) (fun W => by go_simp) (fun b2 hb2 hT2 => ?_)
  refine Drift.walk_event rfl Drift.mkwalk_nil (EvRow w5.heap.size N2 (L.take p ++ L.drop e)) (fun W2 hk hl2 => ?_) (fun v w6 hv hI _ hTd2 => ?_)
  · go_simp
    go_at_call 28
    have hM := HMC5.out.kept hk
    refine (concat2 (L1 := L.take p) (L2 := L.drop e) (hl2 (b2, .cells #[.slice A p c, .slice (cutM A c e) (n - e) (c - e)] 22) (by simp)) (by rw [List.length_take, HN.out]; omega) (by rw [List.length_drop, HN.out]) (hM.upTo p).1 (hM.cut e).1 rfl HL2.out (by rw [← HL2.out, List.length_append, List.length_take, List.length_drop, HN.out]; omega)).mono ?_
    rintro e w' ⟨⟨v, rfl, A', c', rfl, hv⟩, hb⟩
    exact ⟨_, rfl, ⟨A', c', rfl, hv.mono hk.size⟩, Flow.Into.of_below hb⟩
  obtain ⟨A2, c2, rfl, hv⟩ := hv
  have HV2 := Lib.hid hv
  have HV1' := Lib.hid (HV1.out.kept hI.below)
  have HB6 : Hid (Below W.heap.size W w6) := HB5.out.trans (hI.below.mono HB5.out.size)
  have HO : Hid (Off A1 A2 ((L.take e).drop p)) := fun _ x y hx hy => by
    have h1 := (HV1.out.at_ x hx).2
    have h2 := (HV2.out.at_ y hy).1
    omega
  have hs5 := HB.out.size
  clear hI hv HV1 HMC5 HB5
  repeat (refine Drift.walk_step (fun K hK => ?_); go_simp; (refine hK _ ?_; clear hK K))
  refine Drift.walk_nil ?_
  intro w7 hb7 _
  have HB7 : Hid (Below W.heap.size W w7) := HB6.out.trans (hb7.mono HB6.out.size)
  have HV3 := Lib.hid (HV1'.out.kept hb7)
  have HV4 := Lib.hid (HV2.out.kept hb7)
  clear hTd hTd2 hT2 hb7 HV1' HV2 HB6 r1 r2 r3
  simp only [List.length_cons, List.length_nil, List.drop_succ_cons, List.drop_nil, Nat.zero_add, Nat.reduceAdd]
  go_wp2_with fail
  exact bodyPost_ret (v := .tuple #[.slice A1 (e - p) c1, .slice A2 N2 c2]) (by simp [results, Try.results19, go_sem]) rfl ⟨⟨A1, c1, A2, c2, by rw [HL1.out, HL2.out], VK.mc HV3.out, VK.mc HV4.out, fun _ => HV3.out.mono hs5, HO.out⟩, HB7.out⟩
end Bu
end Go.Proofs.Ytmgmkfophdjidaa
