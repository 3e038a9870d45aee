/-
  The document's buf: Put, Merge. Written by scripts/msgr2.py.
-/
import Derived.Test.YtmgmkfophdjidaaMsgR
namespace Go.Proofs.Ytmgmkfophdjidaa
open Go.RowKit
namespace Bu
open Mem Lx

/-- a step of Put: whether the message is in, and what there is -/
def stepP (m : Mg) (s : Bool × List Mg) (x : Mg) : Bool × List Mg :=
  (s.1 || decide (cmpB m.1 x.1 ≤ 0), s.2 ++ (if (!s.1 && decide (cmpB m.1 x.1 ≤ 0)) = true then [m] else []) ++ (if x.1 = m.1 then [] else [x]))
def runP (m : Mg) (L : List Mg) : Bool × List Mg := L.foldl (stepP m) (false, [])
def putD (L : List Mg) (m : Mg) : List Mg := (runP m L).2 ++ (if (runP m L).1 = true then [] else [m])
theorem runP_next (m : Mg) {L : List Mg} {k : Nat} {x : Mg} (hx : L[k]? = some x) : runP m (L.take (k + 1)) = stepP m (runP m (L.take k)) x := by
  have hk := (List.getElem?_eq_some_iff.1 hx).1
  have e : L[k] = x := (List.getElem?_eq_some_iff.1 hx).2
  unfold runP
  rw [List.take_succ_eq_append_getElem hk, List.foldl_append, e]
  rfl
theorem stepP_len (m : Mg) (s : Bool × List Mg) (x : Mg) : (stepP m s x).2.length ≤ s.2.length + 2 := by
  unfold stepP
  simp only [List.length_append]
  split <;> split <;> simp
theorem runP_len (m : Mg) (L : List Mg) : ∀ k, k ≤ L.length → (runP m (L.take k)).2.length ≤ 2 * k
  | 0, _ => by simp [runP]
  | k + 1, hk => by
    have h1 := runP_len m L k (by omega)
    rw [runP_next m (nat_len (show k < L.length by omega))]
    have := stepP_len m (runP m (L.take k)) L[k]
    omega
theorem putD_len (L : List Mg) (m : Mg) : (putD L m).length ≤ 2 * L.length + 1 := by
  have h1 := runP_len m L L.length (Nat.le_refl _)
  rw [List.take_length] at h1
  unfold putD
  rw [List.length_append]
  split <;> simp <;> omega
set_option maxRecDepth 100000 in
set_option maxHeartbeats 4000000 in
theorem RPut_any {W : World} {A : Option Addr} {c : Nat} {L : List Mg} (h : ML W A L) (m : Mg) (hm : m.1.size ≤ maxLen) (hl : L.length ≤ 400000) : Calls Try.prog 17 #[.slice A L.length c, mgV m] W fun e w' => (∃ A' c', e = .returned (.slice A' (putD L m).length c') ∧ M3 w' W.heap.size A' c' (putD L m)) ∧ Below W.heap.size W w' := by
  have cC := fun (x : Mg) w => Lib.hid (RCmp m.1 x.1 hm w)
  obtain ⟨n, hn⟩ : ∃ n, n = L.length := ⟨_, rfl⟩
  have HN := Lib.hid hn
  have HH := Lib.hid h
  rw [← hn] at hl ⊢
  unfold mgV
  clear h hn hm
  go_enter Try.func17, Try.ntmps17
  go_upto_region 1 with fail
  have hx := heap_alloc_new W (.cells #[.string m.1, .bool m.2.1, .string m.2.2] 28)
  have hb0 : Below W.heap.size W (W.alloc (.cells #[.string m.1, .bool m.2.1, .string m.2.2] 28)) := (Below.refl _ _).alloc (Nat.le_refl _) _
  generalize W.alloc (.cells #[.string m.1, .bool m.2.1, .string m.2.2] 28) = w1 at *
  obtain ⟨g, hg⟩ : ∃ g, g = W.heap.size := ⟨_, rfl⟩
  rw [← hg] at hx ⊢
  have HB1 := Lib.hid hb0
  have HX := Lib.hid hx
  have HH1 := Lib.hid (HH.out.kept hb0)
  clear hx hb0 hg HH
  go_upto_region 2 with fail
  have HV0 : Hid (M3 (w1.alloc (.cells #[] 28)) w1.heap.size (some ⟨w1.heap.size, 0, none⟩) 0 []) := VK.lit (K := MgK) w1 w1.heap.size (Nat.le_refl _)
  have HB0 : Hid (Below w1.heap.size w1 (w1.alloc (.cells #[] 28))) := (Below.refl _ _).alloc (Nat.le_refl _) _
  generalize w1.alloc (.cells #[] 28) = w2 at *
  go_wp2_with fail
  go_loopg [5, 6, 7] n (fun gk bv dv iv wr => ∃ (k j c' : Nat) (A' : Option Addr) (d : Bool) (O : List Mg), k ≤ n ∧ gk = n - k ∧ iv = .int .i64 (k : Int) ∧ bv = .slice A' j c' ∧ dv = .bool d ∧ j ≤ 2 * k ∧ Hid (runP m (L.take k) = (d, O)) ∧ Hid (O.length = j) ∧ Hid (M3 wr w1.heap.size A' c' O) ∧ Hid (Below w1.heap.size w1 wr))
  case atStart => exact ⟨0, 0, 0, _, false, [], Nat.zero_le _, rfl, rfl, rfl, rfl, Nat.zero_le _, rfl, rfl, HV0, HB0⟩
  case round =>
    obtain ⟨k, j, c', A', d, O, hk, rfl, rfl, rfl, rfl, hj, HR, HM, HV, HB⟩ := hrel
    clear HV0 HB0
    obtain ⟨d0, d1, d2⟩ := box3 (kept3 HX.out HB.out)
    by_cases hlt : k < n
    · have hkL : k < L.length := by rw [← HN.out]; exact hlt
      obtain ⟨x, hxx⟩ : ∃ x, x = L[k] := ⟨_, rfl⟩
      have hx' := nat_len hkL
      rw [← hxx] at hx'
      have HS := Lib.hid (runP_next m hx')
      obtain ⟨b, o, e, -, c0, c1, c2⟩ := RdK.msg (HH1.out.kept HB.out) hx'
      subst e
      have HXX := Lib.hid hx'
      have hw2 : IntKind.i64.wrap ((k : Int) + 1) = ((k + 1 : Nat) : Int) := by rw [IntKind.wrap_i64]; omega
      have hm65 : j + 1 ≤ 1048576 := by omega
      clear hxx hx' hkL c1 c2 d1 d2
      have cX := cC x
      obtain ⟨tb, htb⟩ : ∃ tb, tb = (!d && decide (cmpB m.1 x.1 ≤ 0)) := ⟨_, rfl⟩
      have HTB := Lib.hid htb
      clear htb
      go_upto_region 6 with fail
      go_cut [27] (fun tv wx => tv = .bool tb ∧ Hid (Below w1.heap.size w1 wx) ∧ Hid (M3 wx w1.heap.size A' c' O))
      case first =>
        have ht := HTB.out
        clear HTB
        cases d with
        | true =>
          obtain rfl : tb = false := by rw [ht]; rfl
          clear ht
          have z0 := fun q : Drift.Tide [] wr [] => Drift.Tide.cell c0 (by simp) q
          have x0 := fun q : Drift.Tide [] wr [] => Drift.Tide.cell d0 (by simp) q
          refine Drift.wp_region_drift [] [(0,[]),(1,[]),(2,[]),(3,[]),(4,[]),(5,[]),(6,[]),(7,[]),(8,[]),(9,[]),(10,[]),(11,[]),(12,[])] [] [] (by kernel_rfl) (by kernel_rfl) (by simp) ?_
          simp only [Drift.pick, Drift.opsAt, List.getElem?_toArray, List.getElem?_cons_zero, List.getElem?_cons_succ, List.cons_append, List.nil_append, List.filterMap_nil]
          repeat (refine Drift.walk_step (fun K hK => ?_); go_simp; first | (refine hK _ ?_; clear hK K) | (apply Exists.intro; refine ⟨fun q => ?_, hK _ ?_⟩; (go_at_call 25; exact (cX _).out); clear hK K))
          refine Drift.walk_nil ?_
          intro w3 hb _
          clear z0 x0
          simp only [List.length_cons, List.length_nil, List.drop_succ_cons, List.drop_nil, Nat.zero_add, Nat.reduceAdd]
          have HB3 := Lib.hid (HB.out.trans (hb.mono HB.out.size))
          have HV3 := Lib.hid (HV.out.kept hb)
          go_wp2_with fail
          go_meet
          exact ⟨rfl, HB3, HV3⟩
        | false =>
          have hz : cmpB m.1 x.1 ≤ 0 ∨ 0 < cmpB m.1 x.1 := by omega
          rw [Bool.not_false, Bool.true_and] at ht
          generalize cmpB m.1 x.1 = z at *
          rcases hz with hz | hz
          · obtain rfl : tb = true := by rw [ht]; simpa using hz
            clear ht
            have z0 := fun q : Drift.Tide [] wr [] => Drift.Tide.cell c0 (by simp) q
            have x0 := fun q : Drift.Tide [] wr [] => Drift.Tide.cell d0 (by simp) q
            refine Drift.wp_region_drift [] [(0,[]),(1,[]),(2,[]),(3,[]),(4,[]),(5,[]),(6,[]),(7,[]),(8,[]),(9,[]),(10,[]),(11,[]),(12,[])] [] [] (by kernel_rfl) (by kernel_rfl) (by simp) ?_
            simp only [Drift.pick, Drift.opsAt, List.getElem?_toArray, List.getElem?_cons_zero, List.getElem?_cons_succ, List.cons_append, List.nil_append, List.filterMap_nil]
            repeat (refine Drift.walk_step (fun K hK => ?_); go_simp; first | (refine hK _ ?_; clear hK K) | (apply Exists.intro; refine ⟨fun q => ?_, hK _ ?_⟩; (go_at_call 25; exact (cX _).out); clear hK K))
            refine Drift.walk_nil ?_
            intro w3 hb _
            clear z0 x0
            simp only [List.length_cons, List.length_nil, List.drop_succ_cons, List.drop_nil, Nat.zero_add, Nat.reduceAdd]
            have HB3 := Lib.hid (HB.out.trans (hb.mono HB.out.size))
            have HV3 := Lib.hid (HV.out.kept hb)
            go_wp2_with fail
            go_meet
            exact ⟨rfl, HB3, HV3⟩
          · obtain rfl : tb = false := by rw [ht]; simpa using hz
            have hd : decide (z ≤ 0) = false := by simpa using hz
            clear ht hz
            have z0 := fun q : Drift.Tide [] wr [] => Drift.Tide.cell c0 (by simp) q
            have x0 := fun q : Drift.Tide [] wr [] => Drift.Tide.cell d0 (by simp) q
            refine Drift.wp_region_drift [] [(0,[]),(1,[]),(2,[]),(3,[]),(4,[]),(5,[]),(6,[]),(7,[]),(8,[]),(9,[]),(10,[]),(11,[]),(12,[])] [] [] (by kernel_rfl) (by kernel_rfl) (by simp) ?_
            simp only [Drift.pick, Drift.opsAt, List.getElem?_toArray, List.getElem?_cons_zero, List.getElem?_cons_succ, List.cons_append, List.nil_append, List.filterMap_nil]
            repeat (refine Drift.walk_step (fun K hK => ?_); go_simp; first | (refine hK _ ?_; clear hK K) | (apply Exists.intro; refine ⟨fun q => ?_, hK _ ?_⟩; (go_at_call 25; exact (cX _).out); clear hK K))
            refine Drift.walk_nil ?_
            intro w3 hb _
            clear z0 x0
            simp only [List.length_cons, List.length_nil, List.drop_succ_cons, List.drop_nil, Nat.zero_add, Nat.reduceAdd]
            have HB3 := Lib.hid (HB.out.trans (hb.mono HB.out.size))
            have HV3 := Lib.hid (HV.out.kept hb)
            go_wp2_with fail
            go_meet
            exact ⟨rfl, HB3, HV3⟩
      case rest =>
      obtain ⟨rfl, HB, HV⟩ := hcut
      clear c0 d0 cX
      obtain ⟨A1, hA1⟩ : ∃ A1, A1 = A' := ⟨_, rfl⟩
      go_upto_if 27 with fail
      go_cut [5, 6] (fun bv dv wx => ∃ (A1 : Option Addr) (j1 c1 : Nat), bv = .slice A1 j1 c1 ∧ dv = .bool (d || tb) ∧ j1 ≤ j + 1 ∧ Hid ((O ++ (if tb = true then [m] else [])).length = j1) ∧ Hid (M3 wx w1.heap.size A1 c1 (O ++ (if tb = true then [m] else []))) ∧ Hid (Below w1.heap.size w1 wx))
      case first =>
        clear HTB
        cases tb with
        | true =>
          obtain ⟨d0, d1, d2⟩ := box3 (kept3 HX.out HB.out)
          have hX : Below wc.heap.size wc (wc.alloc (.cells #[.string m.1, .bool m.2.1, .string m.2.2] 28)) := (Below.refl _ _).alloc (Nat.le_refl _) _
          have hcl : Hid ((wc.alloc (.cells #[.string m.1, .bool m.2.1, .string m.2.2] 28)).heap[wc.heap.size]? = some (.cells (MgK.cs m).toArray MgK.T (0, 0))) := heap_alloc_new wc _
          have HVX : Hid (M3 (wc.alloc (.cells #[.string m.1, .bool m.2.1, .string m.2.2] 28)) w1.heap.size A' c' O) := HV.out.kept hX
          have hBx : w1.heap.size ≤ (wc.alloc (.cells #[.string m.1, .bool m.2.1, .string m.2.2] 28)).heap.size := Nat.le_trans HB.out.size hX.size
          have HX2 := Lib.hid (hX.mono HB.out.size)
          clear hX
          go_wp2_with (with_reducible refine wpList_appendK (K := MgK) Try.underlying22 mginfo rfl (by decide) (by decide) rfl (.tmp 28) (.tmp 30) rfl w1.heap.size A' j c' O rfl HM.out HVX.out wc.heap.size 1 m rfl hcl.out hm65 hBx ?_; intro A2 c2 w4 hd)
          go_meet
          exact ⟨A2, j + 1, c2, rfl, by simp, Nat.le_refl _, by unfold Hid; rw [if_pos trivial, List.length_append, HM.out]; rfl, by rw [if_pos trivial]; exact hd.out.vo, (HB.out.trans HX2.out).trans hd.out.below⟩
        | false =>
          go_wp2_with fail
          go_meet
          exact ⟨A', j, c', rfl, by simp, by omega, by unfold Hid; simpa using HM.out, by simpa using HV, HB⟩
      case rest =>
      clear HM HV HB hA1
      obtain ⟨A1, j1, c1, rfl, rfl, hj1, HM, HV, HB⟩ := hcut
      obtain ⟨O1, hO1⟩ : ∃ O1, O1 = O ++ (if tb = true then [m] else []) := ⟨_, rfl⟩
      rw [← hO1] at HM HV
      have HO1 := Lib.hid hO1
      obtain ⟨D, hD⟩ : ∃ D, D = (d || tb) := ⟨_, rfl⟩
      rw [← hD]
      have HD := Lib.hid hD
      clear hO1 hD
      obtain ⟨d0, d1, d2⟩ := box3 (kept3 HX.out HB.out)
      obtain ⟨b', o', e', -, c0, -, -⟩ := RdK.msg (HH1.out.kept HB.out) HXX.out
      obtain ⟨rfl, rfl⟩ : b = b' ∧ o = o' := by simpa using e'
      obtain ⟨ne, hne⟩ : ∃ ne, ne = !decide (x.1 = m.1) := ⟨_, rfl⟩
      have HNE := Lib.hid hne
      have hm65 : j1 + 1 ≤ 1048576 := by omega
      clear hne e' d1 d2
      go_upto_region 9 with fail
      go_cut [39] (fun tv wx => tv = .bool ne ∧ Hid (Below w1.heap.size w1 wx) ∧ Hid (M3 wx w1.heap.size A1 c1 O1))
      case first =>
        have ht := HNE.out
        have hq : (x.1.toList == m.1.toList) = !ne := by rw [ba_toList, ht, Bool.not_not]
        clear HNE ht
        have z0 := fun q : Drift.Tide [] wc [] => Drift.Tide.cell c0 (by simp) q
        have x0 := fun q : Drift.Tide [] wc [] => Drift.Tide.cell d0 (by simp) q
        refine Drift.wp_region_drift [] [(0,[]),(1,[]),(2,[]),(3,[]),(4,[]),(5,[]),(6,[]),(7,[])] [] [] (by kernel_rfl) (by kernel_rfl) (by simp) ?_
        simp only [Drift.pick, Drift.opsAt, List.getElem?_toArray, List.getElem?_cons_zero, List.getElem?_cons_succ, List.cons_append, List.nil_append, List.filterMap_nil]
        repeat (refine Drift.walk_step (fun K hK => ?_); go_simp; first | (refine hK _ ?_; clear hK K))
        refine Drift.walk_nil ?_
        intro w3 hb _
        clear z0 x0
        simp only [List.length_cons, List.length_nil, List.drop_succ_cons, List.drop_nil, Nat.zero_add, Nat.reduceAdd]
        have HB3 := Lib.hid (HB.out.trans (hb.mono HB.out.size))
        have HV3 := Lib.hid (HV.out.kept hb)
        clear hb
        go_wp2_with fail
        go_meet
        exact ⟨by simp, HB3, HV3⟩
      case rest =>
      clear HB HV
      obtain ⟨rfl, HB, HV⟩ := hcut
      clear c0 d0
      have HR2 : Hid (runP m (L.take (k + 1)) = (D, O1 ++ (if ne = true then [x] else []))) := by
        unfold Hid
        rw [HS.out, HR.out, HO1.out, HD.out, HNE.out, HTB.out]
        unfold stepP
        cases d <;> by_cases hxm : x.1 = m.1 <;> simp [hxm]
      clear HNE HTB HD HO1 HS HR
      cases ne with
      | true =>
        rw [if_pos rfl] at HR2
        obtain ⟨b', o', e', -, c0, c1', c2'⟩ := RdK.msg (HH1.out.kept HB.out) HXX.out
        obtain ⟨rfl, rfl⟩ : b = b' ∧ o = o' := by simpa using e'
        clear e'
        have hX : Below wc.heap.size wc (wc.alloc (.cells #[.string x.1, .bool x.2.1, .string x.2.2] 28)) := (Below.refl _ _).alloc (Nat.le_refl _) _
        have hcl : Hid ((wc.alloc (.cells #[.string x.1, .bool x.2.1, .string x.2.2] 28)).heap[wc.heap.size]? = some (.cells (MgK.cs x).toArray MgK.T (0, 0))) := heap_alloc_new wc _
        have HVX : Hid (M3 (wc.alloc (.cells #[.string x.1, .bool x.2.1, .string x.2.2] 28)) w1.heap.size A1 c1 O1) := HV.out.kept hX
        have hBx : w1.heap.size ≤ (wc.alloc (.cells #[.string x.1, .bool x.2.1, .string x.2.2] 28)).heap.size := Nat.le_trans HB.out.size hX.size
        have HX2 := Lib.hid (hX.mono HB.out.size)
        clear hX
        go_wp2_with (with_reducible refine wpList_appendK (K := MgK) Try.underlying22 mginfo rfl (by decide) (by decide) rfl (.tmp 40) (.tmp 45) rfl w1.heap.size A1 j1 c1 O1 rfl HM.out HVX.out wc.heap.size 1 x rfl hcl.out hm65 hBx ?_; intro A2 c2 w4 hd)
        go_roundg (n - (k + 1))
        case measure => omega
        case rel => exact ⟨k + 1, j1 + 1, c2, A2, D, O1 ++ [x], hlt, rfl, by go_num, rfl, rfl, by omega, HR2, by unfold Hid; rw [List.length_append, HM.out]; rfl, hd.out.vo, (HB.out.trans HX2.out).trans hd.out.below⟩
      | false =>
        rw [if_neg (by simp), List.append_nil] at HR2
        go_wp2_with fail
        go_roundg (n - (k + 1))
        case measure => omega
        case rel => exact ⟨k + 1, j1, c1, A1, D, O1, hlt, rfl, by go_num, rfl, rfl, by omega, HR2, HM, HV, HB⟩
    · obtain rfl : k = n := by omega
      rw [List.take_of_length_le (by rw [← HN.out]; exact Nat.le_refl _)] at HR
      have HBW := Lib.hid (HB1.out.trans (HB.out.mono HB1.out.size))
      have hm65 : j + 1 ≤ 1048576 := by omega
      clear hlt
      cases d with
      | true =>
        have HP : Hid (putD L m = O) := by unfold Hid putD; rw [HR.out]; simp
        clear HR
        go_wp2_with fail
        go_ret
        exact ⟨⟨A', c', by rw [HP.out, HM.out]; rfl, by rw [HP.out]; exact HV.out.mono HB1.out.size⟩, HBW.out⟩
      | false =>
        have HP : Hid (putD L m = O ++ [m]) := by unfold Hid putD; rw [HR.out]; simp
        clear HR
        have hX : Below wr.heap.size wr (wr.alloc (.cells #[.string m.1, .bool m.2.1, .string m.2.2] 28)) := (Below.refl _ _).alloc (Nat.le_refl _) _
        have hcl : Hid ((wr.alloc (.cells #[.string m.1, .bool m.2.1, .string m.2.2] 28)).heap[wr.heap.size]? = some (.cells (MgK.cs m).toArray MgK.T (0, 0))) := heap_alloc_new wr _
        have HVX : Hid (M3 (wr.alloc (.cells #[.string m.1, .bool m.2.1, .string m.2.2] 28)) w1.heap.size A' c' O) := HV.out.kept hX
        have hBx : w1.heap.size ≤ (wr.alloc (.cells #[.string m.1, .bool m.2.1, .string m.2.2] 28)).heap.size := Nat.le_trans HB.out.size hX.size
        have HX2 := Lib.hid (hX.mono HB.out.size)
        clear hX
        go_wp2_with (with_reducible refine wpList_appendK (K := MgK) Try.underlying22 mginfo rfl (by decide) (by decide) rfl (.tmp 49) (.tmp 51) rfl w1.heap.size A' j c' O rfl HM.out HVX.out wr.heap.size 1 m rfl hcl.out hm65 hBx ?_; intro A2 c2 w4 hd)
        go_ret
        refine ⟨⟨A2, c2, ?_, ?_⟩, ?_⟩
        · rw [HP.out, List.length_append, HM.out]; rfl
        · rw [HP.out]; exact hd.out.vo.mono HB1.out.size
        · exact HB1.out.trans (((HB.out.trans HX2.out).trans hd.out.below).mono HB1.out.size)
end Bu
end Go.Proofs.Ytmgmkfophdjidaa
