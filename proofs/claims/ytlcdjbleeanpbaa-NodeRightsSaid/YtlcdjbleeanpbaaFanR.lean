/-
  The document's fan: Rise, Right, Way.
-/
import Derived.Test.YtlcdjbleeanpbaaFanP
import Derived.Test.YtlcdjbleeanpbaaBox3
namespace Go.Proofs.Ytlcdjbleeanpbaa
open Go.RowKit
namespace Fa
open Mem Lx Bu
set_option maxRecDepth 100000 in
set_option maxHeartbeats 2000000 in
theorem RRise_any {W : World} {A : Option Addr} {c : Nat} {L : List ByteArray} (h : SL W A L) (hk : ∀ m, m ∈ L → m.size ≤ maxLen) (hl : L.length ≤ 1048576) : Calls Try.prog 43 #[.slice A L.length c] W fun e w' => (∃ v : Bool, e = .returned (.bool v) ∧ (v = true ↔ SRise L)) ∧ Below W.heap.size W w' := by
  obtain ⟨n, hn⟩ : ∃ n, n = L.length := ⟨_, rfl⟩
  have HN := Lib.hid hn
  have HH := Lib.hid h
  have HK := Lib.hid hk
  rw [← hn] at hl ⊢
  clear h hk hn
  go_enter Try.func43, Try.ntmps43
  go_wp2_with fail
  go_loopg [3] (n - 1) (fun gk iv wr => ∃ k : Nat, 1 ≤ k ∧ (k = 1 ∨ k ≤ n) ∧ gk = n - k ∧ iv = .int .i64 (k : Int) ∧ Hid (∀ (i : Nat) (a b : ByteArray), i + 1 < k → L[i]? = some a → L[i + 1]? = some b → cmpB a b < 0) ∧ Hid (Below W.heap.size W wr))
  case atStart => exact ⟨1, Nat.le_refl _, .inl rfl, rfl, rfl, fun i a b hi => by omega, Below.refl _ _⟩
  case round =>
    obtain ⟨k, hk1, hkn, rfl, rfl, HE, HB⟩ := hrel
    by_cases hlt : k < n
    · obtain ⟨j, hjk⟩ : ∃ j, k = j + 1 := ⟨k - 1, by omega⟩
      have hj : j < L.length := by rw [← HN.out]; omega
      have hj1 : k < L.length := by rw [← HN.out]; omega
      obtain ⟨x, hx⟩ : ∃ x, x = L[j] := ⟨_, rfl⟩
      obtain ⟨y, hy⟩ : ∃ y, y = L[k] := ⟨_, rfl⟩
      have hx' := nat_lenS hj
      have hy' := nat_lenS hj1
      rw [← hx] at hx'
      rw [← hy] at hy'
      obtain ⟨b, o, e, -, c0⟩ := RdK.str (HH.out.kept HB.out) hx'
      subst e
      obtain ⟨b2, o2, e, -, c1⟩ := RdK.str (HH.out.kept HB.out) hy'
      obtain ⟨rfl, rfl⟩ : b = b2 ∧ o = o2 := by simpa using e
      clear e
      have cC := fun w => Lib.hid (RCmp x y (HK.out x (List.mem_of_getElem? hx')) w)
      have HX := Lib.hid hx'
      have HY := Lib.hid hy'
      have z0 := fun q : Drift.Tide [] wr [] => Drift.Tide.cell c0 (by simp) q
      have z1 := fun q : Drift.Tide [] wr [] => Drift.Tide.cell c1 (by simp) q
      have hw1 : IntKind.i64.wrap ((k : Int) - 1) = (j : Int) := by rw [IntKind.wrap_i64]; omega
      have hw2 : IntKind.i64.wrap ((k : Int) + 1) = ((k + 1 : Nat) : Int) := by rw [IntKind.wrap_i64]; omega
      have HJ := Lib.hid hjk
      have hjn : j < n := by omega
      clear c0 c1 hx hy hx' hy' hj hj1 hjk
      go_upto_region 4 with fail
      refine Drift.wp_region_drift [] [(0,[]),(1,[]),(2,[]),(3,[]),(4,[]),(5,[]),(6,[]),(7,[]),(8,[]),(9,[]),(10,[])] [] [] (by kernel_rfl) (by kernel_rfl) (by simp) ?_
      simp only [Drift.pick, Drift.opsAt, List.getElem?_toArray, List.getElem?_cons_zero, List.getElem?_cons_succ, List.cons_append, List.nil_append, List.filterMap_nil]
      repeat (refine Drift.walk_step (fun K hK => ?_); go_simp; first | (refine hK _ ?_; clear hK K) | (apply Exists.intro; refine ⟨fun q => ?_, hK _ ?_⟩; (go_at_call 61; exact (cC _).out); clear hK K))
      refine Drift.walk_nil ?_
      intro w2 hb _
      have HB2 := Lib.hid (HB.out.trans (hb.mono HB.out.size))
      clear z0 z1 hw1 hb HB cC
      simp only [List.length_cons, List.length_nil, List.drop_succ_cons, List.drop_nil, Nat.zero_add, Nat.reduceAdd]
      by_cases hcm : cmpB x y < 0
      · have hd : decide (0 ≤ cmpB x y) = false := by simpa using hcm
        have HE2 : Hid (∀ (i : Nat) (a b : ByteArray), i + 1 < k + 1 → L[i]? = some a → L[i + 1]? = some b → cmpB a b < 0) := fun i a b hi ha hb => by
          by_cases e : i = j
          · subst e
            rw [HX.out] at ha
            rw [← HJ.out, HY.out] at hb
            cases ha
            cases hb
            exact hcm
          · exact HE.out i a b (by have := HJ.out; omega) ha hb
        generalize cmpB x y = z at *
        clear hd
        go_wp2_with fail
        go_roundg (n - (k + 1))
        case measure => omega
        case rel => exact ⟨k + 1, by omega, .inr hlt, rfl, by go_num, HE2, HB2⟩
      · have HN2 : Hid (¬ SRise L) := fun hr => hcm (hr j x y HX.out (by rw [← HJ.out]; exact HY.out))
        have hd : 0 ≤ cmpB x y := by omega
        clear hcm
        generalize cmpB x y = z at *
        go_wp2_with fail
        go_ret
        exact ⟨⟨false, rfl, by simpa using HN2.out⟩, HB2.out⟩
    · have HR : Hid (SRise L) := fun i a b ha hb => HE.out i a b (by
        have := (List.getElem?_eq_some_iff.1 hb).1
        rw [← HN.out] at this
        omega) ha hb
      have hge : n ≤ k := by omega
      have hd : decide ((k : Int) < (n : Int)) = false := by simp; omega
      clear hlt
      go_wp2_with fail
      go_ret
      exact ⟨⟨true, rfl, by simpa using HR.out⟩, HB.out⟩
set_option maxRecDepth 100000 in
set_option maxHeartbeats 2000000 in
theorem RWay_any {W : World} {A : Option Addr} {c : Nat} {L : List ByteArray} (h : SL W A L) (key : ByteArray) (hk : ∀ m, m ∈ L → m.size ≤ maxLen) (hl : L.length ≤ 1048576) : Calls Try.prog 48 #[.slice A L.length c, .string key] W fun e w' => e = .returned (.int .i64 (wayS L key : Int)) ∧ Below W.heap.size W w' := by
  have HT : Hid (wayS (L.take L.length) key = wayS L key) := by unfold Hid; rw [List.take_length]
  generalize hn : L.length = n at *
  have HN := Lib.hid hn
  have HH := Lib.hid h
  have HK := Lib.hid hk
  clear h hk hn
  go_enter Try.func48, Try.ntmps48
  go_wp2_with fail
  go_loopg [5, 6] n (fun gk nv iv wr => ∃ k j : Nat, k ≤ n ∧ gk = n - k ∧ iv = .int .i64 (k : Int) ∧ nv = .int .i64 (j : Int) ∧ j ≤ k ∧ Hid (wayS (L.take k) key = j) ∧ Hid (Below W.heap.size W wr))
  case atStart => exact ⟨0, 0, Nat.zero_le _, rfl, rfl, rfl, Nat.le_refl _, rfl, Below.refl _ _⟩
  case round =>
    obtain ⟨k, j, hk, rfl, rfl, rfl, hj, HJ, HB⟩ := hrel
    by_cases hlt : k < n
    · have hkL : k < L.length := by rw [HN.out]; exact hlt
      obtain ⟨x, hxx⟩ : ∃ x, x = L[k] := ⟨_, rfl⟩
      have hx' := nat_lenS hkL
      rw [← hxx] at hx'
      obtain ⟨b, o, e, -, c0⟩ := RdK.str (HH.out.kept HB.out) hx'
      subst e
      have HS := Lib.hid (wayS_next (key := key) hx')
      have cX := fun w => Lib.hid (RCmp x key (HK.out x (List.mem_of_getElem? hx')) w)
      have hw2 : IntKind.i64.wrap ((k : Int) + 1) = ((k + 1 : Nat) : Int) := by rw [IntKind.wrap_i64]; omega
      have hw3 : IntKind.i64.wrap ((j : Int) + 1) = ((j + 1 : Nat) : Int) := by rw [IntKind.wrap_i64]; omega
      clear hxx hx' hkL
      by_cases hz : cmpB x key ≤ 0
      · have HJ2 : Hid (wayS (L.take (k + 1)) key = j + 1) := by
          unfold Hid
          rw [HS.out, HJ.out, if_pos hz]
        clear HS
        generalize cmpB x key = z at *
        go_wp2_with (go_at_call 61; refine (cX _).out.mono ?_; rintro e w' ⟨rfl, hb⟩)
        have HB2 := Lib.hid (HB.out.trans (hb.mono HB.out.size))
        go_roundg (n - (k + 1))
        case measure => omega
        case rel => exact ⟨k + 1, j + 1, hlt, rfl, by go_num, by go_num, by omega, HJ2, HB2⟩
      · have HJ2 : Hid (wayS (L.take (k + 1)) key = j) := by
          unfold Hid
          rw [HS.out, HJ.out, if_neg hz]
          rfl
        have hd : decide (cmpB x key ≤ 0) = false := by simpa using hz
        clear HS
        generalize cmpB x key = z at *
        go_wp2_with (go_at_call 61; refine (cX _).out.mono ?_; rintro e w' ⟨rfl, hb⟩)
        have HB2 := Lib.hid (HB.out.trans (hb.mono HB.out.size))
        go_roundg (n - (k + 1))
        case measure => omega
        case rel => exact ⟨k + 1, j, hlt, rfl, by go_num, rfl, by omega, HJ2, HB2⟩
    · obtain rfl : k = n := by omega
      have HE : Hid (wayS L key = j) := by rw [← HT.out]; exact HJ.out
      clear hlt
      go_wp2_with fail
      go_ret
      exact ⟨by rw [HE.out]; rfl, HB.out⟩
set_option maxRecDepth 100000 in
set_option maxHeartbeats 4000000 in
theorem RRight_any {W : World} {A : Option Addr} {c : Nat} {L : List ByteArray} (h : SL W A L) (lo hi : ByteArray) (top : Bool) (hlo : lo.size ≤ maxLen) (hk : ∀ m, m ∈ L → m.size ≤ maxLen) (hl : L.length ≤ 1048576) : Calls Try.prog 58 #[.slice A L.length c, spanV lo hi top] W fun e w' => (∃ v : Bool, e = .returned (.bool v) ∧ (v = true ↔ RightS L lo hi top)) ∧ Below W.heap.size W w' := by
  have cRi := fun (W1 : World) (hb : Below W.heap.size W W1) => Lib.hid (RRise_any (c := c) (h.kept hb) hk hl)
  have cI := fun (x : ByteArray) (hx : x ∈ L) w => Lib.hid (RIn_any lo hi top x w hlo (hk x hx))
  have HH := Lib.hid h
  generalize hn : L.length = n at *
  have HN := Lib.hid hn
  clear h hk hn hlo
  go_enter Try.func58, Try.ntmps58
  go_upto_region 1 with fail
  have hx := heap_alloc_new W (.cells #[.string lo, .string hi, .bool top] 25)
  have hb0 : Below W.heap.size W (W.alloc (.cells #[.string lo, .string hi, .bool top] 25)) := (Below.refl _ _).alloc (Nat.le_refl _) _
  generalize W.alloc (.cells #[.string lo, .string hi, .bool top] 25) = w1 at *
  obtain ⟨g, hg⟩ : ∃ g, g = W.heap.size := ⟨_, rfl⟩
  have HB1 := Lib.hid hb0
  rw [← hg] at hx ⊢
  have HX := Lib.hid hx
  clear hx hb0
  have HG := Lib.hid hg
  clear hg
  go_wp2_with fail
  go_loopg [5] n (fun gk iv wr => ∃ k : Nat, k ≤ n ∧ gk = n - k ∧ iv = .int .i64 (k : Int) ∧ Hid (∀ (i : Nat) (x : ByteArray), i < k → L[i]? = some x → inB lo hi top x = true ∧ x ≠ lo) ∧ Hid (Below W.heap.size W wr) ∧ Hid (wr.heap[g]? = some (.cells #[.string lo, .string hi, .bool top] 25 (0, 0))))
  case atStart => exact ⟨0, Nat.zero_le _, rfl, rfl, fun i x hi => absurd hi (Nat.not_lt_zero _), by rw [HG.out] at *; exact HB1.out, HX⟩
  case round =>
    obtain ⟨k, hk, rfl, rfl, HE, HB, HXr⟩ := hrel
    clear HX HB1
    by_cases hlt : k < n
    · have hkL : k < L.length := by rw [HN.out]; exact hlt
      obtain ⟨x, hxx⟩ : ∃ x, x = L[k] := ⟨_, rfl⟩
      have hx' := nat_lenS hkL
      rw [← hxx] at hx'
      obtain ⟨b, o, e, -, c0⟩ := RdK.str (HH.out.kept HB.out) hx'
      subst e
      obtain ⟨d0, d1, d2⟩ := box3 HXr.out
      have HXX := Lib.hid hx'
      have cX := cI x (List.mem_of_getElem? hx')
      have hw2 : IntKind.i64.wrap ((k : Int) + 1) = ((k + 1 : Nat) : Int) := by rw [IntKind.wrap_i64]; omega
      obtain ⟨pv, hpv⟩ : ∃ pv, pv = inB lo hi top x := ⟨_, rfl⟩
      have HPV := Lib.hid hpv
      rw [← hpv] at cX
      obtain ⟨qv, hqv⟩ : ∃ qv, qv = decide (x = lo) := ⟨_, rfl⟩
      have hq2 : (x.toList == lo.toList) = qv := by rw [ba_toList, hqv]
      have HQV := Lib.hid hqv
      have z0 := fun q : Drift.Tide [] wr [] => Drift.Tide.cell c0 (by simp) q
      have y0 := fun q : Drift.Tide [] wr [] => Drift.Tide.cell d0 (by simp) q
      have y1 := fun q : Drift.Tide [] wr [] => Drift.Tide.cell d1 (by simp) q
      have y2 := fun q : Drift.Tide [] wr [] => Drift.Tide.cell d2 (by simp) q
      clear hxx hx' hkL cI hpv hqv c0 d0 d1 d2
      go_upto_region 4 with fail
      go_cut [27] (fun tv wx => tv = .bool (!pv || qv) ∧ Hid (Below wr.heap.size wr wx))
      case first =>
        cases pv with
        | false =>
          refine Drift.wp_region_drift [] [(0,[]),(1,[]),(2,[]),(3,[]),(4,[]),(5,[]),(6,[]),(7,[]),(8,[]),(9,[]),(10,[]),(11,[]),(12,[]),(13,[]),(14,[]),(15,[])] [] [] (by kernel_rfl) (by kernel_rfl) (by simp) ?_
          simp only [Drift.pick, Drift.opsAt, List.getElem?_toArray, List.getElem?_cons_zero, List.getElem?_cons_succ, List.cons_append, List.nil_append, List.filterMap_nil]
          repeat (refine Drift.walk_step (fun K hK => ?_); go_simp; first | (refine hK _ ?_; clear hK K) | (apply Exists.intro; refine ⟨fun q => ?_, hK _ ?_⟩; (go_at_call 56; exact (cX _).out); clear hK K))
          refine Drift.walk_nil ?_
          intro w2 hb _
          have HB2 : Hid (Below wr.heap.size wr w2) := hb
          clear z0 y0 y1 y2 hb cX
          simp only [List.length_cons, List.length_nil, List.drop_succ_cons, List.drop_nil, Nat.zero_add, Nat.reduceAdd]
          go_wp2_with fail
          go_meet
          exact ⟨rfl, HB2⟩
        | true =>
          refine Drift.wp_region_drift [] [(0,[]),(1,[]),(2,[]),(3,[]),(4,[]),(5,[]),(6,[]),(7,[]),(8,[]),(9,[]),(10,[]),(11,[]),(12,[]),(13,[]),(14,[]),(15,[])] [] [] (by kernel_rfl) (by kernel_rfl) (by simp) ?_
          simp only [Drift.pick, Drift.opsAt, List.getElem?_toArray, List.getElem?_cons_zero, List.getElem?_cons_succ, List.cons_append, List.nil_append, List.filterMap_nil]
          repeat (refine Drift.walk_step (fun K hK => ?_); go_simp; first | (refine hK _ ?_; clear hK K) | (apply Exists.intro; refine ⟨fun q => ?_, hK _ ?_⟩; (go_at_call 56; exact (cX _).out); clear hK K))
          refine Drift.walk_nil ?_
          intro w2 hb _
          have HB2 : Hid (Below wr.heap.size wr w2) := hb
          clear z0 y0 y1 y2 hb cX
          simp only [List.length_cons, List.length_nil, List.drop_succ_cons, List.drop_nil, Nat.zero_add, Nat.reduceAdd]
          go_wp2_with fail
          go_meet
          exact ⟨rfl, HB2⟩
      case rest =>
      obtain ⟨rfl, HB2⟩ := hcut
      have HB3 : Hid (Below W.heap.size W wc) := HB.out.trans (HB2.out.mono HB.out.size)
      have HX3 := Lib.hid (kept3 HXr.out HB2.out)
      obtain ⟨tb, htb⟩ : ∃ tb, tb = (!pv || qv) := ⟨_, rfl⟩
      rw [← htb]
      cases tb with
      | true =>
        have HNO : Hid (¬ RightS L lo hi top) := fun hr => by
          obtain ⟨h1, h2⟩ := hr.1 x (List.mem_of_getElem? HXX.out)
          rw [← HPV.out] at h1
          have h3 : qv = false := by rw [HQV.out]; simpa using h2
          rw [h1, h3] at htb
          cases htb
        clear z0 y0 y1 y2 cX htb
        go_wp2_with fail
        go_ret
        exact ⟨⟨false, rfl, by simpa using HNO.out⟩, HB3.out⟩
      | false =>
        have HE2 : Hid (∀ (i : Nat) (x : ByteArray), i < k + 1 → L[i]? = some x → inB lo hi top x = true ∧ x ≠ lo) := fun i y hi hy => by
          by_cases e : i = k
          · subst e
            rw [HXX.out] at hy
            cases hy
            have h4 : pv = true ∧ qv = false := by simpa using htb.symm
            refine ⟨by rw [← HPV.out]; exact h4.1, ?_⟩
            have h5 := HQV.out
            rw [h4.2] at h5
            simpa using h5.symm
          · exact HE.out i y (by omega) hy
        clear z0 y0 y1 y2 cX htb
        go_wp2_with fail
        go_roundg (n - (k + 1))
        case measure => omega
        case rel => exact ⟨k + 1, hlt, rfl, by go_num, HE2, HB3, HX3⟩
    · have HE2 : Hid (∀ x, x ∈ L → inB lo hi top x = true ∧ x ≠ lo) := fun x hx => by
        obtain ⟨i, hi⟩ := List.getElem?_of_mem hx
        have := (List.getElem?_eq_some_iff.1 hi).1
        rw [HN.out] at this
        exact HE.out i x (by omega) hi
      obtain rfl : k = n := by omega
      clear hlt cI
      go_wp2_with (go_at_call 43; refine (cRi _ HB.out).out.mono ?_; rintro e w' ⟨⟨v, rfl, hv⟩, hb⟩)
      go_ret
      exact ⟨⟨v, rfl, ⟨fun h => ⟨HE2.out, hv.1 h⟩, fun h => hv.2 h.2⟩⟩, HB.out.trans (hb.mono HB.out.size)⟩
end Fa
end Go.Proofs.Ytlcdjbleeanpbaa
