/-
  SlEqualK SlEqualS SlEqualM SlEqualP SlIndexK SlCloneK SlCloneS SlCloneM SlCloneP BufSameC LeafSameC, in one text. Written by merge.py.
-/
import Derived.Test.YtlcdjbleeanpbaaKidK
import Derived.Test.YtlcdjbleeanpbaaDrift
import Derived.Test.YtlcdjbleeanpbaaBox3
import Derived.Test.YtlcdjbleeanpbaaStrK
import Derived.Test.YtlcdjbleeanpbaaMsgRS
import Derived.Test.YtlcdjbleeanpbaaPairRS
import Derived.Test.YtlcdjbleeanpbaaMsgK
import Derived.Test.YtlcdjbleeanpbaaPairK

namespace Go.Proofs.Ytlcdjbleeanpbaa
open Go.RowKit
namespace No
open Mem Lx Bu
set_option maxRecDepth 100000 in
set_option maxHeartbeats 2000000 in
set_option maxRecDepth 100000 in
theorem EqualK_any {W : World} {A A' : Option Addr} {c c' : Nat} {L L' : List Nat} (h : RdK KdK W A L) (h' : RdK KdK W A' L') (hl : L.length ≤ 1048576) : Calls Try.prog 34 #[.slice A L.length c, .slice A' L'.length c'] W fun e w' => (∃ v : Bool, e = .returned (.bool v) ∧ (v = true ↔ L = L')) ∧ Below W.heap.size W w' := by
  obtain ⟨n, hn⟩ : ∃ n, n = L.length := ⟨_, rfl⟩
  by_cases hnn : L.length = L'.length
  case neg =>
    have HR : Hid (¬ L = L') := fun e => hnn (by rw [e])
    have hd : ((L.length : Int) != (L'.length : Int)) = true := by simp; omega
    clear h h' hn hl
    generalize L.length = n at *
    generalize L'.length = n' at *
    clear hnn
    go_enter Try.func34, Try.ntmps34
    go_wp2
    go_ret
    exact ⟨⟨false, rfl, by simpa using HR.out⟩, Below.refl _ _⟩
  rw [← hnn, ← hn]
  rw [← hn] at hl
  have HN := Lib.hid hn
  have HN' : Hid (n = L'.length) := hn.trans hnn
  have HH := Lib.hid h
  have HH' := Lib.hid h'
  clear h h' hn hnn
  go_enter Try.func34, Try.ntmps34
  go_wp2_with fail
  go_loopg [13] n (fun gk iv wr => ∃ k : Nat, k ≤ n ∧ gk = n - k ∧ iv = .int .i64 (k : Int) ∧ Hid (∀ i, i < k → L[i]? = L'[i]?) ∧ Hid (Below W.heap.size W wr))
  case atStart => exact ⟨0, Nat.zero_le _, rfl, rfl, fun i hi => by omega, Below.refl _ _⟩
  case round =>
    obtain ⟨k, hk, rfl, rfl, HE, HB⟩ := hrel
    by_cases hlt : k < n
    · have hj : k < L.length := by rw [← HN.out]; exact hlt
      have hj' : k < L'.length := by rw [← HN'.out]; exact hlt
      obtain ⟨x, hx⟩ : ∃ x, x = L[k] := ⟨_, rfl⟩
      obtain ⟨y, hy⟩ : ∃ y, y = L'[k] := ⟨_, rfl⟩
      have hx' := nat_lenK hj
      have hy' := nat_lenK hj'
      rw [← hx] at hx'
      rw [← hy] at hy'
      obtain ⟨b, o, e, -, c0⟩ := RdK.kid (HH.out.kept HB.out) hx'
      subst e
      obtain ⟨b', o', e', -, d0⟩ := RdK.kid (HH'.out.kept HB.out) hy'
      subst e'
      have HX := Lib.hid hx'
      have HY := Lib.hid hy'
      by_cases hxy : x = y
      · have HE2 : Hid (∀ i, i < k + 1 → L[i]? = L'[i]?) := fun i hi => by
          by_cases e : i = k
          · subst e
            rw [HX.out, HY.out, hxy]
          · exact HE.out i (by omega)
        have hne : ((x : Int) != (y : Int)) = false := by simp [hxy]
        clear hxy
        have z0 := fun q : Drift.Tide [] wr [] => Drift.Tide.cell c0 (by simp) q
        have x0 := fun q : Drift.Tide [] wr [] => Drift.Tide.cell d0 (by simp) q
        have hw2 : IntKind.i64.wrap ((k : Int) + 1) = ((k + 1 : Nat) : Int) := by rw [IntKind.wrap_i64]; omega
        clear c0 d0 hx hy hx' hy' hj hj'
        go_upto_region 6 with fail
        refine Drift.wp_region_drift [] [(0,[]),(1,[]),(2,[]),(3,[]),(4,[]),(5,[]),(6,[]),(7,[]),(8,[])] [] [] (by kernel_rfl) (by kernel_rfl) (by simp) ?_
        simp only [Drift.pick, Drift.opsAt, List.getElem?_toArray, List.getElem?_cons_zero, List.getElem?_cons_succ, List.cons_append, List.nil_append, List.filterMap_nil]
        repeat (refine Drift.walk_step (fun K hK => ?_); go_simp; (refine hK _ ?_; clear hK K))
        refine Drift.walk_nil ?_
        intro w2 hb _
        have HB2 := Lib.hid (HB.out.trans (hb.mono HB.out.size))
        clear z0 x0 hb HB
        simp only [List.length_cons, List.length_nil, List.drop_succ_cons, List.drop_nil, Nat.zero_add, Nat.reduceAdd]
        go_wp2_with fail
        go_roundg (n - (k + 1))
        case measure => omega
        case rel => exact ⟨k + 1, hlt, rfl, by go_num, HE2, HB2⟩
      · have HN2 : Hid (¬ L = L') := fun e => hxy (by
          have h1 := HX.out
          rw [e, HY.out] at h1
          exact (Option.some.inj h1).symm)
        have hne : ((x : Int) != (y : Int)) = true := by simp; omega
        clear hxy
        have z0 := fun q : Drift.Tide [] wr [] => Drift.Tide.cell c0 (by simp) q
        have x0 := fun q : Drift.Tide [] wr [] => Drift.Tide.cell d0 (by simp) q
        have hw2 : IntKind.i64.wrap ((k : Int) + 1) = ((k + 1 : Nat) : Int) := by rw [IntKind.wrap_i64]; omega
        clear c0 d0 hx hy hx' hy' hj hj'
        go_upto_region 6 with fail
        refine Drift.wp_region_drift [] [(0,[]),(1,[]),(2,[]),(3,[]),(4,[]),(5,[]),(6,[]),(7,[]),(8,[])] [] [] (by kernel_rfl) (by kernel_rfl) (by simp) ?_
        simp only [Drift.pick, Drift.opsAt, List.getElem?_toArray, List.getElem?_cons_zero, List.getElem?_cons_succ, List.cons_append, List.nil_append, List.filterMap_nil]
        repeat (refine Drift.walk_step (fun K hK => ?_); go_simp; (refine hK _ ?_; clear hK K))
        refine Drift.walk_nil ?_
        intro w2 hb _
        have HB2 := Lib.hid (HB.out.trans (hb.mono HB.out.size))
        clear z0 x0 hb HB
        simp only [List.length_cons, List.length_nil, List.drop_succ_cons, List.drop_nil, Nat.zero_add, Nat.reduceAdd]
        go_wp2_with fail
        go_ret
        exact ⟨⟨false, rfl, by simpa using HN2.out⟩, HB2.out⟩
    · have HR : Hid (L = L') := by
        refine List.ext_getElem? fun i => ?_
        by_cases hi : i < k
        · exact HE.out i hi
        · rw [List.getElem?_eq_none (by rw [← HN.out]; omega), List.getElem?_eq_none (by rw [← HN'.out]; omega)]
      obtain rfl : k = n := by omega
      clear hlt
      go_wp2_with fail
      go_ret
      exact ⟨⟨true, rfl, by simpa using HR.out⟩, HB.out⟩
end No
end Go.Proofs.Ytlcdjbleeanpbaa

namespace Go.Proofs.Ytlcdjbleeanpbaa
open Go.RowKit
namespace Fa
open Mem Lx Bu
set_option maxRecDepth 100000 in
set_option maxHeartbeats 2000000 in
set_option maxRecDepth 100000 in
theorem EqualS_any {W : World} {A A' : Option Addr} {c c' : Nat} {L L' : List ByteArray} (h : RdK StK W A L) (h' : RdK StK W A' L') (hl : L.length ≤ 1048576) : Calls Try.prog 35 #[.slice A L.length c, .slice A' L'.length c'] W fun e w' => (∃ v : Bool, e = .returned (.bool v) ∧ (v = true ↔ L = L')) ∧ Below W.heap.size W w' := by
  obtain ⟨n, hn⟩ : ∃ n, n = L.length := ⟨_, rfl⟩
  by_cases hnn : L.length = L'.length
  case neg =>
    have HR : Hid (¬ L = L') := fun e => hnn (by rw [e])
    have hd : ((L.length : Int) != (L'.length : Int)) = true := by simp; omega
    clear h h' hn hl
    generalize L.length = n at *
    generalize L'.length = n' at *
    clear hnn
    go_enter Try.func35, Try.ntmps35
    go_wp2
    go_ret
    exact ⟨⟨false, rfl, by simpa using HR.out⟩, Below.refl _ _⟩
  rw [← hnn, ← hn]
  rw [← hn] at hl
  have HN := Lib.hid hn
  have HN' : Hid (n = L'.length) := hn.trans hnn
  have HH := Lib.hid h
  have HH' := Lib.hid h'
  clear h h' hn hnn
  go_enter Try.func35, Try.ntmps35
  go_wp2_with fail
  go_loopg [13] n (fun gk iv wr => ∃ k : Nat, k ≤ n ∧ gk = n - k ∧ iv = .int .i64 (k : Int) ∧ Hid (∀ i, i < k → L[i]? = L'[i]?) ∧ Hid (Below W.heap.size W wr))
  case atStart => exact ⟨0, Nat.zero_le _, rfl, rfl, fun i hi => by omega, Below.refl _ _⟩
  case round =>
    obtain ⟨k, hk, rfl, rfl, HE, HB⟩ := hrel
    by_cases hlt : k < n
    · have hj : k < L.length := by rw [← HN.out]; exact hlt
      have hj' : k < L'.length := by rw [← HN'.out]; exact hlt
      obtain ⟨x, hx⟩ : ∃ x, x = L[k] := ⟨_, rfl⟩
      obtain ⟨y, hy⟩ : ∃ y, y = L'[k] := ⟨_, rfl⟩
      have hx' := nat_lenS hj
      have hy' := nat_lenS hj'
      rw [← hx] at hx'
      rw [← hy] at hy'
      obtain ⟨b, o, e, -, c0⟩ := RdK.str (HH.out.kept HB.out) hx'
      subst e
      obtain ⟨b', o', e', -, d0⟩ := RdK.str (HH'.out.kept HB.out) hy'
      subst e'
      have HX := Lib.hid hx'
      have HY := Lib.hid hy'
      by_cases hxy : x = y
      · have HE2 : Hid (∀ i, i < k + 1 → L[i]? = L'[i]?) := fun i hi => by
          by_cases e : i = k
          · subst e
            rw [HX.out, HY.out, hxy]
          · exact HE.out i (by omega)
        have hne : (x.toList == y.toList) = true := by rw [ba_toList]; simpa using hxy
        clear hxy
        have z0 := fun q : Drift.Tide [] wr [] => Drift.Tide.cell c0 (by simp) q
        have x0 := fun q : Drift.Tide [] wr [] => Drift.Tide.cell d0 (by simp) q
        have hw2 : IntKind.i64.wrap ((k : Int) + 1) = ((k + 1 : Nat) : Int) := by rw [IntKind.wrap_i64]; omega
        clear c0 d0 hx hy hx' hy' hj hj'
        go_upto_region 6 with fail
        refine Drift.wp_region_drift [] [(0,[]),(1,[]),(2,[]),(3,[]),(4,[]),(5,[]),(6,[]),(7,[]),(8,[])] [] [] (by kernel_rfl) (by kernel_rfl) (by simp) ?_
        simp only [Drift.pick, Drift.opsAt, List.getElem?_toArray, List.getElem?_cons_zero, List.getElem?_cons_succ, List.cons_append, List.nil_append, List.filterMap_nil]
        repeat (refine Drift.walk_step (fun K hK => ?_); go_simp; (refine hK _ ?_; clear hK K))
        refine Drift.walk_nil ?_
        intro w2 hb _
        have HB2 := Lib.hid (HB.out.trans (hb.mono HB.out.size))
        clear z0 x0 hb HB
        simp only [List.length_cons, List.length_nil, List.drop_succ_cons, List.drop_nil, Nat.zero_add, Nat.reduceAdd]
        go_wp2_with fail
        go_roundg (n - (k + 1))
        case measure => omega
        case rel => exact ⟨k + 1, hlt, rfl, by go_num, HE2, HB2⟩
      · have HN2 : Hid (¬ L = L') := fun e => hxy (by
          have h1 := HX.out
          rw [e, HY.out] at h1
          exact (Option.some.inj h1).symm)
        have hne : (x.toList == y.toList) = false := by rw [ba_toList]; simpa using hxy
        clear hxy
        have z0 := fun q : Drift.Tide [] wr [] => Drift.Tide.cell c0 (by simp) q
        have x0 := fun q : Drift.Tide [] wr [] => Drift.Tide.cell d0 (by simp) q
        have hw2 : IntKind.i64.wrap ((k : Int) + 1) = ((k + 1 : Nat) : Int) := by rw [IntKind.wrap_i64]; omega
        clear c0 d0 hx hy hx' hy' hj hj'
        go_upto_region 6 with fail
        refine Drift.wp_region_drift [] [(0,[]),(1,[]),(2,[]),(3,[]),(4,[]),(5,[]),(6,[]),(7,[]),(8,[])] [] [] (by kernel_rfl) (by kernel_rfl) (by simp) ?_
        simp only [Drift.pick, Drift.opsAt, List.getElem?_toArray, List.getElem?_cons_zero, List.getElem?_cons_succ, List.cons_append, List.nil_append, List.filterMap_nil]
        repeat (refine Drift.walk_step (fun K hK => ?_); go_simp; (refine hK _ ?_; clear hK K))
        refine Drift.walk_nil ?_
        intro w2 hb _
        have HB2 := Lib.hid (HB.out.trans (hb.mono HB.out.size))
        clear z0 x0 hb HB
        simp only [List.length_cons, List.length_nil, List.drop_succ_cons, List.drop_nil, Nat.zero_add, Nat.reduceAdd]
        go_wp2_with fail
        go_ret
        exact ⟨⟨false, rfl, by simpa using HN2.out⟩, HB2.out⟩
    · have HR : Hid (L = L') := by
        refine List.ext_getElem? fun i => ?_
        by_cases hi : i < k
        · exact HE.out i hi
        · rw [List.getElem?_eq_none (by rw [← HN.out]; omega), List.getElem?_eq_none (by rw [← HN'.out]; omega)]
      obtain rfl : k = n := by omega
      clear hlt
      go_wp2_with fail
      go_ret
      exact ⟨⟨true, rfl, by simpa using HR.out⟩, HB.out⟩
end Fa
end Go.Proofs.Ytlcdjbleeanpbaa

namespace Go.Proofs.Ytlcdjbleeanpbaa
open Go.RowKit
namespace Bu
open Mem Lx
set_option maxRecDepth 100000 in
set_option maxHeartbeats 2000000 in
set_option maxRecDepth 100000 in
theorem Equal_any {W : World} {A A' : Option Addr} {c c' : Nat} {L L' : List Mg} (h : ML W A L) (h' : ML W A' L') (hl : L.length ≤ 1048576) (_ : L'.length ≤ 1048576) : Calls Try.prog 59 #[.slice A L.length c, .slice A' L'.length c'] W fun e w' => (∃ v : Bool, e = .returned (.bool v) ∧ (v = true ↔ L = L')) ∧ Below W.heap.size W w' := by
  obtain ⟨n, hn⟩ : ∃ n, n = L.length := ⟨_, rfl⟩
  by_cases hnn : L.length = L'.length
  case neg =>
    have HR : Hid (¬ L = L') := fun e => hnn (by rw [e])
    have hd : ((L.length : Int) != (L'.length : Int)) = true := by simp; omega
    clear h h' hn hl
    generalize L.length = n at *
    generalize L'.length = n' at *
    clear hnn
    go_enter Try.func59, Try.ntmps59
    go_wp2
    go_ret
    exact ⟨⟨false, rfl, by simpa using HR.out⟩, Below.refl _ _⟩
  rw [← hnn, ← hn]
  rw [← hn] at hl
  have HN := Lib.hid hn
  have HN' : Hid (n = L'.length) := hn.trans hnn
  have HH := Lib.hid h
  have HH' := Lib.hid h'
  clear h h' hn hnn
  go_enter Try.func59, Try.ntmps59
  go_wp2_with fail
  go_loopg [13] n (fun gk iv wr => ∃ k : Nat, k ≤ n ∧ gk = n - k ∧ iv = .int .i64 (k : Int) ∧ Hid (∀ i, i < k → L[i]? = L'[i]?) ∧ Hid (Below W.heap.size W wr))
  case atStart => exact ⟨0, Nat.zero_le _, rfl, rfl, fun i hi => by omega, Below.refl _ _⟩
  case round =>
    obtain ⟨k, hk, rfl, rfl, HE, HB⟩ := hrel
    by_cases hlt : k < n
    · have hj : k < L.length := by rw [← HN.out]; exact hlt
      have hj' : k < L'.length := by rw [← HN'.out]; exact hlt
      obtain ⟨x, hx⟩ : ∃ x, x = L[k] := ⟨_, rfl⟩
      obtain ⟨y, hy⟩ : ∃ y, y = L'[k] := ⟨_, rfl⟩
      have hx' := nat_len hj
      have hy' := nat_len hj'
      rw [← hx] at hx'
      rw [← hy] at hy'
      obtain ⟨b, o, e, -, c0, c1, c2⟩ := RdK.msg (HH.out.kept HB.out) hx'
      subst e
      obtain ⟨b', o', e', -, d0, d1, d2⟩ := RdK.msg (HH'.out.kept HB.out) hy'
      subst e'
      have HX := Lib.hid hx'
      have HY := Lib.hid hy'
      by_cases hxy : x = y
      · have hne : ∀ w, (binOp .neq 40 (.agg #[.string x.1, .bool x.2.1, .string x.2.2]) (.agg #[.string y.1, .bool y.2.1, .string y.2.2])).run Try.prog w = .ok (.bool false) w := fun w => (mg_ne x y w).trans (by simp [hxy])
        have HE2 : Hid (∀ i, i < k + 1 → L[i]? = L'[i]?) := fun i hi => by
          by_cases e : i = k
          · subst e
            rw [HX.out, HY.out, hxy]
          · exact HE.out i (by omega)
        clear hxy
        have z0 := fun q : Drift.Tide [] wr [] => Drift.Tide.cell c0 (by simp) q
        have z1 := fun q : Drift.Tide [] wr [] => Drift.Tide.cell c1 (by simp) q
        have z2 := fun q : Drift.Tide [] wr [] => Drift.Tide.cell c2 (by simp) q
        have x0 := fun q : Drift.Tide [] wr [] => Drift.Tide.cell d0 (by simp) q
        have x1 := fun q : Drift.Tide [] wr [] => Drift.Tide.cell d1 (by simp) q
        have x2 := fun q : Drift.Tide [] wr [] => Drift.Tide.cell d2 (by simp) q
        have hw2 : IntKind.i64.wrap ((k : Int) + 1) = ((k + 1 : Nat) : Int) := by rw [IntKind.wrap_i64]; omega
        clear c0 c1 c2 d0 d1 d2 hx hy hx' hy' hj hj'
        go_upto_region 6 with fail
        refine Drift.wp_region_drift [] [(0,[]),(1,[]),(2,[]),(3,[]),(4,[]),(5,[]),(6,[]),(7,[]),(8,[])] [] [] (by kernel_rfl) (by kernel_rfl) (by simp) ?_
        simp only [Drift.pick, Drift.opsAt, List.getElem?_toArray, List.getElem?_cons_zero, List.getElem?_cons_succ, List.cons_append, List.nil_append, List.filterMap_nil]
        repeat (refine Drift.walk_step (fun K hK => ?_); go_simp; (refine hK _ ?_; clear hK K))
        refine Drift.walk_nil ?_
        intro w2 hb _
        have HB2 := Lib.hid (HB.out.trans (hb.mono HB.out.size))
        clear z0 z1 z2 x0 x1 x2 hb HB hne
        simp only [List.length_cons, List.length_nil, List.drop_succ_cons, List.drop_nil, Nat.zero_add, Nat.reduceAdd]
        go_wp2_with fail
        go_roundg (n - (k + 1))
        case measure => omega
        case rel => exact ⟨k + 1, hlt, rfl, by go_num, HE2, HB2⟩
      · have hne : ∀ w, (binOp .neq 40 (.agg #[.string x.1, .bool x.2.1, .string x.2.2]) (.agg #[.string y.1, .bool y.2.1, .string y.2.2])).run Try.prog w = .ok (.bool true) w := fun w => (mg_ne x y w).trans (by simp [hxy])
        have HN2 : Hid (¬ L = L') := fun e => hxy (by
          have h1 := HX.out
          rw [e, HY.out] at h1
          exact (Option.some.inj h1).symm)
        clear hxy
        have z0 := fun q : Drift.Tide [] wr [] => Drift.Tide.cell c0 (by simp) q
        have z1 := fun q : Drift.Tide [] wr [] => Drift.Tide.cell c1 (by simp) q
        have z2 := fun q : Drift.Tide [] wr [] => Drift.Tide.cell c2 (by simp) q
        have x0 := fun q : Drift.Tide [] wr [] => Drift.Tide.cell d0 (by simp) q
        have x1 := fun q : Drift.Tide [] wr [] => Drift.Tide.cell d1 (by simp) q
        have x2 := fun q : Drift.Tide [] wr [] => Drift.Tide.cell d2 (by simp) q
        have hw2 : IntKind.i64.wrap ((k : Int) + 1) = ((k + 1 : Nat) : Int) := by rw [IntKind.wrap_i64]; omega
        clear c0 c1 c2 d0 d1 d2 hx hy hx' hy' hj hj'
        go_upto_region 6 with fail
        refine Drift.wp_region_drift [] [(0,[]),(1,[]),(2,[]),(3,[]),(4,[]),(5,[]),(6,[]),(7,[]),(8,[])] [] [] (by kernel_rfl) (by kernel_rfl) (by simp) ?_
        simp only [Drift.pick, Drift.opsAt, List.getElem?_toArray, List.getElem?_cons_zero, List.getElem?_cons_succ, List.cons_append, List.nil_append, List.filterMap_nil]
        repeat (refine Drift.walk_step (fun K hK => ?_); go_simp; (refine hK _ ?_; clear hK K))
        refine Drift.walk_nil ?_
        intro w2 hb _
        have HB2 := Lib.hid (HB.out.trans (hb.mono HB.out.size))
        clear z0 z1 z2 x0 x1 x2 hb HB hne
        simp only [List.length_cons, List.length_nil, List.drop_succ_cons, List.drop_nil, Nat.zero_add, Nat.reduceAdd]
        go_wp2_with fail
        go_ret
        exact ⟨⟨false, rfl, by simpa using HN2.out⟩, HB2.out⟩
    · have HR : Hid (L = L') := by
        refine List.ext_getElem? fun i => ?_
        by_cases hi : i < k
        · exact HE.out i hi
        · rw [List.getElem?_eq_none (by rw [← HN.out]; omega), List.getElem?_eq_none (by rw [← HN'.out]; omega)]
      obtain rfl : k = n := by omega
      clear hlt
      go_wp2_with fail
      go_ret
      exact ⟨⟨true, rfl, by simpa using HR.out⟩, HB.out⟩
end Bu
end Go.Proofs.Ytlcdjbleeanpbaa

namespace Go.Proofs.Ytlcdjbleeanpbaa
open Go.RowKit
namespace Lf
open Mem Lx Bu
set_option maxRecDepth 100000 in
set_option maxHeartbeats 2000000 in
set_option maxRecDepth 100000 in
theorem Equal_any {W : World} {A A' : Option Addr} {c c' : Nat} {L L' : List Pr} (h : PL W A L) (h' : PL W A' L') (hl : L.length ≤ 1048576) (_ : L'.length ≤ 1048576) : Calls Try.prog 60 #[.slice A L.length c, .slice A' L'.length c'] W fun e w' => (∃ v : Bool, e = .returned (.bool v) ∧ (v = true ↔ L = L')) ∧ Below W.heap.size W w' := by
  obtain ⟨n, hn⟩ : ∃ n, n = L.length := ⟨_, rfl⟩
  by_cases hnn : L.length = L'.length
  case neg =>
    have HR : Hid (¬ L = L') := fun e => hnn (by rw [e])
    have hd : ((L.length : Int) != (L'.length : Int)) = true := by simp; omega
    clear h h' hn hl
    generalize L.length = n at *
    generalize L'.length = n' at *
    clear hnn
    go_enter Try.func60, Try.ntmps60
    go_wp2
    go_ret
    exact ⟨⟨false, rfl, by simpa using HR.out⟩, Below.refl _ _⟩
  rw [← hnn, ← hn]
  rw [← hn] at hl
  have HN := Lib.hid hn
  have HN' : Hid (n = L'.length) := hn.trans hnn
  have HH := Lib.hid h
  have HH' := Lib.hid h'
  clear h h' hn hnn
  go_enter Try.func60, Try.ntmps60
  go_wp2_with fail
  go_loopg [13] n (fun gk iv wr => ∃ k : Nat, k ≤ n ∧ gk = n - k ∧ iv = .int .i64 (k : Int) ∧ Hid (∀ i, i < k → L[i]? = L'[i]?) ∧ Hid (Below W.heap.size W wr))
  case atStart => exact ⟨0, Nat.zero_le _, rfl, rfl, fun i hi => by omega, Below.refl _ _⟩
  case round =>
    obtain ⟨k, hk, rfl, rfl, HE, HB⟩ := hrel
    by_cases hlt : k < n
    · have hj : k < L.length := by rw [← HN.out]; exact hlt
      have hj' : k < L'.length := by rw [← HN'.out]; exact hlt
      obtain ⟨x, hx⟩ : ∃ x, x = L[k] := ⟨_, rfl⟩
      obtain ⟨y, hy⟩ : ∃ y, y = L'[k] := ⟨_, rfl⟩
      have hx' := nat_len hj
      have hy' := nat_len hj'
      rw [← hx] at hx'
      rw [← hy] at hy'
      obtain ⟨b, o, e, -, c0, c1⟩ := RdK.pair (HH.out.kept HB.out) hx'
      subst e
      obtain ⟨b', o', e', -, d0, d1⟩ := RdK.pair (HH'.out.kept HB.out) hy'
      subst e'
      have HX := Lib.hid hx'
      have HY := Lib.hid hy'
      by_cases hxy : x = y
      · have hne : ∀ w, (binOp .neq 42 (.agg #[.string x.1, .string x.2]) (.agg #[.string y.1, .string y.2])).run Try.prog w = .ok (.bool false) w := fun w => (pr_ne x y w).trans (by simp [hxy])
        have HE2 : Hid (∀ i, i < k + 1 → L[i]? = L'[i]?) := fun i hi => by
          by_cases e : i = k
          · subst e
            rw [HX.out, HY.out, hxy]
          · exact HE.out i (by omega)
        clear hxy
        have z0 := fun q : Drift.Tide [] wr [] => Drift.Tide.cell c0 (by simp) q
        have z1 := fun q : Drift.Tide [] wr [] => Drift.Tide.cell c1 (by simp) q
        have x0 := fun q : Drift.Tide [] wr [] => Drift.Tide.cell d0 (by simp) q
        have x1 := fun q : Drift.Tide [] wr [] => Drift.Tide.cell d1 (by simp) q
        have hw2 : IntKind.i64.wrap ((k : Int) + 1) = ((k + 1 : Nat) : Int) := by rw [IntKind.wrap_i64]; omega
        clear c0 c1 d0 d1 hx hy hx' hy' hj hj'
        go_upto_region 6 with fail
        refine Drift.wp_region_drift [] [(0,[]),(1,[]),(2,[]),(3,[]),(4,[]),(5,[]),(6,[]),(7,[]),(8,[])] [] [] (by kernel_rfl) (by kernel_rfl) (by simp) ?_
        simp only [Drift.pick, Drift.opsAt, List.getElem?_toArray, List.getElem?_cons_zero, List.getElem?_cons_succ, List.cons_append, List.nil_append, List.filterMap_nil]
        repeat (refine Drift.walk_step (fun K hK => ?_); go_simp; (refine hK _ ?_; clear hK K))
        refine Drift.walk_nil ?_
        intro w2 hb _
        have HB2 := Lib.hid (HB.out.trans (hb.mono HB.out.size))
        clear z0 z1 x0 x1 hb HB hne
        simp only [List.length_cons, List.length_nil, List.drop_succ_cons, List.drop_nil, Nat.zero_add, Nat.reduceAdd]
        go_wp2_with fail
        go_roundg (n - (k + 1))
        case measure => omega
        case rel => exact ⟨k + 1, hlt, rfl, by go_num, HE2, HB2⟩
      · have hne : ∀ w, (binOp .neq 42 (.agg #[.string x.1, .string x.2]) (.agg #[.string y.1, .string y.2])).run Try.prog w = .ok (.bool true) w := fun w => (pr_ne x y w).trans (by simp [hxy])
        have HN2 : Hid (¬ L = L') := fun e => hxy (by
          have h1 := HX.out
          rw [e, HY.out] at h1
          exact (Option.some.inj h1).symm)
        clear hxy
        have z0 := fun q : Drift.Tide [] wr [] => Drift.Tide.cell c0 (by simp) q
        have z1 := fun q : Drift.Tide [] wr [] => Drift.Tide.cell c1 (by simp) q
        have x0 := fun q : Drift.Tide [] wr [] => Drift.Tide.cell d0 (by simp) q
        have x1 := fun q : Drift.Tide [] wr [] => Drift.Tide.cell d1 (by simp) q
        have hw2 : IntKind.i64.wrap ((k : Int) + 1) = ((k + 1 : Nat) : Int) := by rw [IntKind.wrap_i64]; omega
        clear c0 c1 d0 d1 hx hy hx' hy' hj hj'
        go_upto_region 6 with fail
        refine Drift.wp_region_drift [] [(0,[]),(1,[]),(2,[]),(3,[]),(4,[]),(5,[]),(6,[]),(7,[]),(8,[])] [] [] (by kernel_rfl) (by kernel_rfl) (by simp) ?_
        simp only [Drift.pick, Drift.opsAt, List.getElem?_toArray, List.getElem?_cons_zero, List.getElem?_cons_succ, List.cons_append, List.nil_append, List.filterMap_nil]
        repeat (refine Drift.walk_step (fun K hK => ?_); go_simp; (refine hK _ ?_; clear hK K))
        refine Drift.walk_nil ?_
        intro w2 hb _
        have HB2 := Lib.hid (HB.out.trans (hb.mono HB.out.size))
        clear z0 z1 x0 x1 hb HB hne
        simp only [List.length_cons, List.length_nil, List.drop_succ_cons, List.drop_nil, Nat.zero_add, Nat.reduceAdd]
        go_wp2_with fail
        go_ret
        exact ⟨⟨false, rfl, by simpa using HN2.out⟩, HB2.out⟩
    · have HR : Hid (L = L') := by
        refine List.ext_getElem? fun i => ?_
        by_cases hi : i < k
        · exact HE.out i hi
        · rw [List.getElem?_eq_none (by rw [← HN.out]; omega), List.getElem?_eq_none (by rw [← HN'.out]; omega)]
      obtain rfl : k = n := by omega
      clear hlt
      go_wp2_with fail
      go_ret
      exact ⟨⟨true, rfl, by simpa using HR.out⟩, HB.out⟩
end Lf
end Go.Proofs.Ytlcdjbleeanpbaa

namespace Go.Proofs.Ytlcdjbleeanpbaa
open Go.RowKit
namespace No
open Mem Lx Bu
set_option maxRecDepth 100000 in
set_option maxHeartbeats 2000000 in
set_option maxRecDepth 100000 in
theorem IndexK_any {W : World} {A : Option Addr} {c : Nat} {L : List Nat} (h : KL W A L) (b : Nat) (hl : L.length ≤ 1048576) : Calls Try.prog 49 #[.slice A L.length c, .int .u32 (b : Int)] W fun e w' => (∃ z : Int, e = .returned (.int .i64 z) ∧ ((∃ v : Nat, z = (v : Int) ∧ L[v]? = some b ∧ ∀ j, j < v → L[j]? ≠ some b) ∨ (z = -1 ∧ b ∉ L))) ∧ W = w' := by
  obtain ⟨n, hn⟩ : ∃ n, n = L.length := ⟨_, rfl⟩
  rw [← hn] at hl ⊢
  have HN := Lib.hid hn
  have HH := Lib.hid h
  clear h hn
  go_enter Try.func49, Try.ntmps49
  go_wp2_with fail
  go_loopg [8] n (fun gk iv wr => ∃ k : Nat, k ≤ n ∧ gk = n - k ∧ iv = .int .i64 (k : Int) ∧ Hid (∀ i, i < k → L[i]? ≠ some b) ∧ W = wr)
  case atStart => exact ⟨0, Nat.zero_le _, rfl, rfl, fun i hi => by omega, rfl⟩
  case round =>
    obtain ⟨k, hk, rfl, rfl, HE, rfl⟩ := hrel
    by_cases hlt : k < n
    · have hj : k < L.length := by rw [← HN.out]; exact hlt
      obtain ⟨x, hx⟩ : ∃ x, x = L[k] := ⟨_, rfl⟩
      have hx' := nat_lenK hj
      rw [← hx] at hx'
      obtain ⟨b1, o1, e, -, c0⟩ := RdK.kid HH.out hx'
      subst e
      have HX := Lib.hid hx'
      have hw2 : IntKind.i64.wrap ((k : Int) + 1) = ((k + 1 : Nat) : Int) := by rw [IntKind.wrap_i64]; omega
      by_cases hxb : x = b
      · have ht : ((b : Int) == (x : Int)) = true := by simp [hxb]
        have HR : Hid (L[k]? = some b) := Lib.hid (by rw [HX.out, hxb])
        clear hxb hx hx' hj
        go_wp2_with fail
        go_ret
        exact ⟨⟨(k : Int), rfl, .inl ⟨k, rfl, HR.out, HE.out⟩⟩, rfl⟩
      · have ht : ((b : Int) == (x : Int)) = false := by simp; omega
        have HE2 : Hid (∀ i, i < k + 1 → L[i]? ≠ some b) := fun i hi => by
          by_cases e : i = k
          · subst e
            rw [HX.out]
            exact fun e => hxb (Option.some.inj e)
          · exact HE.out i (by omega)
        clear hxb hx hx' hj
        go_wp2_with fail
        go_roundg (n - (k + 1))
        case measure => omega
        case rel => exact ⟨k + 1, hlt, rfl, by go_num, HE2, rfl⟩
    · have HR : Hid (b ∉ L) := fun hm => by
        obtain ⟨i, hi⟩ := List.mem_iff_getElem?.1 hm
        have := (List.getElem?_eq_some_iff.1 hi).1
        rw [← HN.out] at this
        exact HE.out i (by omega) hi
      obtain rfl : k = n := by omega
      clear hlt
      go_wp2_with fail
      go_ret
      exact ⟨⟨-1, rfl, .inr ⟨rfl, HR.out⟩⟩, rfl⟩
end No
end Go.Proofs.Ytlcdjbleeanpbaa

namespace Go.Proofs.Ytlcdjbleeanpbaa
open Go.RowKit
namespace No
open Mem Lx Bu
theorem slinfoK : (Try.prog.info? 38).map (fun i => (i.zero, i.size, i.bytes)) = some (some (.int .u32 0), 1, 4) := by kernel_rfl
set_option maxRecDepth 100000 in
set_option maxHeartbeats 2000000 in
set_option maxRecDepth 100000 in
theorem CloneK_any {W : World} {A : Option Addr} {c : Nat} {L : List Nat} (h : RdK KdK W A L) (hl : L.length ≤ 1048576) : Calls Try.prog 30 #[.slice A L.length c] W fun e w' => (∃ A' c', e = .returned (.slice A' L.length c') ∧ VK KdK w' W.heap.size A' c' L) ∧ Below W.heap.size W w' := by
  have hq := fun (w : World) (a : Option Addr) (n c n' c' : Nat) => Lib.run_eql_slice_nil (P := Try.prog) w 26 _ a n c n' c' Try.underlying26
  cases A with
  | none =>
    obtain rfl : L = [] := List.length_eq_zero_iff.1 (Nat.eq_zero_of_not_pos fun h0 => by
      obtain ⟨b, o, e, _⟩ := h h0
      cases e)
    go_enter Try.func30, Try.ntmps30
    go_wp2_with fail
    go_ret
    exact ⟨⟨none, 0, rfl, VK.nil _ _⟩, Below.refl _ _⟩
  | some a =>
    have HH := Lib.hid h
    generalize hn : L.length = n at *
    have HN := Lib.hid hn
    clear h hn
    go_enter Try.func30, Try.ntmps30
    go_upto_region 3 with fail
    have hb : Below W.heap.size W (W.alloc (.cells #[] 38)) := (Below.refl _ _).alloc (Nat.le_refl _) _
    have HV0 : Hid (VK KdK (W.alloc (.cells #[] 38)) W.heap.size (some ⟨W.heap.size, 0, none⟩) 0 []) := VK.lit (K := KdK) W W.heap.size (Nat.le_refl _)
    have HAL := Lib.hid (HH.out.kept hb)
    have hs := hb.size
    have hn2 : 0 + n ≤ 1048576 := by omega
    have HB := Lib.hid hb
    clear hb HH
    go_wp2_with (with_reducible refine wpList_append_allK (K := KdK) Try.underlying26 slinfoK rfl (by decide) (by decide) rfl (.tmp 5) (.tmp 6) rfl W.heap.size (some ⟨W.heap.size, 0, none⟩) 0 0 [] rfl rfl HV0.out (some a) n c L rfl HN.out HAL.out hn2 hs ?_; intro Aw cw w4 hv4 hb4)
    go_ret
    exact ⟨⟨Aw, cw, rfl, hv4.out⟩, HB.out.trans hb4.out⟩
end No
end Go.Proofs.Ytlcdjbleeanpbaa

namespace Go.Proofs.Ytlcdjbleeanpbaa
open Go.RowKit
namespace Fa
open Mem Lx Bu
theorem slinfoS : (Try.prog.info? 9).map (fun i => (i.zero, i.size, i.bytes)) = some (some (.string ⟨#[]⟩), 1, 16) := by kernel_rfl
set_option maxRecDepth 100000 in
set_option maxHeartbeats 2000000 in
set_option maxRecDepth 100000 in
theorem CloneS_any {W : World} {A : Option Addr} {c : Nat} {L : List ByteArray} (h : RdK StK W A L) (hl : L.length ≤ 1048576) : Calls Try.prog 31 #[.slice A L.length c] W fun e w' => (∃ A' c', e = .returned (.slice A' L.length c') ∧ VK StK w' W.heap.size A' c' L) ∧ Below W.heap.size W w' := by
  have hq := fun (w : World) (a : Option Addr) (n c n' c' : Nat) => Lib.run_eql_slice_nil (P := Try.prog) w 27 _ a n c n' c' Try.underlying27
  cases A with
  | none =>
    obtain rfl : L = [] := List.length_eq_zero_iff.1 (Nat.eq_zero_of_not_pos fun h0 => by
      obtain ⟨b, o, e, _⟩ := h h0
      cases e)
    go_enter Try.func31, Try.ntmps31
    go_wp2_with fail
    go_ret
    exact ⟨⟨none, 0, rfl, VK.nil _ _⟩, Below.refl _ _⟩
  | some a =>
    have HH := Lib.hid h
    generalize hn : L.length = n at *
    have HN := Lib.hid hn
    clear h hn
    go_enter Try.func31, Try.ntmps31
    go_upto_region 3 with fail
    have hb : Below W.heap.size W (W.alloc (.cells #[] 9)) := (Below.refl _ _).alloc (Nat.le_refl _) _
    have HV0 : Hid (VK StK (W.alloc (.cells #[] 9)) W.heap.size (some ⟨W.heap.size, 0, none⟩) 0 []) := VK.lit (K := StK) W W.heap.size (Nat.le_refl _)
    have HAL := Lib.hid (HH.out.kept hb)
    have hs := hb.size
    have hn2 : 0 + n ≤ 1048576 := by omega
    have HB := Lib.hid hb
    clear hb HH
    go_wp2_with (with_reducible refine wpList_append_allK (K := StK) Try.underlying27 slinfoS rfl (by decide) (by decide) rfl (.tmp 5) (.tmp 6) rfl W.heap.size (some ⟨W.heap.size, 0, none⟩) 0 0 [] rfl rfl HV0.out (some a) n c L rfl HN.out HAL.out hn2 hs ?_; intro Aw cw w4 hv4 hb4)
    go_ret
    exact ⟨⟨Aw, cw, rfl, hv4.out⟩, HB.out.trans hb4.out⟩
end Fa
end Go.Proofs.Ytlcdjbleeanpbaa

namespace Go.Proofs.Ytlcdjbleeanpbaa
open Go.RowKit
namespace Lf
open Mem Lx Bu
set_option maxRecDepth 100000 in
set_option maxHeartbeats 2000000 in
set_option maxRecDepth 100000 in
theorem CloneM_any {W : World} {A : Option Addr} {c : Nat} {L : List Mg} (h : ML W A L) (hl : L.length ≤ 1048576) : Calls Try.prog 32 #[.slice A L.length c] W fun e w' => (∃ A' c', e = .returned (.slice A' L.length c') ∧ M3 w' W.heap.size A' c' L) ∧ Below W.heap.size W w' := by
  have hq := fun (w : World) (a : Option Addr) (n c n' c' : Nat) => Lib.run_eql_slice_nil (P := Try.prog) w 28 _ a n c n' c' Try.underlying28
  cases A with
  | none =>
    obtain rfl : L = [] := List.length_eq_zero_iff.1 (Nat.eq_zero_of_not_pos fun h0 => by
      obtain ⟨b, o, e, _⟩ := h h0
      cases e)
    go_enter Try.func32, Try.ntmps32
    go_wp2_with fail
    go_ret
    exact ⟨⟨none, 0, rfl, VK.nil _ _⟩, Below.refl _ _⟩
  | some a =>
    have HH := Lib.hid h
    generalize hn : L.length = n at *
    have HN := Lib.hid hn
    clear h hn
    go_enter Try.func32, Try.ntmps32
    go_upto_region 3 with fail
    have hb : Below W.heap.size W (W.alloc (.cells #[] 40)) := (Below.refl _ _).alloc (Nat.le_refl _) _
    have HV0 : Hid (M3 (W.alloc (.cells #[] 40)) W.heap.size (some ⟨W.heap.size, 0, none⟩) 0 []) := VK.lit (K := MgK) W W.heap.size (Nat.le_refl _)
    have HAL := Lib.hid (HH.out.kept hb)
    have hs := hb.size
    have hn2 : 0 + n ≤ 1048576 := by omega
    have HB := Lib.hid hb
    clear hb HH
    go_wp2_with (with_reducible refine wpList_append_allK (K := MgK) Try.underlying28 mginfo rfl (by decide) (by decide) rfl (.tmp 5) (.tmp 6) rfl W.heap.size (some ⟨W.heap.size, 0, none⟩) 0 0 [] rfl rfl HV0.out (some a) n c L rfl HN.out HAL.out hn2 hs ?_; intro Aw cw w4 hv4 hb4)
    go_ret
    exact ⟨⟨Aw, cw, rfl, hv4.out⟩, HB.out.trans hb4.out⟩
end Lf
end Go.Proofs.Ytlcdjbleeanpbaa

namespace Go.Proofs.Ytlcdjbleeanpbaa
open Go.RowKit
namespace Lf
open Mem Lx Bu
set_option maxRecDepth 100000 in
set_option maxHeartbeats 2000000 in
set_option maxRecDepth 100000 in
theorem CloneP_any {W : World} {A : Option Addr} {c : Nat} {L : List Pr} (h : PL W A L) (hl : L.length ≤ 1048576) : Calls Try.prog 33 #[.slice A L.length c] W fun e w' => (∃ A' c', e = .returned (.slice A' L.length c') ∧ P3 w' W.heap.size A' c' L) ∧ Below W.heap.size W w' := by
  have hq := fun (w : World) (a : Option Addr) (n c n' c' : Nat) => Lib.run_eql_slice_nil (P := Try.prog) w 29 _ a n c n' c' Try.underlying29
  cases A with
  | none =>
    obtain rfl : L = [] := List.length_eq_zero_iff.1 (Nat.eq_zero_of_not_pos fun h0 => by
      obtain ⟨b, o, e, _⟩ := h h0
      cases e)
    go_enter Try.func33, Try.ntmps33
    go_wp2_with fail
    go_ret
    exact ⟨⟨none, 0, rfl, VK.nil _ _⟩, Below.refl _ _⟩
  | some a =>
    have HH := Lib.hid h
    generalize hn : L.length = n at *
    have HN := Lib.hid hn
    clear h hn
    go_enter Try.func33, Try.ntmps33
    go_upto_region 3 with fail
    have hb : Below W.heap.size W (W.alloc (.cells #[] 42)) := (Below.refl _ _).alloc (Nat.le_refl _) _
    have HV0 : Hid (P3 (W.alloc (.cells #[] 42)) W.heap.size (some ⟨W.heap.size, 0, none⟩) 0 []) := VK.lit (K := PrK) W W.heap.size (Nat.le_refl _)
    have HAL := Lib.hid (HH.out.kept hb)
    have hs := hb.size
    have hn2 : 0 + n ≤ 1048576 := by omega
    have HB := Lib.hid hb
    clear hb HH
    go_wp2_with (with_reducible refine wpList_append_allK (K := PrK) Try.underlying29 prinfo rfl (by decide) (by decide) rfl (.tmp 5) (.tmp 6) rfl W.heap.size (some ⟨W.heap.size, 0, none⟩) 0 0 [] rfl rfl HV0.out (some a) n c L rfl HN.out HAL.out hn2 hs ?_; intro Aw cw w4 hv4 hb4)
    go_ret
    exact ⟨⟨Aw, cw, rfl, hv4.out⟩, HB.out.trans hb4.out⟩
end Lf
end Go.Proofs.Ytlcdjbleeanpbaa

namespace Go.Proofs.Ytlcdjbleeanpbaa
open Go.RowKit
namespace Bu
open Mem Lx
set_option maxRecDepth 100000 in
set_option maxHeartbeats 2000000 in
set_option maxRecDepth 100000 in
theorem Same_any {W : World} {A A' : Option Addr} {c c' : Nat} {L L' : List Mg} (h : ML W A L) (h' : ML W A' L') (hl : L.length ≤ 1048576) (hl' : L'.length ≤ 1048576) : Calls Try.prog 36 #[.slice A L.length c, .slice A' L'.length c'] W fun e w' => (∃ v : Bool, e = .returned (.bool v) ∧ (v = true ↔ L = L')) ∧ Below W.heap.size W w' := by
  have cE := Lib.hid (Equal_any (c := c) (c' := c') h h' hl hl')
  clear h h' hl hl'
  generalize L.length = n at *
  generalize L'.length = n' at *
  go_enter Try.func36, Try.ntmps36
  go_wp2_with (go_at_call 59; refine cE.out.mono ?_; rintro e w' ⟨⟨v, rfl, h1⟩, hb⟩)
  go_ret
  exact ⟨⟨v, rfl, h1⟩, hb⟩
end Bu
end Go.Proofs.Ytlcdjbleeanpbaa

namespace Go.Proofs.Ytlcdjbleeanpbaa
open Go.RowKit
namespace Lf
open Mem Lx Bu
set_option maxRecDepth 100000 in
set_option maxHeartbeats 2000000 in
set_option maxRecDepth 100000 in
theorem Same_any {W : World} {A A' : Option Addr} {c c' : Nat} {L L' : List Pr} (h : PL W A L) (h' : PL W A' L') (hl : L.length ≤ 1048576) (hl' : L'.length ≤ 1048576) : Calls Try.prog 37 #[.slice A L.length c, .slice A' L'.length c'] W fun e w' => (∃ v : Bool, e = .returned (.bool v) ∧ (v = true ↔ L = L')) ∧ Below W.heap.size W w' := by
  have cE := Lib.hid (Equal_any (c := c) (c' := c') h h' hl hl')
  clear h h' hl hl'
  generalize L.length = n at *
  generalize L'.length = n' at *
  go_enter Try.func37, Try.ntmps37
  go_wp2_with (go_at_call 60; refine cE.out.mono ?_; rintro e w' ⟨⟨v, rfl, h1⟩, hb⟩)
  go_ret
  exact ⟨⟨v, rfl, h1⟩, hb⟩
end Lf
end Go.Proofs.Ytlcdjbleeanpbaa
