/-
  The document's settings: Inner, Outer, Right; the page's example. Written by scripts/conf4.py.
-/
import Derived.Test.YteefkhgmcknbaaaConfD2
namespace Go.Proofs.Yteefkhgmcknbaaa
open Go.RowKit
namespace Cf

set_option maxRecDepth 100000 in
set_option maxHeartbeats 2000000 in
theorem RInner_no (b y fr fa bu le ke va : Int) (W : World) (h : ¬ Shape fa bu le ke va) : Calls Try.prog 33 #[.agg #[.int .i64 b, .int .i64 y, .int .i64 fr, .int .i64 fa, .int .i64 bu, .int .i64 le, .int .i64 ke, .int .i64 va]] W fun e w' => e = .returned (.int .i64 0) ∧ Below W.heap.size W w' := by
  have cS := fun W => Lib.hid (Sized_no b y fr fa bu le ke va W h)
  clear h
  go_enter Try.func33, Try.ntmps33
  go_upto_region 1 with fail
  have hx := heap_alloc_new W (.cells #[.int .i64 b, .int .i64 y, .int .i64 fr, .int .i64 fa, .int .i64 bu, .int .i64 le, .int .i64 ke, .int .i64 va] 23)
  have hb1 : Below W.heap.size W (W.alloc (.cells #[.int .i64 b, .int .i64 y, .int .i64 fr, .int .i64 fa, .int .i64 bu, .int .i64 le, .int .i64 ke, .int .i64 va] 23)) := (Below.refl _ _).alloc (Nat.le_refl _) _
  obtain ⟨g, hg⟩ : ∃ g, g = W.heap.size := ⟨_, rfl⟩
  generalize W.alloc (.cells #[.int .i64 b, .int .i64 y, .int .i64 fr, .int .i64 fa, .int .i64 bu, .int .i64 le, .int .i64 ke, .int .i64 va] 23) = w1 at *
  rw [← hg] at hx ⊢
  have HX := Lib.hid hx
  have HB := Lib.hid hb1
  obtain ⟨c0, c1, c2, c3, c4, c5, c6, c7⟩ := box8 hx
  clear hx hb1 hg
  go_wp2_with (go_at_call 31; refine (cS _).out.mono ?_; rintro e w' ⟨rfl, hb⟩; replace HX := Lib.hid (kept8 HX.out hb); replace HB := Lib.hid (bel2 HB.out hb); clear hb)
  go_ret
  exact ⟨rfl, HB.out⟩
set_option maxRecDepth 100000 in
set_option maxHeartbeats 2000000 in
theorem ROuter_no (b y fr fa bu le ke va : Int) (W : World) (h : ¬ Shape fa bu le ke va) : Calls Try.prog 34 #[.agg #[.int .i64 b, .int .i64 y, .int .i64 fr, .int .i64 fa, .int .i64 bu, .int .i64 le, .int .i64 ke, .int .i64 va]] W fun e w' => e = .returned (.int .i64 0) ∧ Below W.heap.size W w' := by
  have cS := fun W => Lib.hid (Sized_no b y fr fa bu le ke va W h)
  clear h
  go_enter Try.func34, Try.ntmps34
  go_upto_region 1 with fail
  have hx := heap_alloc_new W (.cells #[.int .i64 b, .int .i64 y, .int .i64 fr, .int .i64 fa, .int .i64 bu, .int .i64 le, .int .i64 ke, .int .i64 va] 23)
  have hb1 : Below W.heap.size W (W.alloc (.cells #[.int .i64 b, .int .i64 y, .int .i64 fr, .int .i64 fa, .int .i64 bu, .int .i64 le, .int .i64 ke, .int .i64 va] 23)) := (Below.refl _ _).alloc (Nat.le_refl _) _
  obtain ⟨g, hg⟩ : ∃ g, g = W.heap.size := ⟨_, rfl⟩
  generalize W.alloc (.cells #[.int .i64 b, .int .i64 y, .int .i64 fr, .int .i64 fa, .int .i64 bu, .int .i64 le, .int .i64 ke, .int .i64 va] 23) = w1 at *
  rw [← hg] at hx ⊢
  have HX := Lib.hid hx
  have HB := Lib.hid hb1
  obtain ⟨c0, c1, c2, c3, c4, c5, c6, c7⟩ := box8 hx
  clear hx hb1 hg
  go_wp2_with (go_at_call 31; refine (cS _).out.mono ?_; rintro e w' ⟨rfl, hb⟩; replace HX := Lib.hid (kept8 HX.out hb); replace HB := Lib.hid (bel2 HB.out hb); clear hb)
  go_ret
  exact ⟨rfl, HB.out⟩
/-- what a loop over pairs, messages or kids has counted -/
def runs (a s : Int) (k : Nat) : Int := a + (k : Int) * s
theorem runs_next (a s : Int) (k : Nat) : runs a s (k + 1) = runs a s k + s := by
  unfold runs
  rw [Int.natCast_add, Int.add_mul]
  simp
  omega
theorem runs_in {a s S A : Int} {k n : Nat} (h0 : 0 ≤ a) (h1 : a ≤ A) (h2 : 0 ≤ s) (h3 : s ≤ S) (hk : k ≤ n) : 0 ≤ runs a s k ∧ runs a s k ≤ A + (n : Int) * S := by
  obtain ⟨p0, p1⟩ := mul_in (a := (k : Int)) (c := s) (A := (n : Int)) (C := S) (by omega) (by omega) h2 h3
  unfold runs
  omega
/-- the kids' part: four each, and a pivot's slot but for the first -/
def kids (ke : Int) (k : Nat) : Int := 8 + 4 * (k : Int) + ((k - 1 : Nat) : Int) * (1 + ke)
theorem kids_next (ke : Int) (k : Nat) : kids ke (k + 1) = kids ke k + 4 + (if k = 0 then 0 else 1 + ke) := by
  unfold kids
  by_cases h : k = 0
  · subst h
    simp
  · obtain ⟨j, rfl⟩ : ∃ j, k = j + 1 := ⟨k - 1, by omega⟩
    rw [if_neg h]
    have e1 : j + 1 + 1 - 1 = j + 1 := rfl
    have e2 : j + 1 - 1 = j := rfl
    rw [e1, e2]
    have e3 : ((j + 1 : Nat) : Int) * (1 + ke) = (j : Int) * (1 + ke) + (1 + ke) := by rw [Int.natCast_add, Int.add_mul]; simp
    rw [e3]
    omega
theorem kids_in {ke : Int} {k : Nat} (h1 : 1 ≤ ke) (h2 : ke ≤ 64) (hk : k ≤ 64) : 0 ≤ kids ke k ∧ kids ke k ≤ 5000 := by
  obtain ⟨p0, p1⟩ := mul_in (a := ((k - 1 : Nat) : Int)) (c := 1 + ke) (A := 64) (C := 65) (by omega) (by omega) (by omega) (by omega)
  unfold kids
  omega
set_option maxRecDepth 100000 in
set_option maxHeartbeats 2000000 in
theorem ROuter_yes (b y fr fa bu le ke va : Int) (W : World) (h : Shape fa bu le ke va) : Calls Try.prog 34 #[.agg #[.int .i64 b, .int .i64 y, .int .i64 fr, .int .i64 fa, .int .i64 bu, .int .i64 le, .int .i64 ke, .int .i64 va]] W fun e w' => e = .returned (.int .i64 (out le ke va)) ∧ Below W.heap.size W w' := by
  have cS := fun W => Lib.hid (Sized_yes b y fr fa bu le ke va W h)
  obtain ⟨⟨h1, h1'⟩, ⟨h2, h2'⟩, ⟨h3, h3'⟩, ⟨h4, h4'⟩, h5, h5'⟩ := h
  obtain ⟨n, rfl⟩ : ∃ n : Nat, le = n := ⟨le.toNat, by omega⟩
  have HO : Hid (out n ke va = runs 8 (3 + ke + va) n) := rfl
  have HS : Hid (∀ k, runs 8 (3 + ke + va) (k + 1) = runs 8 (3 + ke + va) k + (3 + ke + va)) := runs_next _ _
  have HI : Hid (∀ k, k ≤ n → 0 ≤ runs 8 (3 + ke + va) k ∧ runs 8 (3 + ke + va) k ≤ 400000) := fun k hk => by
    obtain ⟨i0, i1⟩ := runs_in (a := 8) (s := 3 + ke + va) (S := 323) (A := 8) (k := k) (n := n) (by omega) (by omega) (by omega) (by omega) hk
    omega
  have HZ : Hid (runs 8 (3 + ke + va) 0 = 8) := by unfold Hid runs; simp
  obtain ⟨S, hS⟩ : ∃ S, S = runs 8 (3 + ke + va) := ⟨_, rfl⟩
  rw [← hS] at HO HS HI HZ
  clear hS
  go_enter Try.func34, Try.ntmps34
  go_upto_region 1 with fail
  have hx := heap_alloc_new W (.cells #[.int .i64 b, .int .i64 y, .int .i64 fr, .int .i64 fa, .int .i64 bu, .int .i64 (n : Int), .int .i64 ke, .int .i64 va] 23)
  have hb1 : Below W.heap.size W (W.alloc (.cells #[.int .i64 b, .int .i64 y, .int .i64 fr, .int .i64 fa, .int .i64 bu, .int .i64 (n : Int), .int .i64 ke, .int .i64 va] 23)) := (Below.refl _ _).alloc (Nat.le_refl _) _
  obtain ⟨g, hg⟩ : ∃ g, g = W.heap.size := ⟨_, rfl⟩
  generalize W.alloc (.cells #[.int .i64 b, .int .i64 y, .int .i64 fr, .int .i64 fa, .int .i64 bu, .int .i64 (n : Int), .int .i64 ke, .int .i64 va] 23) = w1 at *
  rw [← hg] at hx ⊢
  have HX := Lib.hid hx
  have HB := Lib.hid hb1
  obtain ⟨c0, c1, c2, c3, c4, c5, c6, c7⟩ := box8 hx
  clear hx hb1 hg
  go_upto_region 3 with (go_at_call 31; refine (cS _).out.mono ?_; rintro e w2 ⟨rfl, hb⟩; replace HX := Lib.hid (kept8 HX.out hb); replace HB := Lib.hid (bel2 HB.out hb); clear hb)
  clear c0 c1 c2 c3 c4 c5 c6 c7 cS
  obtain ⟨c0, c1, c2, c3, c4, c5, c6, c7⟩ := box8 HX.out
  go_wp2_with fail
  go_loopg [3, 4] n (fun gk nv iv wr => ∃ k : Nat, k ≤ n ∧ gk = n - k ∧ nv = .int .i64 (S k) ∧ iv = .int .i64 (k : Int) ∧ wr = w2)
  case atStart => exact ⟨0, Nat.zero_le _, rfl, by rw [HZ.out], rfl, rfl⟩
  case round =>
    obtain ⟨k, hk, rfl, rfl, rfl, rfl⟩ := hrel
    obtain ⟨i0, i1⟩ := HI.out k hk
    by_cases hlt : k < n
    · obtain ⟨j0, j1⟩ := HI.out (k + 1) hlt
      have hs := HS.out k
      have HN : Hid (S (k + 1) = S k + 3 + ke + va) := by unfold Hid; omega
      rw [hs] at j0 j1
      have hwk : IntKind.i64.wrap ((k : Int) + 1) = ((k + 1 : Nat) : Int) := by rw [IntKind.wrap_i64]; omega
      clear hs
      generalize S k = x at *
      go_wp2_with fail
      go_roundg (n - (k + 1))
      case measure => omega
      case rel => exact ⟨k + 1, hlt, rfl, by rw [HN.out], by go_num, rfl⟩
    · obtain rfl : k = n := by omega
      clear hlt
      go_wp2_with fail
      go_ret
      exact ⟨by rw [HO.out]; rfl, HB.out⟩
set_option maxRecDepth 100000 in
set_option maxHeartbeats 2000000 in
theorem RInner_yes (b y fr fa bu le ke va : Int) (W : World) (h : Shape fa bu le ke va) : Calls Try.prog 33 #[.agg #[.int .i64 b, .int .i64 y, .int .i64 fr, .int .i64 fa, .int .i64 bu, .int .i64 le, .int .i64 ke, .int .i64 va]] W fun e w' => e = .returned (.int .i64 (inn fa bu ke va)) ∧ Below W.heap.size W w' := by
  have cS := fun W => Lib.hid (Sized_yes b y fr fa bu le ke va W h)
  obtain ⟨⟨h1, h1'⟩, ⟨h2, h2'⟩, ⟨h3, h3'⟩, ⟨h4, h4'⟩, h5, h5'⟩ := h
  obtain ⟨n, rfl⟩ : ∃ n : Nat, fa = n := ⟨fa.toNat, by omega⟩
  obtain ⟨m, rfl⟩ : ∃ m : Nat, bu = m := ⟨bu.toNat, by omega⟩
  have hn64 : n ≤ 64 := by omega
  have hm512 : m ≤ 512 := by omega
  have HO : Hid (inn n m ke va = runs (kids ke n) (4 + ke + va) m) := by
    unfold Hid inn runs kids
    have : ((n - 1 : Nat) : Int) = (n : Int) - 1 := by omega
    rw [this]
  have HK : Hid (∀ k, kids ke (k + 1) = kids ke k + 4 + (if k = 0 then 0 else 1 + ke)) := kids_next ke
  have HKI : Hid (∀ k, k ≤ n → 0 ≤ kids ke k ∧ kids ke k ≤ 5000) := fun k hk => kids_in (by omega) (by omega) (by omega)
  have HKZ : Hid (kids ke 0 = 8) := by unfold Hid kids; simp
  have HS : Hid (∀ k, runs (kids ke n) (4 + ke + va) (k + 1) = runs (kids ke n) (4 + ke + va) k + (4 + ke + va)) := runs_next _ _
  have HI : Hid (∀ k, k ≤ m → 0 ≤ runs (kids ke n) (4 + ke + va) k ∧ runs (kids ke n) (4 + ke + va) k ≤ 400000) := fun k hk => by
    obtain ⟨q0, q1⟩ := HKI.out n (Nat.le_refl _)
    obtain ⟨i0, i1⟩ := runs_in (a := kids ke n) (s := 4 + ke + va) (S := 324) (A := 5000) (k := k) (n := m) q0 q1 (by omega) (by omega) hk
    omega
  have HZ : Hid (runs (kids ke n) (4 + ke + va) 0 = kids ke n) := by unfold Hid runs; simp
  obtain ⟨S, hS⟩ : ∃ S, S = runs (kids ke n) (4 + ke + va) := ⟨_, rfl⟩
  rw [← hS] at HO HS HI HZ
  obtain ⟨T, hT⟩ : ∃ T, T = kids ke := ⟨_, rfl⟩
  rw [← hT] at HK HKI HKZ HZ
  clear hS hT
  go_enter Try.func33, Try.ntmps33
  go_upto_region 1 with fail
  have hx := heap_alloc_new W (.cells #[.int .i64 b, .int .i64 y, .int .i64 fr, .int .i64 (n : Int), .int .i64 (m : Int), .int .i64 le, .int .i64 ke, .int .i64 va] 23)
  have hb1 : Below W.heap.size W (W.alloc (.cells #[.int .i64 b, .int .i64 y, .int .i64 fr, .int .i64 (n : Int), .int .i64 (m : Int), .int .i64 le, .int .i64 ke, .int .i64 va] 23)) := (Below.refl _ _).alloc (Nat.le_refl _) _
  obtain ⟨g, hg⟩ : ∃ g, g = W.heap.size := ⟨_, rfl⟩
  generalize W.alloc (.cells #[.int .i64 b, .int .i64 y, .int .i64 fr, .int .i64 (n : Int), .int .i64 (m : Int), .int .i64 le, .int .i64 ke, .int .i64 va] 23) = w1 at *
  rw [← hg] at hx ⊢
  have HX := Lib.hid hx
  have HB := Lib.hid hb1
  obtain ⟨c0, c1, c2, c3, c4, c5, c6, c7⟩ := box8 hx
  clear hx hb1 hg
  go_upto_region 3 with (go_at_call 31; refine (cS _).out.mono ?_; rintro e w2 ⟨rfl, hb⟩; replace HX := Lib.hid (kept8 HX.out hb); replace HB := Lib.hid (bel2 HB.out hb); clear hb)
  clear c0 c1 c2 c3 c4 c5 c6 c7 cS
  obtain ⟨c0, c1, c2, c3, c4, c5, c6, c7⟩ := box8 HX.out
  go_wp2_with fail
  go_loopg [3, 4] n (fun gk nv iv wr => ∃ k : Nat, k ≤ n ∧ gk = n - k ∧ nv = .int .i64 (T k) ∧ iv = .int .i64 (k : Int) ∧ wr = w2)
  case atStart => exact ⟨0, Nat.zero_le _, rfl, by rw [HKZ.out], rfl, rfl⟩
  case round =>
    obtain ⟨k, hk, rfl, rfl, rfl, rfl⟩ := hrel
    obtain ⟨i0, i1⟩ := HKI.out k hk
    by_cases hlt : k < n
    · have hs := HK.out k
      have hwk : IntKind.i64.wrap ((k : Int) + 1) = ((k + 1 : Nat) : Int) := by rw [IntKind.wrap_i64]; omega
      by_cases hk0 : k = 0
      · subst hk0
        rw [if_pos rfl] at hs
        have HN : Hid (T (0 + 1) = T 0 + 4) := by unfold Hid; omega
        have hd : decide ((0 : Int) < ((0 : Nat) : Int)) = false := by simp
        clear hs
        generalize T 0 = x at *
        go_wp2_with fail
        go_roundg (n - (0 + 1))
        case measure => omega
        case rel => exact ⟨0 + 1, hlt, rfl, by rw [HN.out], by go_num, rfl⟩
      · rw [if_neg hk0] at hs
        have HN : Hid (T (k + 1) = T k + 4 + 1 + ke) := by unfold Hid; omega
        have hpos : 0 < k := by omega
        clear hs
        generalize T k = x at *
        go_wp2_with fail
        go_roundg (n - (k + 1))
        case measure => omega
        case rel => exact ⟨k + 1, hlt, rfl, by rw [HN.out], by go_num, rfl⟩
    · obtain rfl : k = n := by omega
      clear hlt i0 i1
      rw [← HZ.out]
      clear HK HKI HKZ HZ
      go_wp2_with fail
      go_loopg [3, 5] m (fun gk nv iv wr2 => ∃ k : Nat, k ≤ m ∧ gk = m - k ∧ nv = .int .i64 (S k) ∧ iv = .int .i64 (k : Int) ∧ wr2 = wr)
      case atStart => exact ⟨0, Nat.zero_le _, rfl, rfl, rfl, rfl⟩
      case round =>
        obtain ⟨k2, hk2, rfl, rfl, rfl, rfl⟩ := hrel
        obtain ⟨i0, i1⟩ := HI.out k2 hk2
        by_cases hlt : k2 < m
        · obtain ⟨j0, j1⟩ := HI.out (k2 + 1) hlt
          have hs := HS.out k2
          have HN : Hid (S (k2 + 1) = S k2 + 4 + ke + va) := by unfold Hid; omega
          rw [hs] at j0 j1
          have hwk : IntKind.i64.wrap ((k2 : Int) + 1) = ((k2 + 1 : Nat) : Int) := by rw [IntKind.wrap_i64]; omega
          clear hs
          generalize S k2 = x at *
          go_wp2_with fail
          go_roundg (m - (k2 + 1))
          case measure => omega
          case rel => exact ⟨k2 + 1, hlt, rfl, by rw [HN.out], by go_num, rfl⟩
        · obtain rfl : k2 = m := by omega
          clear hlt
          go_wp2_with fail
          go_ret
          exact ⟨by rw [HO.out]; rfl, HB.out⟩
end Cf
end Go.Proofs.Yteefkhgmcknbaaa
