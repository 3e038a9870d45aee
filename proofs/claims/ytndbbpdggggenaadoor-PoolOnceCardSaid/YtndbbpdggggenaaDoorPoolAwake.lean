/-
  The law's awake.
-/
import Derived.Test.YtndbbpdggggenaaDoorPoolRef2
import Derived.Test.YtndbbpdggggenaaDoorBitsTab
namespace Go.Proofs.YtndbbpdggggenaaDoor
open Go.RowKit
namespace Po
open Mem Bt

def tA : List Bool := [true, true, false, false, false]
def tB : List Bool := [true, true, true, false, false]
def tC : List Bool := [true, false, true, false, false]
def tD : List Bool := [true, true, true, true, false]
theorem awA {t : List Bool} {x : Nat} (h : Got (tbN 5) 1 t [x]) : t = tA ∧ x = 1 := by
  obtain ⟨h1, h2⟩ := h.one (t' := tA) (l' := [1]) ⟨2, by decide, by decide, by decide, rfl⟩
  exact ⟨h1, by simpa using h2⟩
theorem awB {t : List Bool} {x : Nat} (h : Got tA 1 t [x]) : t = tB ∧ x = 2 := by
  obtain ⟨h1, h2⟩ := h.one (t' := tB) (l' := [2]) ⟨3, by decide, by decide, by decide, rfl⟩
  exact ⟨h1, by simpa using h2⟩
theorem awC : gvE tB 1 = 0 ∧ gvT tB 1 = tC := by decide +kernel
theorem awD {t : List Bool} {l : List Nat} (h : Got tC 2 t l) : t = tD ∧ l = [1, 3] := h.one ⟨4, by decide, by decide, by decide, rfl⟩
theorem awE : free (tbN 5) = 4 ∧ free tA = 3 ∧ free tC = 3 ∧ free tD = 1 := by decide +kernel

set_option maxHeartbeats 2000000 in
theorem awake_any (w : World) (hT : Tab w) : Calls Tryd.prog 7 #[] w fun e w' => e = .returned (.bool true) ∧ Below w.heap.size w w' := by
  obtain ⟨e0, eA, eC, eD⟩ := awE
  have cN : Hid (Calls Tryd.prog 6 #[.int .i64 5] w fun e w' => ∃ q g b, e = .returned (.tuple #[.pointer (some ⟨q, 0, none⟩), .int .i64 0]) ∧ Pw w w' q g b (tbN 5)) := New_in w w hT (Below.refl _ _) 5 (by omega) (by omega)
  have c1 : ∀ w1 q g b, Pw w w1 q g b (tbN 5) → Hid (Calls Tryd.prog 12 #[.pointer (some ⟨q, 0, none⟩)] w1 fun e w' => e = .returned (.tuple #[.int .u32 1, .int .i64 0]) ∧ Pw w w' q g b tA) := fun w1 q g b h =>
    (Take_ok h hT (by omega)).mono fun e w' ⟨t, x, he, hg, hp, _⟩ => by
      obtain ⟨rfl, rfl⟩ := awA hg
      exact ⟨he, hp⟩
  have c2 : ∀ w1 q g b, Pw w w1 q g b tA → Hid (Calls Tryd.prog 12 #[.pointer (some ⟨q, 0, none⟩)] w1 fun e w' => e = .returned (.tuple #[.int .u32 2, .int .i64 0]) ∧ Pw w w' q g b tB) := fun w1 q g b h =>
    (Take_ok h hT (by omega)).mono fun e w' ⟨t, x, he, hg, hp, _⟩ => by
      obtain ⟨rfl, rfl⟩ := awB hg
      exact ⟨he, hp⟩
  have c3 : ∀ w1 q g b, Pw w w1 q g b tB → Hid (Calls Tryd.prog 18 #[.pointer (some ⟨q, 0, none⟩), .int .u32 1] w1 fun e w' => e = .returned (.int .i64 0) ∧ Pw w w' q g b tC) := fun w1 q g b h => by
    have := Give_any h hT 1 (by omega)
    rw [awC.1, awC.2] at this
    exact this.mono fun e w' ⟨he, hp, _⟩ => ⟨he, hp⟩
  have c4 : ∀ w1 q g b, Pw w w1 q g b tC → Hid (Calls Tryd.prog 13 #[.pointer (some ⟨q, 0, none⟩), .int .i64 2] w1 fun e w' => ∃ c, e = .returned (.tuple #[.slice (some ⟨c, 0, none⟩) 2 2, .int .i64 0]) ∧ UL w' (some ⟨c, 0, none⟩) [1, 3] ∧ Pw w w' q g b tD) := fun w1 q g b h =>
    (Grab_ok h hT 2 (by omega)).mono fun e w' ⟨c, t, l, he, hg, hp, ho, _, _⟩ => by
      obtain ⟨rfl, rfl⟩ := awD hg
      exact ⟨c, he, UL.of_ow ho, hp⟩
  have c5 : ∀ w1 q g b, Pw w w1 q g b tD → Hid (Calls Tryd.prog 13 #[.pointer (some ⟨q, 0, none⟩), .int .i64 2] w1 fun e w' => e = .returned (.tuple #[.slice none 0 0, .int .i64 11]) ∧ w1 = w') := fun w1 q g b h =>
    Grab_full h 2 (by omega) (by omega)
  have c6 : ∀ w1 q g b, Pw w w1 q g b tD → Hid (Calls Tryd.prog 8 #[.pointer (some ⟨q, 0, none⟩)] w1 fun e w' => e = .returned (.int .i64 1) ∧ w1 = w') := fun w1 q g b h => by
    have := Free_any h
    rw [eD] at this
    exact this
  have hlit : ∀ w1 : World, Hid (UL (w1.alloc (.cells #[.int .u32 1, .int .u32 3] 23)) (some ⟨w1.heap.size, 0, none⟩) [1, 3] ∧ Below w1.heap.size w1 (w1.alloc (.cells #[.int .u32 1, .int .u32 3] 23))) := fun w1 => by
    refine ⟨fun _ => ⟨w1.heap.size, rfl, by simp, fun i hi => ?_⟩, (Below.refl _ _).alloc (Nat.le_refl _) _⟩
    have hi' : i < 2 := by simpa using hi
    rcases i with _ | _ | i
    · simp
    · simp
    · omega
  have cS : ∀ w1 A A', UL w1 A [1, 3] → UL w1 A' [1, 3] → Hid (Calls Tryd.prog 14 #[.slice A 2 2, .slice A' 2 2] w1 fun e w' => e = .returned (.bool true) ∧ Below w1.heap.size w1 w') := fun w1 A A' h h' => by
    have := Same_any A A' 2 2 2 2 [1, 3] [1, 3] w1 h h' rfl rfl (by omega) (by omega)
    unfold Hid
    simpa using this
  have HT := Lib.hid hT
  clear hT e0 eA eC eD
  generalize tbN 5 = t0 at *
  generalize tA = t1 at *
  generalize tB = t2 at *
  generalize tC = t3 at *
  generalize tD = t4 at *
  go_enter Tryd.func7, Tryd.ntmps7
  go_upto_region 5 with (first
    | (go_at_call 6; refine cN.out.mono ?_; rintro e w1 ⟨q, g, b, rfl, hp⟩; have HP1 := Lib.hid hp; clear hp)
    | (go_at_call 12; refine (c1 _ _ _ _ HP1.out).out.mono ?_; rintro e w2 ⟨rfl, hp⟩; have HP2 := Lib.hid hp; clear hp c1))
  go_wp2_with (first
    | (go_at_call 12; refine (c2 _ _ _ _ HP2.out).out.mono ?_; rintro e w3 ⟨rfl, hp⟩; have HP3 := Lib.hid hp; clear hp c2)
    | (go_at_call 18; refine (c3 _ _ _ _ HP3.out).out.mono ?_; rintro e w4 ⟨rfl, hp⟩; have HP4 := Lib.hid hp; clear hp c3)
    | (go_at_call 13; refine (c4 _ _ _ _ HP4.out).out.mono ?_; rintro e w5 ⟨c, rfl, hu, hp⟩; have HP5 := Lib.hid hp; have HU5 := Lib.hid hu; clear hp hu c4 HP4)
    | (go_at_call 13; refine (c5 _ _ _ _ HP5.out).out.mono ?_; rintro e w' ⟨rfl, rfl⟩; clear c5)
    | (go_at_call 14; refine (cS _ _ _ (HU5.out.kept (hlit _).out.2) (hlit _).out.1).out.mono ?_; rintro e w6 ⟨rfl, hb⟩; have HP6 := Lib.hid ((HP5.out.kept HT.out (hlit _).out.2).kept HT.out hb); clear hb)
    | (go_at_call 8; refine (c6 _ _ _ _ HP6.out).out.mono ?_; rintro e w' ⟨rfl, rfl⟩))
  go_ret
  exact ⟨rfl, HP6.out.rw.bel⟩
end Po
end Go.Proofs.YtndbbpdggggenaaDoor
