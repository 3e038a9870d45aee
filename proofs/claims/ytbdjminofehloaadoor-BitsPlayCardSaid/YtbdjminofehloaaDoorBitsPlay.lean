/-
  BitsPlay, walked.
-/
import Derived.Test.YtbdjminofehloaaDoorBitsPair
namespace Go.Proofs.YtbdjminofehloaaDoor
open Go.RowKit
namespace Bt
open Mem

/-- what a pair of like rows tells -/
theorem Pl.tells {W w : World} {g b h c n : Nat} {t : List Bool} (H : Pl W w g b h c n t t) (hT : Tab W) (ask : Int) (hask : ask ≤ 9223372036854775807) : ∃ (vA vC vM : Int) (vX vU vV : Bool),
    (Calls Tryd.prog 15 #[.pointer (some ⟨g, 0, none⟩), .int .i64 ask] w fun e w' => e = .returned (.tuple #[.int .i64 vA, .bool vX]) ∧ w = w') ∧
    (Calls Tryd.prog 16 #[.slice (some ⟨h, 0, none⟩) n c, .int .i64 ask, .bool false] w fun e w' => e = .returned (.tuple #[.int .i64 vA, .bool vX]) ∧ w = w') ∧
    (Calls Tryd.prog 17 #[.pointer (some ⟨g, 0, none⟩), .int .i64 ask] w fun e w' => e = .returned (.tuple #[.int .i64 vC, .bool vU]) ∧ w = w') ∧
    (Calls Tryd.prog 16 #[.slice (some ⟨h, 0, none⟩) n c, .int .i64 ask, .bool true] w fun e w' => e = .returned (.tuple #[.int .i64 vC, .bool vU]) ∧ w = w') ∧
    (Calls Tryd.prog 7 #[.pointer (some ⟨g, 0, none⟩)] w fun e w' => e = .returned (.int .i64 (n : Int)) ∧ w = w') ∧
    (Calls Tryd.prog 8 #[.pointer (some ⟨g, 0, none⟩)] w fun e w' => e = .returned (.int .i64 vM) ∧ w = w') ∧
    (Calls Tryd.prog 18 #[.slice (some ⟨h, 0, none⟩) n c] w fun e w' => e = .returned (.int .i64 vM) ∧ w = w') ∧
    (Calls Tryd.prog 19 #[.pointer (some ⟨g, 0, none⟩), .int .i64 ask] w fun e w' => e = .returned (.bool vV) ∧ Pl W w' g b h c n t t) ∧
    (∀ w1, Pl W w1 g b h c n t t → Calls Tryd.prog 20 #[.slice (some ⟨h, 0, none⟩) n c, .int .i64 ask] w1 fun e w' => e = .returned (.bool vV) ∧ w1 = w') := by
  have hl := H.bo.len
  refine ⟨_, _, _, _, _, _, H.rw.Free ask hask, RFirst_any h c n t ask false w H.bo H.hn, H.rw.Next ask hask, RFirst_any h c n t ask true w H.bo H.hn, ?_, Count_any g b t w H.rw.row, RCount_any h c n t w H.bo H.hn, H.Has hT ask, fun w1 H1 => RHas_any h c n t ask w1 H1.bo H1.hn⟩
  have := Len_any g b t w H.rw.row
  rw [hl] at this
  exact this

/-- a slice of calls: kind and place -/
def ActL (w : World) (p : Option Addr) (l : List (Int × Int)) : Prop :=
  0 < l.length → ∃ b o, p = some ⟨b, o, none⟩ ∧ ∀ i (h : i < l.length), w.cell? ⟨b, o + i * 2, none⟩ = some (.int .i64 l[i].1) ∧ w.cell? ⟨b, o + i * 2 + 1, none⟩ = some (.int .i64 l[i].2)
theorem ActL.at_ {w : World} {p : Option Addr} {l : List (Int × Int)} (h : ActL w p l) {i : Nat} (hi : i < l.length) : ∃ b o, p = some ⟨b, o, none⟩ ∧ w.cell? ⟨b, o + i * 2, none⟩ = some (.int .i64 l[i].1) ∧ w.cell? ⟨b, o + i * 2 + 1, none⟩ = some (.int .i64 l[i].2) := by
  obtain ⟨b, o, e, hc⟩ := h (by omega)
  exact ⟨b, o, e, hc i hi⟩
theorem cell_after {W w' : World} (hb : Below W.heap.size W w') {a : Addr} {v : Value} (h : W.cell? a = some v) : w'.cell? a = some v := (hb.cell (Flow.lt_of_cell h)).trans h

set_option maxHeartbeats 4000000 in
set_option maxRecDepth 100000 in
theorem BitsPlay_out (n : Int) (v : Value) (ask : Int) (w : World) (hT : Tab w) (h : ¬ (1 ≤ n ∧ n ≤ 65536)) :
    Calls Tryd.prog 3 #[.int .i64 n, v, .int .i64 ask] w fun e w' => e = .returned (.bool true) ∧ Below w.heap.size w w' := by
  have cA := fun w hT => Lib.hid (awake_any w hT)
  have cN := fun w => Lib.hid (New_out n w h)
  have HT := Lib.hid hT
  by_cases h0 : n < 1
  · clear h hT
    go_enter Tryd.func3, Tryd.ntmps3
    go_wp2_with (first | (go_at_call 5; refine (cN _).out.mono ?_; rintro e w1 ⟨rfl, rfl⟩) | (go_at_call 6; refine (cA _ HT.out).out.mono ?_; rintro e w' ⟨rfl, hb⟩; have HB := Lib.hid hb; clear hb))
    go_ret
    exact ⟨rfl, HB.out⟩
  · have h1 : 65536 < n := by omega
    clear h hT
    go_enter Tryd.func3, Tryd.ntmps3
    go_wp2_with (first | (go_at_call 5; refine (cN _).out.mono ?_; rintro e w1 ⟨rfl, rfl⟩) | (go_at_call 6; refine (cA _ HT.out).out.mono ?_; rintro e w' ⟨rfl, hb⟩; have HB := Lib.hid hb; clear hb))
    go_ret
    exact ⟨rfl, HB.out⟩
set_option maxHeartbeats 4000000 in
set_option maxRecDepth 100000 in
theorem BitsPlay_great (n : Nat) (v : Value) (ask : Int) (w : World) (hT : Tab w) (h1 : n ≤ 65536) (h2 : 300 < n) :
    Calls Tryd.prog 3 #[.int .i64 (n : Int), v, .int .i64 ask] w fun e w' => e = .returned (.bool true) ∧ Below w.heap.size w w' := by
  have cA := fun w hT => Lib.hid (awake_any w hT)
  have cN := Lib.hid (New_rw w w hT (Below.refl _ _) n (by omega) h1)
  have cL : ∀ g b w1, Rw w w1 g b (List.replicate n false) → Hid (Calls Tryd.prog 7 #[.pointer (some ⟨g, 0, none⟩)] w1 fun e w' => e = .returned (.int .i64 (n : Int)) ∧ w1 = w') := fun g b w1 h => by
    have := Len_any g b _ w1 h.row
    rw [List.length_replicate] at this
    exact this
  have cC : ∀ g b w1, Rw w w1 g b (List.replicate n false) → Hid (Calls Tryd.prog 8 #[.pointer (some ⟨g, 0, none⟩)] w1 fun e w' => e = .returned (.int .i64 0) ∧ w1 = w') := fun g b w1 h => by
    have := Count_any g b _ w1 h.row
    rw [cnt_free] at this
    exact this
  clear hT
  generalize List.replicate n false = t at *
  go_enter Tryd.func3, Tryd.ntmps3
  go_wp2_with (first
    | (go_at_call 5; refine cN.out.mono ?_; rintro e w1 ⟨g, b, rfl, hr, -⟩; have HR := Lib.hid hr; clear hr)
    | (go_at_call 7; refine (cL g b _ HR.out).out.mono ?_; rintro e w' ⟨rfl, rfl⟩)
    | (go_at_call 8; refine (cC g b _ HR.out).out.mono ?_; rintro e w' ⟨rfl, rfl⟩)
    | (go_at_call 6; refine (cA _ HR.out.tab).out.mono ?_; rintro e w' ⟨rfl, hb⟩; have HB := Lib.hid hb; clear hb))
  go_ret
  exact ⟨rfl, HR.out.bel.trans (HB.out.mono HR.out.bel.size)⟩

end Bt
end Go.Proofs.YtbdjminofehloaaDoor
