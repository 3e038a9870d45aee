/-
  Contracts of layer chain: Row.
-/
import Derived.Test.YtjnbdmimflhhiaaChainCalls
namespace Go.Proofs.Ytjnbdmimflhhiaa
open Go.RowKit
namespace Cn
open Mem

theorem intinfo : (Try.prog.info? 3).map (fun i => (i.zero, i.size, i.bytes)) = some (some (.int .i64 0), 1, 8) := by kernel_rfl
theorem linkinfo : (Try.prog.info? 103).map (fun i => (i.zero, i.size, i.bytes)) = some (some (.agg #[.int .i64 0, .int .i64 0]), 2, 16) := by kernel_rfl
/-- a row as ints -/
def rowZ (l : List Nat) : List Int := l.map Int.ofNat
@[simp] theorem rowZ_length (l : List Nat) : (rowZ l).length = l.length := by simp [rowZ]
section
variable {w : World} {g b n : Nat} {l : List Nat}
/-- who is behind: at any place of the row -/
theorem Chn.step {A B : Nat → Nat} (h2 : Ring n A B l) {k : Nat} (hk : k < l.length) : B l[k] = hd (l.drop (k + 1)) n := by
  have e : l = l.take k ++ l[k] :: l.drop (k + 1) := by rw [← List.drop_eq_getElem_cons hk, List.take_append_drop]
  have h3 : Ring n A B (l.take k ++ l[k] :: l.drop (k + 1)) := by rw [← e]; exact h2
  exact h3.next.1
theorem hd_drop {k : Nat} (hk : k < l.length) : hd (l.drop k) n = l[k] := by
  rw [List.drop_eq_getElem_cons hk]; rfl
theorem hd_end {k : Nat} (hk : l.length ≤ k) : hd (l.drop k) n = n := by
  rw [List.drop_of_length_le hk]; rfl
theorem Row_nil (h : Chn w g b n []) : Calls Try.prog 52 #[.pointer (some ⟨g, 0, none⟩)] w fun e w' => (∃ A c, e = .returned (.slice A 0 c) ∧ IO 3 w' w.heap.size A c []) ∧ Below w.heap.size w w' := by
  have HC := Lib.hid h
  have cL := Lib.hid (CLen h)
  have cF : ∀ w, Chn w g b n [] → Hid (Calls Try.prog 85 #[.pointer (some ⟨g, 0, none⟩)] w fun e w' => e = .returned (.tuple #[.int .i64 0, .bool false]) ∧ Below w.heap.size w w') := fun w h => CFirst h
  have hmk := fun w => run_make_room (P := Try.prog) Try.underlying97 intinfo (by omega) 0 (by omega) w
  rw [show (([] : List Nat).length : Int) = 0 from rfl] at cL
  rw [show ((0 : Nat) : Int) = 0 from rfl] at hmk
  clear h
  go_enter Try.func52, Try.ntmps52
  go_wp2_with (first
    | (go_at_call 84; refine cL.out.mono ?_; rintro e w' ⟨rfl, rfl⟩)
    | (go_at_call 85; refine (cF _ (HC.out.kept ((Below.refl _ _).alloc (Nat.le_refl _) _))).out.mono ?_; rintro e w2 ⟨rfl, hb⟩; have HB2 := Lib.hid hb; clear hb))
  go_loopw [3, 4] (fun r _ wr => r = .slice (some ⟨w.heap.size, 0, none⟩) 0 0 ∧ wr = w2) (fun _ _ _ => 0)
  case atStart => exact ⟨rfl, rfl⟩
  case round =>
    obtain ⟨rfl, rfl⟩ := hrel
    go_wp2
    go_ret
    have h1 : Below w.heap.size w (w.alloc (.cells (List.replicate 0 (.int .i64 0)).toArray 3)) := (Below.refl _ _).alloc (Nat.le_refl _) _
    exact ⟨⟨_, _, rfl, (IO.made 3 w w.heap.size 0 (Nat.le_refl _) (by omega)).kept HB2.out⟩, h1.trans (HB2.out.mono h1.size)⟩
set_option maxHeartbeats 2000000 in
theorem Row_cons (h : Chn w g b n l) (h0 : 0 < l.length) : Calls Try.prog 52 #[.pointer (some ⟨g, 0, none⟩)] w fun e w' => (∃ A c, e = .returned (.slice A l.length c) ∧ IO 3 w' w.heap.size A c (rowZ l)) ∧ Below w.heap.size w w' := by
  have HC := Lib.hid h
  have cL := Lib.hid (CLen h)
  have cF : ∀ w, Chn w g b n l → Hid (Calls Try.prog 85 #[.pointer (some ⟨g, 0, none⟩)] w fun e w' => e = .returned (.tuple #[.int .i64 (hd l n : Nat), .bool true]) ∧ Below w.heap.size w w') := fun w h => by
    have := CFirst h
    cases l with
    | nil => cases h0
    | cons y r => exact Lib.hid (by simpa [hd] using this)
  have cE := fun w (h : Chn w g b n l) => Lib.hid (Cend h)
  obtain ⟨-, -, -, -, hn, hle, -, hlt⟩ := h.lt
  have HLT := Lib.hid hlt
  have hmk := fun w => run_make_room (P := Try.prog) Try.underlying97 intinfo (by omega) l.length (by omega) w
  obtain ⟨m, hm⟩ : ∃ m, m = l.length := ⟨_, rfl⟩
  have HM := Lib.hid hm
  rw [← hm] at cL hle ⊢
  rw [← hm] at hmk
  obtain ⟨f, hf⟩ : ∃ f, f = hd l n := ⟨_, rfl⟩
  have HF := Lib.hid hf
  rw [← hf] at cF
  clear hm hf h hlt h0
  go_enter Try.func52, Try.ntmps52
  go_wp2_with (first
    | (go_at_call 84; refine cL.out.mono ?_; rintro e w' ⟨rfl, rfl⟩)
    | (go_at_call 85; refine (cF _ (HC.out.kept ((Below.refl _ _).alloc (Nat.le_refl _) _))).out.mono ?_; rintro e w2 ⟨rfl, hb⟩; have HB2 := Lib.hid hb; clear hb))
  clear cF cL hmk
  go_loopw [3, 4] (fun r i wr => ∃ (k c : Nat) (x : Nat) (A : Option Addr), k ≤ m ∧ r = .slice A k c ∧ i = .int .i64 (x : Int) ∧ Hid (x = hd (l.drop k) n) ∧ Hid (IO 3 wr w.heap.size A c (rowZ (l.take k))) ∧ Hid (Below w.heap.size w wr)) (fun r _ _ => match r with | .slice _ k _ => m - k | _ => 0)
  case atStart =>
    have h1 : Below w.heap.size w (w.alloc (.cells (List.replicate m (.int .i64 0)).toArray 3)) := (Below.refl _ _).alloc (Nat.le_refl _) _
    refine ⟨0, m, f, _, Nat.zero_le _, rfl, rfl, HF, ?_, h1.trans (HB2.out.mono h1.size)⟩
    exact (IO.made 3 w w.heap.size m (Nat.le_refl _) (by omega)).kept HB2.out
  case round =>
    obtain ⟨k, c, x, A, hk, rfl, rfl, HX, HO, HB⟩ := hrel
    have HCr := Lib.hid (HC.out.kept HB.out)
    by_cases hlt : k < m
    · have hkl : k < l.length := by rw [← HM.out]; exact hlt
      have hx : x = l[k] := by rw [HX.out, hd_drop hkl]
      have hxn : x < n := by rw [hx]; exact HLT.out _ (List.getElem_mem _)
      have hne : ((x : Int) != (n : Int)) = true := by simp; omega
      have HT : Hid (rowZ (l.take k) ++ [(x : Int)] = rowZ (l.take (k + 1))) := by
        unfold Hid rowZ
        rw [← List.take_append_getElem hkl, List.map_append, hx]; rfl
      have hln : Hid ((rowZ (l.take k)).length = k) := by unfold Hid; simp; omega
      obtain ⟨c', A', B', h1, h2⟩ := HCr.out
      have e0 := h1.cells.1
      have e1 := h1.lk.cellB (i := x) (by omega)
      have hB := Chn.step h2 hkl
      rw [← hx] at hB
      rw [hB] at e1
      have hL : (x : Int) < (n : Int) + 1 := by omega
      have E0 := Lib.hid e0
      have E1 := Lib.hid e1
      obtain ⟨y, hy⟩ : ∃ y, y = hd (l.drop (k + 1)) n := ⟨_, rfl⟩
      rw [← hy] at E1
      have HY := Lib.hid hy
      have hg := h1.g_lt
      have hb := h1.lk.lt
      clear hx h1 h2 hB e0 e1 hy
      go_wp2_with (first
        | (go_at_call 66; refine (cE _ HCr.out).out.mono ?_; rintro e w' ⟨rfl, rfl⟩)
        | (with_reducible refine wpList_append_ints rfl (.tmp 29) (.tmp 31) _ rfl w.heap.size 3 Try.underlying97 intinfo A k c (rowZ (l.take k)) rfl hln.out (HO.out.alloc _) _ 1 1 [(x : Int)] rfl rfl (IL.one 3 wr x) (by omega) (by have := HB.out.size; simp; omega) w (HB.out.alloc HB.out.size _) ?_; intro A3 c3 w3 hO hB3; have e0 := (Below.cell (hB3.out) (p := ⟨g, 0, none⟩) (HC.out.lt.1)).trans ((Below.cell HB.out (p := ⟨g, 0, none⟩) (HC.out.lt.1)).symm.trans E0.out); have e1 := (Below.cell (hB3.out) (p := ⟨b, x * 2 + 1, none⟩) (HC.out.lt.2.1)).trans ((Below.cell HB.out (p := ⟨b, x * 2 + 1, none⟩) (HC.out.lt.2.1)).symm.trans E1.out)))
      exact ⟨⟨k + 1, c3, y, A3, hlt, rfl, rfl, HY, by rw [← HT.out]; exact hO, hB3⟩, by simp; omega⟩
    · obtain rfl : k = m := by omega
      have hx : x = n := by rw [HX.out]; exact hd_end (Nat.le_of_eq HM.out.symm)
      subst hx
      clear hlt
      go_wp2_with (first
        | (go_at_call 66; refine (cE _ HCr.out).out.mono ?_; rintro e w' ⟨rfl, rfl⟩))
      go_ret
      exact ⟨⟨A, c, rfl, by have := HO.out; rwa [List.take_of_length_le (Nat.le_of_eq HM.out.symm)] at this⟩, HB.out⟩
end
end Cn
end Go.Proofs.Ytjnbdmimflhhiaa
