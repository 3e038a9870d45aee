/-
  Read and Write of both devices, whatever is asked.
-/
import Derived.Test.YtlkakknelkeegaaDevActs
namespace Go.Proofs.Ytlkakknelkeegaa
open Go.RowKit
namespace Dv
open Mem

def rdX (ls : List (List UInt8)) (i : Nat) : List UInt8 := (ls[i]?).getD []
def rdE (ls : List (List UInt8)) (i : Nat) : Int := if i < ls.length then 0 else 4
def rdS (ls : List (List UInt8)) (i r : Nat) : Nat := if i < ls.length then r + 1 else r
theorem rdS_le (ls : List (List UInt8)) (i r : Nat) : rdS ls i r ≤ r + 1 := by unfold rdS; split <;> omega
/-- what a Read leaves -/
def Gt (W w w' : World) (S : List Nat) (g m : Nat) (ls : List (List UInt8)) (r s i : Nat) (e : Ending) : Prop := ∃ A k, e = .returned (.tuple #[.slice A (rdX ls i).length k, .int .i64 (rdE ls i)]) ∧ BL w' A (rdX ls i) ∧ Dw W w' S g m ls (rdS ls i r) s ∧ Flow.Into [g] w w'
theorem Dw.Get {W w : World} {S : List Nat} {g m : Nat} {ls : List (List UInt8)} {r s : Nat} (h : Dw W w S g m ls r s) (i : Nat) (hr : r ≤ 1000000) :
    Calls Try.prog 15 #[.pointer (some ⟨g, 0, none⟩), .int .u32 (i : Int)] w fun e w' => Gt W w w' S g m ls r s i e := by
  unfold Gt rdX rdE rdS
  by_cases hi : i < ls.length
  · rw [if_pos hi, if_pos hi]
    have hx : ls[i]? = some ls[i] := List.getElem?_eq_getElem hi
    have hl : ls[i].length = m := by
      obtain ⟨⟨b, c, bks, h1, _⟩, _⟩ := h.dv
      exact h1.ll _ (List.getElem_mem hi)
    rw [hx]
    refine (h.Read i _ hx hr).mono fun e w' ⟨q, k, he, hrow, hqs, hd, hi'⟩ => ⟨some ⟨q, 0, none⟩, k, ?_, hrow.bl, hd, hi'⟩
    rw [he, Option.getD_some, hl]
  · rw [if_neg hi, if_neg hi]
    have hx : ls[i]? = none := List.getElem?_eq_none (by omega)
    rw [hx]
    exact (Read_out h.dv i (by omega)).mono fun e w' ⟨he, hw⟩ => ⟨none, 0, he, BL.nil _ _, hw ▸ h, hw ▸ Flow.Into.refl _ _⟩
theorem RGet {w : World} {h c n : Nat} {ls : List (List UInt8)} (H : Rf w h c n ls) (m r s i : Nat) (hi2 : i < 4294967296) (hr : r ≤ 1000000) :
    Calls Try.prog 14 #[.agg #[.int .i64 (m : Int), .slice (some ⟨h, 0, none⟩) n c, .int .i64 (r : Int), .int .i64 (s : Int)], .int .u32 (i : Int)] w fun e w' =>
      e = .returned (.tuple #[.agg #[.int .i64 (m : Int), .slice (some ⟨h, 0, none⟩) n c, .int .i64 ((rdS ls i r : Nat) : Int), .int .i64 (s : Int)], .string (strOf (rdX ls i)), .int .i64 (rdE ls i)]) ∧ Below w.heap.size w w' := by
  unfold rdX rdE rdS
  by_cases hi : i < ls.length
  · rw [if_pos hi, if_pos hi]
    have hx : ls[i]? = some ls[i] := List.getElem?_eq_getElem hi
    rw [hx, Option.getD_some, show ((r + 1 : Nat) : Int) = (r : Int) + 1 by omega]
    exact RRead_in m n c i h r s ls _ w H hx hr
  · rw [if_neg hi, if_neg hi]
    have hx : ls[i]? = none := List.getElem?_eq_none (by omega)
    rw [hx]
    exact RRead_out m n c i _ r s w (by rw [← H.len]; omega) hi2
/-- what a Write of the document leaves -/
def RPt (w w' : World) (h m n r s i : Nat) (ls : List (List UInt8)) (l : List UInt8) (e : Ending) : Prop := ∃ h' c', e = .returned (.tuple #[.agg #[.int .i64 (m : Int), .slice (some ⟨h', 0, none⟩) n c', .int .i64 (r : Int), .int .i64 ((wrS ls m i l s : Nat) : Int)], .int .i64 (wrE ls m i l)]) ∧ Rf w' h' c' n (wrT ls m i l) ∧ (h' = h ∨ w.heap.size ≤ h') ∧ Below w.heap.size w w'
theorem RPut {w : World} {h c n : Nat} {ls : List (List UInt8)} (H : Rf w h c n ls) (m r s i : Nat) (l : List UInt8) (hi2 : i < 4294967296) (hs : s ≤ 1000000) :
    Calls Try.prog 12 #[.agg #[.int .i64 (m : Int), .slice (some ⟨h, 0, none⟩) n c, .int .i64 (r : Int), .int .i64 (s : Int)], .int .u32 (i : Int), .string (strOf l)] w fun e w' => RPt w w' h m n r s i ls l e := by
  by_cases hi : i < ls.length
  · by_cases hl : l.length = m
    · have e1 : wrE ls m i l = 0 := by unfold wrE; rw [if_pos hi, if_pos hl]
      have e2 : wrT ls m i l = ls.set i l := by unfold wrT; rw [if_pos e1]
      have e3 : ((wrS ls m i l s : Nat) : Int) = (s : Int) + 1 := by unfold wrS; rw [if_pos e1]; omega
      unfold RPt
      rw [e1, e2, e3]
      exact (RWrite_in m n c i h r s ls l w H (by rw [← H.len]; exact hi) hl hs).mono fun e w' ⟨⟨h', c', he, hr, hh⟩, hb⟩ => ⟨h', c', he, hr, .inr hh, hb⟩
    · have e1 : wrE ls m i l = 3 := by unfold wrE; rw [if_pos hi, if_neg hl]
      have e2 : wrT ls m i l = ls := by unfold wrT; rw [if_neg (by rw [e1]; decide)]
      have e3 : wrS ls m i l s = s := by unfold wrS; rw [if_neg (by rw [e1]; decide)]
      unfold RPt
      rw [e1, e2, e3]
      exact (RWrite_form m n c i _ r s (strOf l) w (by rw [← H.len]; exact hi) H.hi hl).mono fun e w' ⟨he, hb⟩ => ⟨h, c, he, H.kept hb, .inl rfl, hb⟩
  · have e1 : wrE ls m i l = 4 := by unfold wrE; rw [if_neg hi]
    have e2 : wrT ls m i l = ls := by unfold wrT; rw [if_neg (by rw [e1]; decide)]
    have e3 : wrS ls m i l s = s := by unfold wrS; rw [if_neg (by rw [e1]; decide)]
    unfold RPt
    rw [e1, e2, e3]
    exact (RWrite_out m n c i _ r s (strOf l) w (by rw [← H.len]; omega) hi2).mono fun e w' ⟨he, hb⟩ => ⟨h, c, he, H.kept hb, .inl rfl, hb⟩
end Dv
end Go.Proofs.Ytlkakknelkeegaa
