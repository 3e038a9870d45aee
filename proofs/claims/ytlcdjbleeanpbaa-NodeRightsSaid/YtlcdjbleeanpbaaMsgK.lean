/-
  Messages in memory.
-/
import Derived.Test.YtlcdjbleeanpbaaRowK
import Derived.Test.YtlcdjbleeanpbaaOrdP
import Derived.Test.YtlcdjbleeanpbaaDrift
import Derived.Test.YtlcdjbleeanpbaaBox3
import Derived.Deep.DeepCutAuto
import Derived.Deep.CutBlock
namespace Go.Proofs.Ytlcdjbleeanpbaa
open Go.RowKit
namespace Bu
open Mem Lx
/-- a message: its key, whether there is none of it, its value -/
abbrev Mg := ByteArray × Bool × ByteArray
def MgK : Kind Mg := ⟨40, 3, fun m => [.string m.1, .bool m.2.1, .string m.2.2], fun _ => rfl, fun m u hu => by
  simp only [List.mem_cons, List.not_mem_nil, or_false] at hu
  rcases hu with rfl | rfl | rfl <;> rfl⟩
def mgV (m : Mg) : Value := .agg #[.string m.1, .bool m.2.1, .string m.2.2]
/-- a slice of messages that reads as L -/
abbrev ML (w : World) (A : Option Addr) (L : List Mg) : Prop := RdK MgK w A L
/-- one of the call's own -/
abbrev M3 (w : World) (B : Nat) (A : Option Addr) (c : Nat) (L : List Mg) : Prop := VK MgK w B A c L
theorem RdK.msg {w : World} {A : Option Addr} {L : List Mg} (h : ML w A L) {i : Nat} {m : Mg} (hm : L[i]? = some m) : ∃ b o, A = some ⟨b, o, none⟩ ∧ b < w.heap.size ∧ w.cell? ⟨b, o + i * 3, none⟩ = some (.string m.1) ∧ w.cell? ⟨b, o + i * 3 + 1, none⟩ = some (.bool m.2.1) ∧ w.cell? ⟨b, o + i * 3 + 2, none⟩ = some (.string m.2.2) := by
  obtain ⟨b, o, e, hl, hc⟩ := h (Nat.lt_of_le_of_lt (Nat.zero_le _) (List.getElem?_eq_some_iff.1 hm).1)
  have h0 := hc i m hm 0 (.string m.1) rfl
  have h1 := hc i m hm 1 (.bool m.2.1) rfl
  have h2 := hc i m hm 2 (.string m.2.2) rfl
  exact ⟨b, o, e, hl, by simpa [MgK] using h0, by simpa [MgK, Nat.add_assoc] using h1, by simpa [MgK, Nat.add_assoc] using h2⟩
/-- its place, whatever it reads as -/
theorem RdK.place {w : World} {A : Option Addr} {L : List Mg} (h : ML w A L) (h0 : 0 < L.length) : ∃ b o, A = some ⟨b, o, none⟩ ∧ ∀ (i : Nat) (m : Mg), L[i]? = some m → w.cell? ⟨b, o + i * 3, none⟩ = some (.string m.1) ∧ w.cell? ⟨b, o + i * 3 + 1, none⟩ = some (.bool m.2.1) ∧ w.cell? ⟨b, o + i * 3 + 2, none⟩ = some (.string m.2.2) := by
  obtain ⟨b, o, e, _, _⟩ := h h0
  subst e
  refine ⟨b, o, rfl, fun i m hm => ?_⟩
  obtain ⟨b', o', e', _, h1⟩ := RdK.msg h hm
  obtain ⟨rfl, rfl⟩ : b = b' ∧ o = o' := by simpa using e'
  exact h1
theorem mginfo : (Try.prog.info? 40).map (fun i => (i.zero, i.size, i.bytes)) = some (some (.agg #[.string ⟨#[]⟩, .bool false, .string ⟨#[]⟩]), 3, 40) := by kernel_rfl
theorem nat_len {α : Type} {L : List α} {i : Nat} (h : i < L.length) : L[i]? = some L[i] := List.getElem?_eq_getElem h
theorem mg_ne (m m' : Mg) (w : World) : (binOp .neq 40 (.agg #[.string m.1, .bool m.2.1, .string m.2.2]) (.agg #[.string m'.1, .bool m'.2.1, .string m'.2.2])).run Try.prog w = .ok (.bool (!decide (m = m'))) w := by
  obtain ⟨k, d, v⟩ := m
  obtain ⟨k', d', v'⟩ := m'
  by_cases h0 : k = k'
  case neg => simp [go_sem, h0, ba_toList]
  by_cases h1 : d = d'
  case neg => simp [go_sem, h0, h1, ba_toList]
  by_cases h2 : v = v' <;> simp [go_sem, h0, h1, h2, ba_toList]
theorem mg_eq (m m' : Mg) (w : World) : (binOp .eql 40 (.agg #[.string m.1, .bool m.2.1, .string m.2.2]) (.agg #[.string m'.1, .bool m'.2.1, .string m'.2.2])).run Try.prog w = .ok (.bool (decide (m = m'))) w := by
  obtain ⟨k, d, v⟩ := m
  obtain ⟨k', d', v'⟩ := m'
  by_cases h0 : k = k'
  case neg => simp [go_sem, h0, ba_toList]
  by_cases h1 : d = d'
  case neg => simp [go_sem, h0, h1, ba_toList]
  by_cases h2 : v = v' <;> simp [go_sem, h0, h1, h2, ba_toList]
def zeroM : Mg := (⟨#[]⟩, false, ⟨#[]⟩)
end Bu
end Go.Proofs.Ytlcdjbleeanpbaa
