/-
  Pairs in memory.
-/
import Derived.Test.YtlcdjbleeanpbaaRowC
import Derived.Test.YtlcdjbleeanpbaaOrdP
import Derived.Test.YtlcdjbleeanpbaaMsgK
namespace Go.Proofs.Ytlcdjbleeanpbaa
open Go.RowKit
namespace Lf
open Mem Lx Bu
/-- a pair: its key, its value -/
abbrev Pr := ByteArray × ByteArray
def PrK : Kind Pr := ⟨42, 2, fun m => [.string m.1, .string m.2], fun _ => rfl, fun m u hu => by
  simp only [List.mem_cons, List.not_mem_nil, or_false] at hu
  rcases hu with rfl | rfl <;> rfl⟩
def prV (m : Pr) : Value := .agg #[.string m.1, .string m.2]
/-- a slice of pairs that reads as L -/
abbrev PL (w : World) (A : Option Addr) (L : List Pr) : Prop := RdK PrK w A L
/-- one of the call's own -/
abbrev P3 (w : World) (B : Nat) (A : Option Addr) (c : Nat) (L : List Pr) : Prop := VK PrK w B A c L
/-- with its room -/
abbrev PC (w : World) (A : Option Addr) (c : Nat) (L : List Pr) : Prop := RC PrK w A c L
theorem RdK.pair {w : World} {A : Option Addr} {L : List Pr} (h : PL w A L) {i : Nat} {m : Pr} (hm : L[i]? = some m) : ∃ b o, A = some ⟨b, o, none⟩ ∧ b < w.heap.size ∧ w.cell? ⟨b, o + i * 2, none⟩ = some (.string m.1) ∧ w.cell? ⟨b, o + i * 2 + 1, none⟩ = some (.string m.2) := by
  obtain ⟨b, o, e, hl, hc⟩ := h (Nat.lt_of_le_of_lt (Nat.zero_le _) (List.getElem?_eq_some_iff.1 hm).1)
  have h0 := hc i m hm 0 (.string m.1) rfl
  have h1 := hc i m hm 1 (.string m.2) rfl
  exact ⟨b, o, e, hl, by simpa [PrK] using h0, by simpa [PrK, Nat.add_assoc] using h1⟩
/-- its place, whatever it reads as -/
theorem RdK.pplace {w : World} {A : Option Addr} {L : List Pr} (h : PL w A L) (h0 : 0 < L.length) : ∃ b o, A = some ⟨b, o, none⟩ ∧ ∀ (i : Nat) (m : Pr), L[i]? = some m → w.cell? ⟨b, o + i * 2, none⟩ = some (.string m.1) ∧ w.cell? ⟨b, o + i * 2 + 1, none⟩ = some (.string m.2) := by
  obtain ⟨b, o, e, _, _⟩ := h h0
  subst e
  refine ⟨b, o, rfl, fun i m hm => ?_⟩
  obtain ⟨b', o', e', _, h1⟩ := RdK.pair h hm
  obtain ⟨rfl, rfl⟩ : b = b' ∧ o = o' := by simpa using e'
  exact h1
theorem RdK.of_pblock {w : World} {g : Nat} {L : List Pr} {U : TypeId} {f : Nat × Nat} (h : w.heap[g]? = some (.cells (L.flatMap PrK.cs).toArray U f)) : PL w (some ⟨g, 0, none⟩) L := fun _ => by
  refine ⟨g, 0, rfl, (Array.getElem?_eq_some_iff.1 h).1, fun i x hx j u hu => ?_⟩
  have hj : j < PrK.k := by
    have := (List.getElem?_eq_some_iff.1 hu).1
    rw [PrK.len] at this
    exact this
  have := PrK.at_ hx hj
  simp only [World.cell?, h, Nat.zero_add]
  simpa [this] using hu
theorem prinfo : (Try.prog.info? 42).map (fun i => (i.zero, i.size, i.bytes)) = some (some (.agg #[.string ⟨#[]⟩, .string ⟨#[]⟩]), 2, 32) := by kernel_rfl
theorem pr_ne (m m' : Pr) (w : World) : (binOp .neq 42 (.agg #[.string m.1, .string m.2]) (.agg #[.string m'.1, .string m'.2])).run Try.prog w = .ok (.bool (!decide (m = m'))) w := by
  obtain ⟨k, v⟩ := m
  obtain ⟨k', v'⟩ := m'
  by_cases h0 : k = k'
  case neg => simp [go_sem, h0, ba_toList]
  by_cases h2 : v = v' <;> simp [go_sem, h0, h2, ba_toList]
end Lf
end Go.Proofs.Ytlcdjbleeanpbaa
