/-
  Texts in memory, as a row of strings.
-/
import Derived.Test.YtlcdjbleeanpbaaRowC
import Derived.Test.YtlcdjbleeanpbaaOrdP
import Derived.Test.YtlcdjbleeanpbaaDrift
import Derived.Deep.DeepCutAuto
import Derived.Deep.CutBlock
namespace Go.Proofs.Ytlcdjbleeanpbaa
open Go.RowKit
namespace Fa
open Mem Lx Bu
def StK : Kind ByteArray := ⟨9, 1, fun m => [.string m], fun _ => rfl, fun m u hu => by
  obtain rfl : u = .string m := by simpa using hu
  rfl⟩
/-- a slice of texts that reads as L -/
abbrev SL (w : World) (A : Option Addr) (L : List ByteArray) : Prop := RdK StK w A L
abbrev SC (w : World) (A : Option Addr) (c : Nat) (L : List ByteArray) : Prop := RC StK w A c L
theorem RdK.str {w : World} {A : Option Addr} {L : List ByteArray} (h : SL w A L) {i : Nat} {m : ByteArray} (hm : L[i]? = some m) : ∃ b o, A = some ⟨b, o, none⟩ ∧ b < w.heap.size ∧ w.cell? ⟨b, o + i, none⟩ = some (.string m) := by
  obtain ⟨b, o, e, hl, hc⟩ := h (Nat.lt_of_le_of_lt (Nat.zero_le _) (List.getElem?_eq_some_iff.1 hm).1)
  have h0 := hc i m hm 0 (.string m) rfl
  exact ⟨b, o, e, hl, by simpa [StK] using h0⟩
theorem RdK.of_sblock {w : World} {g : Nat} {L : List ByteArray} {U : TypeId} {f : Nat × Nat} (h : w.heap[g]? = some (.cells (L.flatMap StK.cs).toArray U f)) : SL w (some ⟨g, 0, none⟩) L := fun _ => by
  refine ⟨g, 0, rfl, (Array.getElem?_eq_some_iff.1 h).1, fun i x hx j u hu => ?_⟩
  have hj : j < StK.k := by
    have := (List.getElem?_eq_some_iff.1 hu).1
    rw [StK.len] at this
    exact this
  have := StK.at_ hx hj
  simp only [World.cell?, h, Nat.zero_add]
  simpa [this] using hu
theorem nat_lenS {L : List ByteArray} {i : Nat} (h : i < L.length) : L[i]? = some L[i] := List.getElem?_eq_getElem h
end Fa
end Go.Proofs.Ytlcdjbleeanpbaa
