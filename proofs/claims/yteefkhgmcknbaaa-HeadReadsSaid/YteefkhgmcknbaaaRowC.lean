/-
  Slices of structs with their room; cut. No program.
-/
import Derived.Test.YteefkhgmcknbaaaRowK
import Derived.Test.YteefkhgmcknbaaaBytes
namespace Go.Proofs.Yteefkhgmcknbaaa
open Go.RowKit
namespace Mem
section
variable {α : Type} {K : Kind α} {w w' : World} {B c : Nat} {A : Option Addr} {L : List α}
/-- a slice that reads as L, and has room for it -/
def RC (K : Kind α) (w : World) (A : Option Addr) (c : Nat) (L : List α) : Prop := RdK K w A L ∧ L.length ≤ c
theorem RC.kept (h : RC K w A c L) (hb : Below w.heap.size w w') : RC K w' A c L := ⟨h.1.kept hb, h.2⟩
theorem RC.nil (w : World) (A : Option Addr) (c : Nat) : RC K w A c [] := ⟨RdK.nil w A, Nat.zero_le _⟩
theorem VK.rc (h : VK K w B A c L) : RC K w A c L := by
  refine ⟨h.rd, ?_⟩
  rcases h.2 with ⟨_, h1⟩ | ⟨g, cap, cur, h1, _, _, hn, _⟩
  · omega
  · obtain ⟨_, rfl⟩ : A = some ⟨g, 0, none⟩ ∧ c = cap := by simpa using h1
    exact hn
/-- where what is behind the first n lies -/
def cutK (k : Nat) (A : Option Addr) (c n : Nat) : Option Addr := if c = n then A else A.map (·.add (n * k))
theorem RC.cut (h : RC K w A c L) (n : Nat) : RC K w (cutK K.k A c n) (c - n) (L.drop n) := by
  refine ⟨?_, by rw [List.length_drop]; have := h.2; omega⟩
  rcases Nat.lt_or_ge n L.length with hk | hk
  · obtain ⟨b, o, e, hd⟩ := h.1.drop hk
    subst e
    have hc := h.2
    unfold cutK
    rw [if_neg (by omega)]
    have : (⟨b, o, none⟩ : Addr).add (n * K.k) = ⟨b, o + n * K.k, none⟩ := by by_cases h0 : n * K.k = 0 <;> simp [Addr.add, h0]
    rw [Option.map_some, this]
    exact hd
  · rw [List.drop_eq_nil_of_le hk]
    exact RdK.nil _ _
theorem RC.upTo (h : RC K w A c L) (n : Nat) : RC K w A c (L.take n) :=
  ⟨h.1.take n, by rw [List.length_take]; have := h.2; omega⟩
theorem RdK.none_ (h : RdK K w none L) : L = [] := by
  cases L with
  | nil => rfl
  | cons y l => obtain ⟨_, _, e, _⟩ := h (by simp); cases e
end
section
variable {P : Program} {t e : TypeId} {z : Value} {k by_ : Nat}
theorem run_cutK (ht : P.underlying t = some (.slice e)) (hinfo : (P.info? e).map (fun i => (i.zero, i.size, i.bytes)) = some (some z, k, by_)) (A : Option Addr) (n c m : Nat) (hk : m ≤ n) (w : World) :
    (Instr.slice t (.slice A n c) (some (.int .i64 (m : Int))) none none).run P w = .ok (.slice (cutK k A c m) (n - m) (c - m)) w := by
  obtain ⟨i, hi, -, hs, -⟩ := info_parts hinfo
  have he : P.elem t = e := by simp [Program.elem, ht]
  rw [run_slice_l w t A n c (by rw [he]; exact ht) .i64 (m : Int) (by omega) (by omega), he]
  simp [sizeOf, typeInfo, hi, hs, sliced, cutK, Result.andThen]
theorem run_upToK (ht : P.underlying t = some (.slice e)) (hinfo : (P.info? e).map (fun i => (i.zero, i.size, i.bytes)) = some (some z, k, by_)) (A : Option Addr) (n c m : Nat) (hk : m ≤ c) (w : World) :
    (Instr.slice t (.slice A n c) none (some (.int .i64 (m : Int))) none).run P w = .ok (.slice A m c) w := by
  obtain ⟨i, hi, -, hs, -⟩ := info_parts hinfo
  exact run_upTo ht hi A n c m hk w
theorem run_midK (ht : P.underlying t = some (.slice e)) (hinfo : (P.info? e).map (fun i => (i.zero, i.size, i.bytes)) = some (some z, k, by_)) (A : Option Addr) (n c p q : Nat) (hp : p ≤ q) (hq : q ≤ c) (w : World) :
    (Instr.slice t (.slice A n c) (some (.int .i64 (p : Int))) (some (.int .i64 (q : Int))) none).run P w = .ok (.slice (cutK k A c p) (q - p) (c - p)) w := by
  obtain ⟨i, hi, -, hs, -⟩ := info_parts hinfo
  have he : P.elem t = e := by simp [Program.elem, ht]
  rw [run_slice_lh w t A n c (by rw [he]; exact ht) .i64 .i64 (p : Int) (q : Int) (by omega) (by omega) (by omega), he]
  simp [sizeOf, typeInfo, hi, hs, sliced, cutK, Result.andThen]
end
end Mem
end Go.Proofs.Yteefkhgmcknbaaa
