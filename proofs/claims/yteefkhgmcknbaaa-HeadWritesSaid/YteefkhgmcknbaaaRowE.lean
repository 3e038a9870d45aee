/-
  An append of one struct as an event of a region that draws its order. No program.
-/
import Derived.Test.YteefkhgmcknbaaaRowK
import Derived.Test.YteefkhgmcknbaaaRowA
import Derived.Test.YteefkhgmcknbaaaDrift
namespace Go.Proofs.Yteefkhgmcknbaaa
open Go.RowKit
namespace Mem
/-- append of one struct as an event of a region that draws its order -/
theorem evAt_appendK {α : Type} {K : Kind α} {P : Program} {SS : List Nat} {S : TypeId} {z : Value} {by_ : Nat} (hS : P.underlying S = some (.slice K.T)) (hinfo : (P.info? K.T).map (fun i => (i.zero, i.size, i.bytes)) = some (some z, K.k, by_)) (hz : z.cells.size = K.k) (hby : by_ ≤ 4096) (hk : 0 < K.k)
    {w : World} {o : Oper} {a : Act} {V : Value → World → Prop} (s x : Operand)
    (ho : o.op = .call { callee := .builtin .append, args := #[s, x], argTypes := #[S, S] })
    (B : Nat) (A : Option Addr) (n c : Nat) (L : List α) (hs : a.eval s = .slice A n c) (hvn : L.length = n) (h : VK K w B A c L) (xb cx : Nat) (y : α) (hx : a.eval x = .slice (some ⟨xb, 0, none⟩) 1 cx) (hu : w.heap[xb]? = some (.cells (K.cs y).toArray K.T (0, 0))) (hn : n + 1 ≤ 1048576) (hB : B ≤ w.heap.size)
    (hSS : ∀ a, A = some a → a.block ∈ SS) (hh : ∀ A' c' w', AppdK K B w w' A A' c' (L ++ [y]) → V (.slice A' (n + 1) c') w') : Flow.evAt P SS o a w V := by
  subst hvn
  obtain ⟨A', c', w', hrun, hd⟩ := run_appendK hS hinfo hz hby o.type h xb cx y hu hn hk hB
  unfold Flow.evAt execOp
  simp only [ho, resolve, invoke, builtin, Sem.run_bind, Sem.run_pure, Result.andThen_ok, List.map_toArray, List.map_cons, List.map_nil, hs, hx, hrun]
  exact ⟨hh A' c' w' hd, hd.below.os, hd.below.tape, hd.below.output, hd.below.size, fun k hk hn => hd.block k hk fun a ha hak => hn (hak ▸ hSS a ha)⟩
/-- append of a whole slice to nil, as an event -/
theorem evAt_append_nilK {α : Type} {K : Kind α} {P : Program} {SS : List Nat} {S : TypeId} {z : Value} {by_ : Nat} (hS : P.underlying S = some (.slice K.T)) (hinfo : (P.info? K.T).map (fun i => (i.zero, i.size, i.bytes)) = some (some z, K.k, by_)) (hz : z.cells.size = K.k) (hby : by_ ≤ 4096) (hk : 0 < K.k)
    {w : World} {o : Oper} {a : Act} {V : Value → World → Prop} (s x : Operand)
    (ho : o.op = .call { callee := .builtin .append, args := #[s, x], argTypes := #[S, S] })
    (B : Nat) (hs : a.eval s = .slice none 0 0) (A2 : Option Addr) (m c2 : Nat) (M : List α) (hx : a.eval x = .slice A2 m c2) (hM : M.length = m) (hb : RdK K w A2 M) (hn : m ≤ 1048576) (hB : B ≤ w.heap.size)
    (hh : ∀ A' c' w', VK K w' B A' c' M → Below w.heap.size w w' → V (.slice A' m c') w') : Flow.evAt P SS o a w V := by
  subst hM
  obtain ⟨A', c', w', hrun, hd⟩ := run_append_allA (L := []) hS hinfo hz hby o.type (VK.nil w B) c2 hb (by simpa using hn) hk hB
  simp only [List.length_nil, Nat.zero_add] at hrun
  unfold Flow.evAt execOp
  simp only [ho, resolve, invoke, builtin, Sem.run_bind, Sem.run_pure, Result.andThen_ok, List.map_toArray, List.map_cons, List.map_nil, hs, hx, hrun]
  have hblk : ∀ k, k < w.heap.size → w'.heap[k]? = w.heap[k]? := fun k hk => hd.block k hk fun a ha => by cases ha
  have hbel : Below w.heap.size w w' := ⟨hd.below.os, hd.below.tape, hd.below.output, hd.below.size, hblk⟩
  exact ⟨hh A' c' w' (by simpa using hd.vo) hbel, hd.below.os, hd.below.tape, hd.below.output, hd.below.size, fun k hk _ => hblk k hk⟩
/-- what an append of one struct leaves, told from an earlier world -/
structure AppW {α : Type} (K : Kind α) (B : Nat) (w w' : World) (A A' : Option Addr) (c' : Nat) (L : List α) : Prop where
  vo : VK K w' B A' c' L
  below : Below B w w'
  block : ∀ k, k < w.heap.size → (∀ a, A = some a → a.block ≠ k) → w'.heap[k]? = w.heap[k]?
  row : ∀ a', A' = some a' → (∃ a, A = some a ∧ a'.block = a.block) ∨ w.heap.size ≤ a'.block
theorem AppW.then_ {α : Type} {K : Kind α} {B c' : Nat} {w w' w2 : World} {A A' : Option Addr} {L : List α} (h : AppW K B w w' A A' c' L) (hb : Below w'.heap.size w' w2) (hB : B ≤ w'.heap.size) : AppW K B w w2 A A' c' L :=
  ⟨h.vo.kept hb, h.below.trans (hb.mono hB), fun k hk hn => (hb.block k (Nat.lt_of_lt_of_le hk h.below.size)).trans (h.block k hk hn), h.row⟩
/-- the event's answer -/
def EvApp {α : Type} (K : Kind α) (B : Nat) (w : World) (A : Option Addr) (n : Nat) (L : List α) (v : Value) (w' : World) : Prop := ∃ A' c', v = .slice A' n c' ∧ AppW K B w w' A A' c' L
theorem evAt_appW {α : Type} {K : Kind α} {P : Program} {SS : List Nat} {S : TypeId} {z : Value} {by_ : Nat} (hS : P.underlying S = some (.slice K.T)) (hinfo : (P.info? K.T).map (fun i => (i.zero, i.size, i.bytes)) = some (some z, K.k, by_)) (hz : z.cells.size = K.k) (hby : by_ ≤ 4096) (hk : 0 < K.k)
    {w W2 : World} {o : Oper} {a : Act} (s x : Operand)
    (ho : o.op = .call { callee := .builtin .append, args := #[s, x], argTypes := #[S, S] })
    (B : Nat) (A : Option Addr) (n c : Nat) (L : List α) (hs : a.eval s = .slice A n c) (hvn : L.length = n) (h : VK K w B A c L) (hkk : Below w.heap.size w W2) (xb cx : Nat) (y : α) (hx : a.eval x = .slice (some ⟨xb, 0, none⟩) 1 cx) (hu : W2.heap[xb]? = some (.cells (K.cs y).toArray K.T (0, 0))) (hn : n + 1 ≤ 1048576) (hB : B ≤ w.heap.size)
    (hSS : ∀ a, A = some a → a.block ∈ SS) : Flow.evAt P SS o a W2 (EvApp K B w A (n + 1) (L ++ [y])) :=
  evAt_appendK hS hinfo hz hby hk s x ho B A n c L hs hvn (h.kept hkk) xb cx y hx hu hn (Nat.le_trans hB hkk.size) hSS fun A' c' w' hd => ⟨A', c', rfl, hd.vo, (hkk.mono hB).trans hd.below, fun k hk hn => (hd.block k (Nat.lt_of_lt_of_le hk hkk.size) hn).trans (hkk.block k hk), fun a' ha' => by
    rcases hd.row a' ha' with h1 | h1
    · exact .inl h1
    · exact .inr (by rw [h1]; exact hkk.size)⟩
theorem VK.blocks {α : Type} {K : Kind α} {w : World} {B c : Nat} {A : Option Addr} {L : List α} (h : VK K w B A c L) : ∃ S : List Nat, (∀ a, A = some a → a.block ∈ S) ∧ ∀ k, k ∈ S → B ≤ k ∧ k < w.heap.size := by
  cases A with
  | none => exact ⟨[], (fun a ha => by cases ha), (fun k hk => by cases hk)⟩
  | some x =>
    refine ⟨[x.block], (fun a ha => by cases ha; simp), fun k hk => ?_⟩
    obtain rfl : k = x.block := by simpa using hk
    exact h.at_ x rfl
end Mem
end Go.Proofs.Yteefkhgmcknbaaa
