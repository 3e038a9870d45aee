/-
  CodeR5, RowE, Box5, BoxN, CodeR6, CodeR7, StrS, NodeK3, RowB, CodeLaw0, FanRightC, BufRightC, LeafRightC. Put together by pack.py.
-/
import Derived.Test.YtgpbioljldkmaaaPkAH
import Derived.Laws.DeepStrings4
import Derived.Test.YtgpbioljldkmaaaPkAA
import Derived.Test.YtgpbioljldkmaaaPkAB
import Derived.Test.YtgpbioljldkmaaaPqDrift
import Derived.Test.YtgpbioljldkmaaaPkAG
import Derived.Deep.RegionWith
import Derived.Test.YtgpbioljldkmaaaPkAE

namespace Go.Proofs.Ytgpbioljldkmaaa
open Go.RowKit
namespace No
open Mem Lx Bu Lf Fa
open Wd (be val be_length val_be isW val_snoc val_lt)
/-- what Encode tells: the block, or why there is none -/
def EncP (c : Cfg) (n : Nd) (s : List UInt8) (f : Int) : Prop :=
  (¬ Cf.Right c.blocks c.bytes c.frames c.fan c.buffer c.leaf c.key c.val ∧ s = [] ∧ f = 2) ∨
  (Cf.Right c.blocks c.bytes c.frames c.fan c.buffer c.leaf c.key c.val ∧ ¬ RightA c n ∧ s = [] ∧ f = 3) ∨ (RightA c n ∧ s = blockL c n ∧ f = 0)
theorem EncP.some (c : Cfg) (n : Nd) : ∃ s f, EncP c n s f := by
  by_cases h1 : Cf.Right c.blocks c.bytes c.frames c.fan c.buffer c.leaf c.key c.val
  · by_cases h2 : RightA c n
    · exact ⟨_, _, .inr (.inr ⟨h2, rfl, rfl⟩)⟩
    · exact ⟨_, _, .inr (.inl ⟨h1, h2, rfl, rfl⟩)⟩
  · exact ⟨_, _, .inl ⟨h1, rfl, rfl⟩⟩
theorem EncP.one {c : Cfg} {n : Nd} {s s' : List UInt8} {f f' : Int} (h : EncP c n s f) (h' : EncP c n s' f') : s = s' ∧ f = f' := by
  rcases h with ⟨h1, rfl, rfl⟩ | ⟨h1, h2, rfl, rfl⟩ | ⟨h1, rfl, rfl⟩ <;> rcases h' with ⟨k1, rfl, rfl⟩ | ⟨k1, k2, rfl, rfl⟩ | ⟨k1, rfl, rfl⟩ <;> first | exact ⟨rfl, rfl⟩ | exact absurd k1 h1 | exact absurd h1 k1 | exact absurd k1.1 h1 | exact absurd h1.1 k1 | exact absurd k1 h2 | exact absurd h1 k2
/-! ### bytes of a text -/
end No
end Go.Proofs.Ytgpbioljldkmaaa

namespace Go.Proofs.Ytgpbioljldkmaaa
open Go.RowKit
namespace Mem
/-- append of one struct as an event of a region that draws its order -/
theorem evAt_appendK {α : Type} {K : Kind α} {P : Program} {SS : List Nat} {S : TypeId} {z : Value} {by_ : Nat} (hS : P.underlying S = some (.slice K.T)) (hinfo : (P.info? K.T).map (fun i => (i.zero, i.size, i.bytes)) = some (some z, K.k, by_)) (hz : z.cells.size = K.k) (hby : by_ ≤ 64) (hk : 0 < K.k)
    {w : World} {o : Oper} {a : Act} {V : Value → World → Prop} (s x : Operand)
    (ho : o.op = .call { callee := .builtin .append, args := #[s, x], argTypes := #[S, S] })
    (B : Nat) (A : Option Addr) (n c : Nat) (L : List α) (hs : a.eval s = .slice A n c) (hvn : L.length = n) (h : VK K w B A c L) (xb cx : Nat) (y : α) (hx : a.eval x = .slice (some ⟨xb, 0, none⟩) 1 cx) (hu : w.heap[xb]? = some (.cells (K.cs y).toArray K.T (0, 0))) (hn : n + 1 ≤ 1048576) (hB : B ≤ w.heap.size)
    (hSS : ∀ a, A = some a → a.block ∈ SS) (hh : ∀ A' c' w', AppdK K B w w' A A' c' (L ++ [y]) → V (.slice A' (n + 1) c') w') : Flow.evAt P SS o a w V := by
  subst hvn
  obtain ⟨A', c', w', hrun, hd⟩ := run_appendK hS hinfo hz hby o.type h xb cx y hu hn hk hB
  unfold Flow.evAt execOp
  simp only [ho, resolve, invoke, builtin, Sem.run_bind, Sem.run_pure, Result.andThen_ok, List.map_toArray, List.map_cons, List.map_nil, hs, hx, hrun]
  exact ⟨hh A' c' w' hd, hd.below.os, hd.below.tape, hd.below.output, hd.below.size, fun k hk hn => hd.block k hk fun a ha hak => hn (hak ▸ hSS a ha)⟩
/-- what an append of one struct leaves, told from an earlier world -/
structure AppW {α : Type} (K : Kind α) (B : Nat) (w w' : World) (A A' : Option Addr) (c' : Nat) (L : List α) : Prop where
  vo : VK K w' B A' c' L
  below : Below B w w'
  block : ∀ k, k < w.heap.size → (∀ a, A = some a → a.block ≠ k) → w'.heap[k]? = w.heap[k]?
  row : ∀ a', A' = some a' → (∃ a, A = some a ∧ a'.block = a.block) ∨ w.heap.size ≤ a'.block
theorem AppW.then_ {α : Type} {K : Kind α} {B c' : Nat} {w w' w2 : World} {A A' : Option Addr} {L : List α} (h : AppW K B w w' A A' c' L) (hb : Below w'.heap.size w' w2) (hB : B ≤ w'.heap.size) : AppW K B w w2 A A' c' L :=
  ⟨h.vo.kept hb, h.below.trans (hb.mono hB), fun k hk hn => (hb.block k (Nat.lt_of_lt_of_le hk h.below.size)).trans (h.block k hk hn), h.row⟩
/-- the event's answer -/
def EvApp {α : Type} (K : Kind α) (B : Nat) (w : World) (A : Option Addr) (n : Nat) (L : List α) (v : Value) (w' : World) : Prop := ∃ A' c', v = .slice A' n c' ∧ AppW K B w w' A A' c' L
theorem evAt_appW {α : Type} {K : Kind α} {P : Program} {SS : List Nat} {S : TypeId} {z : Value} {by_ : Nat} (hS : P.underlying S = some (.slice K.T)) (hinfo : (P.info? K.T).map (fun i => (i.zero, i.size, i.bytes)) = some (some z, K.k, by_)) (hz : z.cells.size = K.k) (hby : by_ ≤ 64) (hk : 0 < K.k)
    {w W2 : World} {o : Oper} {a : Act} (s x : Operand)
    (ho : o.op = .call { callee := .builtin .append, args := #[s, x], argTypes := #[S, S] })
    (B : Nat) (A : Option Addr) (n c : Nat) (L : List α) (hs : a.eval s = .slice A n c) (hvn : L.length = n) (h : VK K w B A c L) (hkk : Below w.heap.size w W2) (xb cx : Nat) (y : α) (hx : a.eval x = .slice (some ⟨xb, 0, none⟩) 1 cx) (hu : W2.heap[xb]? = some (.cells (K.cs y).toArray K.T (0, 0))) (hn : n + 1 ≤ 1048576) (hB : B ≤ w.heap.size)
    (hSS : ∀ a, A = some a → a.block ∈ SS) : Flow.evAt P SS o a W2 (EvApp K B w A (n + 1) (L ++ [y])) :=
  evAt_appendK hS hinfo hz hby hk s x ho B A n c L hs hvn (h.kept hkk) xb cx y hx hu hn (Nat.le_trans hB hkk.size) hSS fun A' c' w' hd => ⟨A', c', rfl, hd.vo, (hkk.mono hB).trans hd.below, fun k hk hn => (hd.block k (Nat.lt_of_lt_of_le hk hkk.size) hn).trans (hkk.block k hk), fun a' ha' => by
    rcases hd.row a' ha' with h1 | h1
    · exact .inl h1
    · exact .inr (by rw [h1]; exact hkk.size)⟩
theorem VK.blocks {α : Type} {K : Kind α} {w : World} {B c : Nat} {A : Option Addr} {L : List α} (h : VK K w B A c L) : ∃ S : List Nat, (∀ a, A = some a → a.block ∈ S) ∧ ∀ k, k ∈ S → B ≤ k ∧ k < w.heap.size := by
  cases A with
  | none => exact ⟨[], (fun a ha => by cases ha), (fun k hk => by cases hk)⟩
  | some x =>
    refine ⟨[x.block], (fun a ha => by cases ha; simp), fun k hk => ?_⟩
    obtain rfl : k = x.block := by simpa using hk
    exact h.at_ x rfl
end Mem
end Go.Proofs.Ytgpbioljldkmaaa

namespace Go.Proofs.Ytgpbioljldkmaaa
open Go.RowKit
namespace No
open Mem Bu
/-- five cells stored -/
def set5 (w : World) (b : Nat) (v0 v1 v2 v3 v4 : Value) : World := ((((w.setCell ⟨b, 0, none⟩ v0).setCell ⟨b, 1, none⟩ v1).setCell ⟨b, 2, none⟩ v2).setCell ⟨b, 3, none⟩ v3).setCell ⟨b, 4, none⟩ v4
theorem set5_at {w : World} {b : Nat} {u0 u1 u2 u3 u4 : Value} {U : TypeId} (h : w.heap[b]? = some (.cells #[u0, u1, u2, u3, u4] U (0, 0))) (v0 v1 v2 v3 v4 : Value) : (set5 w b v0 v1 v2 v3 v4).heap[b]? = some (.cells #[v0, v1, v2, v3, v4] U (0, 0)) := by
  unfold set5
  simp [World.setCell, Array.getElem?_modify, h]
theorem set5_below {B b : Nat} {a w : World} (h : Below B a w) (hb : B ≤ b) (v0 v1 v2 v3 v4 : Value) : Below B a (set5 w b v0 v1 v2 v3 v4) := ((((h.setCell hb v0).setCell hb v1).setCell hb v2).setCell hb v3).setCell hb v4
theorem into_one (w : World) (b i : Nat) (v : Value) : Flow.Into [b] w (w.setCell ⟨b, i, none⟩ v) := ⟨rfl, rfl, rfl, Nat.le_of_eq (by simp), fun k _ hn => set_other _ (by simpa using hn)⟩
theorem into_set5 (w : World) (b : Nat) (v0 v1 v2 v3 v4 : Value) : Flow.Into [b] w (set5 w b v0 v1 v2 v3 v4) := ((((into_one _ _ _ _).trans (into_one _ _ _ _)).trans (into_one _ _ _ _)).trans (into_one _ _ _ _)).trans (into_one _ _ _ _)
theorem free5 {w : World} {b : Nat} {C : Array Value} {U : TypeId} (h : w.heap[b]? = some (.cells C U (0, 0))) (i : Nat) : w.frozen? ⟨b, i, none⟩ = false := by
  simp [World.frozen?, h]
end No
end Go.Proofs.Ytgpbioljldkmaaa

namespace Go.Proofs.Ytgpbioljldkmaaa
open Go.RowKit
namespace No
open Mem Lx Bu Lf Fa
theorem rc_into {α : Type} {K : Kind α} {w w' : World} {c : Nat} {A : Option Addr} {L : List α} {T : List Nat} (h : RC K w A c L) (hi : Flow.Into T w w') (hb : ∀ y, 0 < L.length → A = some y → y.block ∉ T) : RC K w' A c L := ⟨fun h0 => by
  obtain ⟨yb, yo, e, hl, -⟩ := h.1 h0
  refine h.1.keep hi.size (fun a ha => ?_) h0
  have h2 := hb a h0 ha
  rw [ha] at e
  cases e
  exact hi.block _ hl h2, h.2⟩
/-- a box that holds a node -/
def IsBox (w : World) (b : Nat) : Prop := ∃ (v : Int) (A0 A1 A2 A3 : Option Addr) (n0 c0 n1 c1 n2 c2 n3 c3 : Nat) (U : TypeId), w.heap[b]? = some (.cells #[.int .i64 v, .slice A0 n0 c0, .slice A1 n1 c1, .slice A2 n2 c2, .slice A3 n3 c3] U (0, 0))
/-- a kind of cells that a node's box has not -/
def Strange {α : Type} (K : Kind α) : Prop := ∀ x, ∃ u, (K.cs x)[0]? = some u ∧ (∀ n, u ≠ .int .i64 n) ∧ ∀ A n c, u ≠ .slice A n c
theorem strange_kd : Strange KdK := fun x => ⟨.int .u32 x, rfl, (fun n h => by cases h), fun A n c h => by cases h⟩
theorem strange_st : Strange StK := fun x => ⟨.string x, rfl, (fun n h => by cases h), fun A n c h => by cases h⟩
theorem strange_mg : Strange MgK := fun x => ⟨.string x.1, rfl, (fun n h => by cases h), fun A n c h => by cases h⟩
theorem strange_pr : Strange PrK := fun x => ⟨.string x.1, rfl, (fun n h => by cases h), fun A n c h => by cases h⟩
/-- a row lies in no box of a node -/
theorem rc_off {α : Type} {K : Kind α} {w : World} {A : Option Addr} {c g : Nat} {L : List α} (h : RC K w A c L) (hx : IsBox w g) (hs : Strange K) : ∀ y, 0 < L.length → A = some y → y.block ≠ g := fun y h0 hy hg => by
  obtain ⟨v, A0, A1, A2, A3, n0, c0, n1, c1, n2, c2, n3, c3, U, hx⟩ := hx
  obtain ⟨b, o, e, hl, hc⟩ := h.1 h0
  rw [hy] at e
  cases e
  simp only at hg
  subst hg
  obtain ⟨x, hx0⟩ : ∃ x, L[0]? = some x := ⟨L[0], List.getElem?_eq_getElem h0⟩
  obtain ⟨u, hu, hu1, hu2⟩ := hs x
  have h1 := hc 0 x hx0 0 _ hu
  simp only [World.cell?, hx, Option.isSome_none, Bool.false_eq_true, if_false, Nat.zero_mul, Nat.add_zero] at h1
  match o, h1 with
  | 0, h1 => exact hu1 v (by simpa using h1.symm)
  | 1, h1 => exact hu2 A0 n0 c0 (by simpa using h1.symm)
  | 2, h1 => exact hu2 A1 n1 c1 (by simpa using h1.symm)
  | 3, h1 => exact hu2 A2 n2 c2 (by simpa using h1.symm)
  | 4, h1 => exact hu2 A3 n3 c3 (by simpa using h1.symm)
  | o + 5, h1 => simp at h1
theorem rc_box {α : Type} {K : Kind α} {w w' : World} {A : Option Addr} {c : Nat} {L : List α} {T : List Nat} (h : RC K w A c L) (hi : Flow.Into T w w') (hT : ∀ b ∈ T, IsBox w b) (hs : Strange K) : RC K w' A c L := rc_into h hi fun y h0 hy hm => rc_off h (hT _ hm) hs y h0 hy rfl
theorem nd_box {w w' : World} {n : Nd} {a : At} {T : List Nat} (h : NdIn w n a) (hi : Flow.Into T w w') (hT : ∀ b ∈ T, IsBox w b) : NdIn w' n a := ⟨rc_box h.kids hi hT strange_kd, rc_box h.piv hi hT strange_st, rc_box h.buf hi hT strange_mg, rc_box h.prs hi hT strange_pr⟩
theorem IsBox.of {w : World} {b : Nat} {v : Int} {A0 A1 A2 A3 : Option Addr} {n0 c0 n1 c1 n2 c2 n3 c3 : Nat} {U : TypeId} (h : w.heap[b]? = some (.cells #[.int .i64 v, .slice A0 n0 c0, .slice A1 n1 c1, .slice A2 n2 c2, .slice A3 n3 c3] U (0, 0))) : IsBox w b := ⟨v, A0, A1, A2, A3, n0, c0, n1, c1, n2, c2, n3, c3, U, h⟩
theorem IsBox.one {w : World} {b : Nat} (h : IsBox w b) : ∀ k ∈ [b], IsBox w k := fun k hk => by
  obtain rfl : k = b := by simpa using hk
  exact h
theorem IsBox.two {w : World} {b d : Nat} (h : IsBox w b) (h' : IsBox w d) : ∀ k ∈ [b, d], IsBox w k := fun k hk => by
  rcases (by simpa using hk : k = b ∨ k = d) with rfl | rfl
  · exact h
  · exact h'
end No
end Go.Proofs.Ytgpbioljldkmaaa

namespace Go.Proofs.Ytgpbioljldkmaaa
open Go.RowKit
namespace No
open Mem Lx Bu Lf Fa
open Wd (be val be_length val_be isW)
def nilN : Nd := ⟨0, [], [], [], []⟩
/-- what Decode tells: the node whose block the bytes are, or why there is none -/
def DecP (c : Cfg) (b : List UInt8) (n : Nd) (f : Int) : Prop :=
  (¬ Cf.Right c.blocks c.bytes c.frames c.fan c.buffer c.leaf c.key c.val ∧ n = nilN ∧ f = 2) ∨
  (Cf.Right c.blocks c.bytes c.frames c.fan c.buffer c.leaf c.key c.val ∧ (∀ m, ¬ (RightA c m ∧ blockL c m = b)) ∧ n = nilN ∧ f = 12) ∨ (RightA c n ∧ blockL c n = b ∧ f = 0)
theorem DecP.one {c : Cfg} {b : List UInt8} {n n' : Nd} {f f' : Int} (h : DecP c b n f) (h' : DecP c b n' f') : n = n' ∧ f = f' := by
  rcases h with ⟨h1, rfl, rfl⟩ | ⟨h1, h2, rfl, rfl⟩ | ⟨h1, h2, rfl⟩ <;> rcases h' with ⟨k1, rfl, rfl⟩ | ⟨k1, k2, rfl, rfl⟩ | ⟨k1, k2, rfl⟩ <;> first | exact ⟨rfl, rfl⟩ | exact absurd k1 h1 | exact absurd h1 k1 | exact absurd k1.1 h1 | exact absurd h1.1 k1 | exact absurd ⟨k1, k2⟩ (h2 _) | exact absurd ⟨h1, h2⟩ (k2 _) | exact ⟨block_inj h1 k1 (h2.trans k2.symm), rfl⟩
/-- the same with the node in memory -/
def EvDec (c : Cfg) (b : List UInt8) (v : Value) (w : World) : Prop := ∃ n f z, v = .tuple #[.agg (ndCs n z), .int .i64 f] ∧ NdIn w n z ∧ DecP c b n f
theorem NdIn.nil (w : World) : NdIn w nilN ⟨none, 0, none, 0, none, 0, none, 0⟩ := ⟨RC.nil _ _ _, RC.nil _ _ _, RC.nil _ _ _, RC.nil _ _ _⟩
/-- the boxes within Decode: settings, result, and the node that grows; the rows lie from w0's end on -/
structure Dc (W w0 : World) (g s : Nat) (X Y N : Obj) (w : World) : Prop where
  bx : Bx2 W g X Y w
  box : w.heap[s]? = some N
  at_ : W.heap.size ≤ g
  lo : g + 1 < w0.heap.size
  ls : s < w0.heap.size
  size : w0.heap.size ≤ w.heap.size
  sne : W.heap.size ≤ s ∧ g ≠ s ∧ g + 1 ≠ s
section
variable {W w0 w w' : World} {g s i : Nat} {X Y N : Obj}
theorem Dc.kept (h : Dc W w0 g s X Y N w) (hb : Below w.heap.size w w') : Dc W w0 g s X Y N w' := ⟨h.bx.kept hb, kept3 h.box hb, h.at_, h.lo, h.ls, Nat.le_trans h.size hb.size, h.sne⟩
theorem Dc.grow (h : Dc W w0 g s X Y N w) (hb : Below w0.heap.size w w') : Dc W w0 g s X Y N w' := by
  have h1 := h.lo
  have h2 := h.ls
  have h3 := h.size
  have h4 := h.at_
  exact ⟨⟨h.bx.below.trans (hb.mono (by omega)), (hb.block g (by omega)).trans h.bx.x, (hb.block (g + 1) (by omega)).trans h.bx.y⟩, (hb.block s h2).trans h.box, h.at_, h.lo, h.ls, Nat.le_trans h.size hb.size, h.sne⟩
theorem Dc.set (h : Dc W w0 g s X Y N w) (v : Value) (N' : Obj) (hn : (w.setCell ⟨s, i, none⟩ v).heap[s]? = some N') : Dc W w0 g s X Y N' (w.setCell ⟨s, i, none⟩ v) := by
  obtain ⟨h1, h2, h3⟩ := h.sne
  exact ⟨⟨h.bx.below.setCell h1 _, (set_other _ h2).trans h.bx.x, (set_other _ h3).trans h.bx.y⟩, hn, h.at_, h.lo, h.ls, by simpa using h.size, h.sne⟩
end
end No
end Go.Proofs.Ytgpbioljldkmaaa

namespace Go.Proofs.Ytgpbioljldkmaaa
open Go.RowKit
namespace No
open Mem Lx Bu Lf Fa
open Wd (be val be_length val_be isW)
theorem kdinfD : (Try.prog.info? 69).map (fun i => (i.zero, i.size, i.bytes)) = some (some (.int .u32 0), 1, 4) := by kernel_rfl
theorem stinfD : (Try.prog.info? 9).map (fun i => (i.zero, i.size, i.bytes)) = some (some (.string ⟨#[]⟩), 1, 16) := by kernel_rfl
end No
end Go.Proofs.Ytgpbioljldkmaaa

namespace Go.Proofs.Ytgpbioljldkmaaa
open Go.RowKit
namespace Fa
open Mem Lx Bu
set_option maxRecDepth 100000 in
set_option maxHeartbeats 2000000 in
theorem RSameS_any {W : World} {A A' : Option Addr} {c c' : Nat} {L L' : List ByteArray} (h : SL W A L) (h' : SL W A' L') (hl : L.length ≤ 1048576) (_ : L'.length ≤ 1048576) : Calls Try.prog 14 #[.slice A L.length c, .slice A' L'.length c'] W fun e w' => (∃ v : Bool, e = .returned (.bool v) ∧ (v = true ↔ L = L')) ∧ Below W.heap.size W w' := by
  obtain ⟨n, hn⟩ : ∃ n, n = L.length := ⟨_, rfl⟩
  by_cases hnn : L.length = L'.length
  case neg =>
    have HR : Hid (¬ L = L') := fun e => hnn (by rw [e])
    have hd : ((L.length : Int) != (L'.length : Int)) = true := by simp; omega
    clear h h' hn hl
    generalize L.length = n at *
    generalize L'.length = n' at *
    clear hnn
    go_enter Try.func14, Try.ntmps14
    go_wp2
    go_ret
    exact ⟨⟨false, rfl, by simpa using HR.out⟩, Below.refl _ _⟩
  rw [← hnn, ← hn]
  rw [← hn] at hl
  have HN := Lib.hid hn
  have HN' : Hid (n = L'.length) := hn.trans hnn
  have HH := Lib.hid h
  have HH' := Lib.hid h'
  clear h h' hn hnn
  go_enter Try.func14, Try.ntmps14
  go_wp2_with fail
  go_loopg [5] n (fun gk iv wr => ∃ k : Nat, k ≤ n ∧ gk = n - k ∧ iv = .int .i64 (k : Int) ∧ Hid (∀ i, i < k → L[i]? = L'[i]?) ∧ Hid (Below W.heap.size W wr))
  case atStart => exact ⟨0, Nat.zero_le _, rfl, rfl, fun i hi => by omega, Below.refl _ _⟩
  case round =>
    obtain ⟨k, hk, rfl, rfl, HE, HB⟩ := hrel
    by_cases hlt : k < n
    · have hj : k < L.length := by rw [← HN.out]; exact hlt
      have hj' : k < L'.length := by rw [← HN'.out]; exact hlt
      obtain ⟨x, hx⟩ : ∃ x, x = L[k] := ⟨_, rfl⟩
      obtain ⟨y, hy⟩ : ∃ y, y = L'[k] := ⟨_, rfl⟩
      have hx' := nat_lenS hj
      have hy' := nat_lenS hj'
      rw [← hx] at hx'
      rw [← hy] at hy'
      obtain ⟨b, o, e, -, c0⟩ := RdK.str (HH.out.kept HB.out) hx'
      subst e
      obtain ⟨b', o', e', -, d0⟩ := RdK.str (HH'.out.kept HB.out) hy'
      subst e'
      have HX := Lib.hid hx'
      have HY := Lib.hid hy'
      by_cases hxy : x = y
      · have hne : (x.toList == y.toList) = true := by rw [ba_toList]; simpa using hxy
        have HE2 : Hid (∀ i, i < k + 1 → L[i]? = L'[i]?) := fun i hi => by
          by_cases e : i = k
          · subst e
            rw [HX.out, HY.out, hxy]
          · exact HE.out i (by omega)
        clear hxy
        have z0 := fun q : Drift.Tide [] wr [] => Drift.Tide.cell c0 (by simp) q
        have x0 := fun q : Drift.Tide [] wr [] => Drift.Tide.cell d0 (by simp) q
        have hw2 : IntKind.i64.wrap ((k : Int) + 1) = ((k + 1 : Nat) : Int) := by rw [IntKind.wrap_i64]; omega
        clear c0 d0 hx hy hx' hy' hj hj'
        go_upto_region 6 with fail
        refine Drift.wp_region_drift [] [(0,[]),(1,[]),(2,[]),(3,[]),(4,[]),(5,[]),(6,[]),(7,[]),(8,[])] [] [] (by kernel_rfl) (by kernel_rfl) (by simp) ?_
        simp only [Drift.pick, Drift.opsAt, List.getElem?_toArray, List.getElem?_cons_zero, List.getElem?_cons_succ, List.cons_append, List.nil_append, List.filterMap_nil]
        repeat (refine Drift.walk_step (fun K hK => ?_); go_simp; (refine hK _ ?_; clear hK K))
        refine Drift.walk_nil ?_
        intro w2 hb _
        have HB2 := Lib.hid (HB.out.trans (hb.mono HB.out.size))
        clear z0 x0 hb HB
        simp only [List.length_cons, List.length_nil, List.drop_succ_cons, List.drop_nil, Nat.zero_add, Nat.reduceAdd]
        go_wp2_with fail
        go_roundg (n - (k + 1))
        case measure => omega
        case rel => exact ⟨k + 1, hlt, rfl, by go_num, HE2, HB2⟩
      · have hne : (x.toList == y.toList) = false := by rw [ba_toList]; simpa using hxy
        have HN2 : Hid (¬ L = L') := fun e => hxy (by
          have h1 := HX.out
          rw [e, HY.out] at h1
          exact (Option.some.inj h1).symm)
        clear hxy
        have z0 := fun q : Drift.Tide [] wr [] => Drift.Tide.cell c0 (by simp) q
        have x0 := fun q : Drift.Tide [] wr [] => Drift.Tide.cell d0 (by simp) q
        have hw2 : IntKind.i64.wrap ((k : Int) + 1) = ((k + 1 : Nat) : Int) := by rw [IntKind.wrap_i64]; omega
        clear c0 d0 hx hy hx' hy' hj hj'
        go_upto_region 6 with fail
        refine Drift.wp_region_drift [] [(0,[]),(1,[]),(2,[]),(3,[]),(4,[]),(5,[]),(6,[]),(7,[]),(8,[])] [] [] (by kernel_rfl) (by kernel_rfl) (by simp) ?_
        simp only [Drift.pick, Drift.opsAt, List.getElem?_toArray, List.getElem?_cons_zero, List.getElem?_cons_succ, List.cons_append, List.nil_append, List.filterMap_nil]
        repeat (refine Drift.walk_step (fun K hK => ?_); go_simp; (refine hK _ ?_; clear hK K))
        refine Drift.walk_nil ?_
        intro w2 hb _
        have HB2 := Lib.hid (HB.out.trans (hb.mono HB.out.size))
        clear z0 x0 hb HB
        simp only [List.length_cons, List.length_nil, List.drop_succ_cons, List.drop_nil, Nat.zero_add, Nat.reduceAdd]
        go_wp2_with fail
        go_ret
        exact ⟨⟨false, rfl, by simpa using HN2.out⟩, HB2.out⟩
    · have HR : Hid (L = L') := by
        refine List.ext_getElem? fun i => ?_
        by_cases hi : i < k
        · exact HE.out i hi
        · rw [List.getElem?_eq_none (by rw [← HN.out]; omega), List.getElem?_eq_none (by rw [← HN'.out]; omega)]
      obtain rfl : k = n := by omega
      clear hlt
      go_wp2_with fail
      go_ret
      exact ⟨⟨true, rfl, by simpa using HR.out⟩, HB.out⟩
end Fa
end Go.Proofs.Ytgpbioljldkmaaa

namespace Go.Proofs.Ytgpbioljldkmaaa
open Go.RowKit
namespace No
open Mem Lx Bu
open Lf (Pr PrK PL P3 PC)
open Fa (StK SL SC wayS SRise RightS)
theorem nd_eq {n n' : Nd} : n = n' ↔ n.lv = n'.lv ∧ n.kids = n'.kids ∧ n.piv = n'.piv ∧ n.buf = n'.buf ∧ n.prs = n'.prs := by
  obtain ⟨a, b, c, d, e⟩ := n
  obtain ⟨a', b', c', d', e'⟩ := n'
  simp
set_option maxRecDepth 100000 in
set_option maxHeartbeats 4000000 in
theorem RSame_any {W : World} {n n' : Nd} {a a' : At} (h : NdIn W n a) (h' : NdIn W n' a') (hs : Sz n) (hs' : Sz n') : Calls Try.prog 8 #[.agg (ndCs n a), .agg (ndCs n' a')] W fun e w' => (∃ v : Bool, e = .returned (.bool v) ∧ (v = true ↔ n = n')) ∧ Below W.heap.size W w' := by
  obtain ⟨b1, hb1⟩ := bool_of (n.kids = n'.kids)
  obtain ⟨b2, hb2⟩ := bool_of (n.piv = n'.piv)
  obtain ⟨b3, hb3⟩ := bool_of (n.buf = n'.buf)
  obtain ⟨b4, hb4⟩ := bool_of (n.prs = n'.prs)
  have c1 : ∀ (W1 : World), Below W.heap.size W W1 → Hid (Calls Try.prog 13 #[.slice a.kA n.kids.length a.kc, .slice a'.kA n'.kids.length a'.kc] W1 fun e w' => e = .returned (.bool b1) ∧ Below W1.heap.size W1 w') := fun W1 hb => (RBlocks_any (c := a.kc) (c' := a'.kc) (h.kept hb).kids.1 (h'.kept hb).kids.1 (Nat.le_trans hs.kl (by decide)) (Nat.le_trans hs'.kl (by decide))).mono fun e w' ⟨⟨v, he, hv⟩, hb⟩ => ⟨by rw [he, bool_one hv hb1], hb⟩
  have c2 : ∀ (W1 : World), Below W.heap.size W W1 → Hid (Calls Try.prog 14 #[.slice a.pA n.piv.length a.pc, .slice a'.pA n'.piv.length a'.pc] W1 fun e w' => e = .returned (.bool b2) ∧ Below W1.heap.size W1 w') := fun W1 hb => (Fa.RSameS_any (c := a.pc) (c' := a'.pc) (h.kept hb).piv.1 (h'.kept hb).piv.1 (Nat.le_trans hs.pl (by decide)) (Nat.le_trans hs'.pl (by decide))).mono fun e w' ⟨⟨v, he, hv⟩, hb⟩ => ⟨by rw [he, bool_one hv hb2], hb⟩
  have c3 : ∀ (W1 : World), Below W.heap.size W W1 → Hid (Calls Try.prog 15 #[.slice a.bA n.buf.length a.bc, .slice a'.bA n'.buf.length a'.bc] W1 fun e w' => e = .returned (.bool b3) ∧ Below W1.heap.size W1 w') := fun W1 hb => (Bu.RSame_any (c := a.bc) (c' := a'.bc) (h.kept hb).buf.1 (h'.kept hb).buf.1 (Nat.le_trans hs.bl (by decide)) (Nat.le_trans hs'.bl (by decide))).mono fun e w' ⟨⟨v, he, hv⟩, hb⟩ => ⟨by rw [he, bool_one hv hb3], hb⟩
  have c4 : ∀ (W1 : World), Below W.heap.size W W1 → Hid (Calls Try.prog 16 #[.slice a.qA n.prs.length a.qc, .slice a'.qA n'.prs.length a'.qc] W1 fun e w' => e = .returned (.bool b4) ∧ Below W1.heap.size W1 w') := fun W1 hb => (Lf.RSame_any (c := a.qc) (c' := a'.qc) (h.kept hb).prs.1 (h'.kept hb).prs.1 (Nat.le_trans hs.ql (by decide)) (Nat.le_trans hs'.ql (by decide))).mono fun e w' ⟨⟨v, he, hv⟩, hb⟩ => ⟨by rw [he, bool_one hv hb4], hb⟩
  have HP : Hid (∀ v : Bool, v = (decide (n.lv = n'.lv) && b1 && b2 && b3 && b4) → (v = true ↔ n = n')) := fun v hv => by
    subst hv
    rw [nd_eq, Bool.and_eq_true, Bool.and_eq_true, Bool.and_eq_true, Bool.and_eq_true, hb1, hb2, hb3, hb4, decide_eq_true_iff, and_assoc, and_assoc, and_assoc]
  generalize hPP : (n = n') = PP at *
  clear hPP h h' hs hs' hb1 hb2 hb3 hb4
  obtain ⟨lv, K, P, B, Q⟩ := n
  obtain ⟨kA, kc, pA, pc, bA, bc, qA, qc⟩ := a
  obtain ⟨lv', K', P', B', Q'⟩ := n'
  obtain ⟨kA', kc', pA', pc', bA', bc', qA', qc'⟩ := a'
  unfold ndCs at *
  simp only at *
  generalize K.length = kn at *
  generalize P.length = pn at *
  generalize B.length = bn at *
  generalize Q.length = qn at *
  generalize K'.length = kn' at *
  generalize P'.length = pn' at *
  generalize B'.length = bn' at *
  generalize Q'.length = qn' at *
  go_enter Try.func8, Try.ntmps8
  go_upto_region 1 with fail
  have h3 := two_new W (.cells #[.int .i64 lv, .slice kA kn kc, .slice pA pn pc, .slice bA bn bc, .slice qA qn qc] 29) (.cells #[.int .i64 lv', .slice kA' kn' kc', .slice pA' pn' pc', .slice bA' bn' bc', .slice qA' qn' qc'] 29)
  generalize (W.alloc (.cells #[.int .i64 lv, .slice kA kn kc, .slice pA pn pc, .slice bA bn bc, .slice qA qn qc] 29)).alloc (.cells #[.int .i64 lv', .slice kA' kn' kc', .slice pA' pn' pc', .slice bA' bn' bc', .slice qA' qn' qc'] 29) = w1 at *
  have HB := Lib.hid h3.2.2
  obtain ⟨g, hg⟩ : ∃ g, g = W.heap.size := ⟨_, rfl⟩
  simp only [← hg]
  have HX : Hid (w1.heap[g]? = some (.cells #[.int .i64 lv, .slice kA kn kc, .slice pA pn pc, .slice bA bn bc, .slice qA qn qc] 29 (0, 0))) := by rw [hg]; exact h3.1
  have HY : Hid (w1.heap[g + 1]? = some (.cells #[.int .i64 lv', .slice kA' kn' kc', .slice pA' pn' pc', .slice bA' bn' bc', .slice qA' qn' qc'] 29 (0, 0))) := by rw [hg]; exact h3.2.1
  clear h3 hg
  obtain ⟨d0, d1, d2, d3, d4⟩ := box5 HX.out
  obtain ⟨e0, e1, e2, e3, e4⟩ := box5 HY.out
  by_cases hlv : lv = lv'
  case neg =>
    have hne : ¬ (lv = lv') := hlv
    go_wp2_with (first
      | (go_at_call 13; refine (c1 _ HB.out).out.mono ?_; rintro e w2 ⟨rfl, hb⟩; replace HB := Lib.hid (HB.out.trans (hb.mono HB.out.size)); replace HX := Lib.hid (kept3 HX.out hb); replace HY := Lib.hid (kept3 HY.out hb); replace d1 := (box5 HX.out).2.1; replace d2 := (box5 HX.out).2.2.1; replace d3 := (box5 HX.out).2.2.2.1; replace d4 := (box5 HX.out).2.2.2.2; replace e1 := (box5 HY.out).2.1; replace e2 := (box5 HY.out).2.2.1; replace e3 := (box5 HY.out).2.2.2.1; replace e4 := (box5 HY.out).2.2.2.2; clear hb)
      | (go_at_call 14; refine (c2 _ HB.out).out.mono ?_; rintro e w2 ⟨rfl, hb⟩; replace HB := Lib.hid (HB.out.trans (hb.mono HB.out.size)); replace HX := Lib.hid (kept3 HX.out hb); replace HY := Lib.hid (kept3 HY.out hb); replace d1 := (box5 HX.out).2.1; replace d2 := (box5 HX.out).2.2.1; replace d3 := (box5 HX.out).2.2.2.1; replace d4 := (box5 HX.out).2.2.2.2; replace e1 := (box5 HY.out).2.1; replace e2 := (box5 HY.out).2.2.1; replace e3 := (box5 HY.out).2.2.2.1; replace e4 := (box5 HY.out).2.2.2.2; clear hb)
      | (go_at_call 15; refine (c3 _ HB.out).out.mono ?_; rintro e w2 ⟨rfl, hb⟩; replace HB := Lib.hid (HB.out.trans (hb.mono HB.out.size)); replace HX := Lib.hid (kept3 HX.out hb); replace HY := Lib.hid (kept3 HY.out hb); replace d1 := (box5 HX.out).2.1; replace d2 := (box5 HX.out).2.2.1; replace d3 := (box5 HX.out).2.2.2.1; replace d4 := (box5 HX.out).2.2.2.2; replace e1 := (box5 HY.out).2.1; replace e2 := (box5 HY.out).2.2.1; replace e3 := (box5 HY.out).2.2.2.1; replace e4 := (box5 HY.out).2.2.2.2; clear hb)
      | (go_at_call 16; refine (c4 _ HB.out).out.mono ?_; rintro e w2 ⟨rfl, hb⟩; replace HB := Lib.hid (HB.out.trans (hb.mono HB.out.size)); replace HX := Lib.hid (kept3 HX.out hb); replace HY := Lib.hid (kept3 HY.out hb); replace d1 := (box5 HX.out).2.1; replace d2 := (box5 HX.out).2.2.1; replace d3 := (box5 HX.out).2.2.2.1; replace d4 := (box5 HX.out).2.2.2.2; replace e1 := (box5 HY.out).2.1; replace e2 := (box5 HY.out).2.2.1; replace e3 := (box5 HY.out).2.2.2.1; replace e4 := (box5 HY.out).2.2.2.2; clear hb))
    go_ret
    exact ⟨⟨false, rfl, HP.out false (by simp [hlv])⟩, HB.out⟩
  subst hlv
  cases b1 with
  | false =>
    go_wp2_with (first
      | (go_at_call 13; refine (c1 _ HB.out).out.mono ?_; rintro e w2 ⟨rfl, hb⟩; replace HB := Lib.hid (HB.out.trans (hb.mono HB.out.size)); replace HX := Lib.hid (kept3 HX.out hb); replace HY := Lib.hid (kept3 HY.out hb); replace d1 := (box5 HX.out).2.1; replace d2 := (box5 HX.out).2.2.1; replace d3 := (box5 HX.out).2.2.2.1; replace d4 := (box5 HX.out).2.2.2.2; replace e1 := (box5 HY.out).2.1; replace e2 := (box5 HY.out).2.2.1; replace e3 := (box5 HY.out).2.2.2.1; replace e4 := (box5 HY.out).2.2.2.2; clear hb)
      | (go_at_call 14; refine (c2 _ HB.out).out.mono ?_; rintro e w2 ⟨rfl, hb⟩; replace HB := Lib.hid (HB.out.trans (hb.mono HB.out.size)); replace HX := Lib.hid (kept3 HX.out hb); replace HY := Lib.hid (kept3 HY.out hb); replace d1 := (box5 HX.out).2.1; replace d2 := (box5 HX.out).2.2.1; replace d3 := (box5 HX.out).2.2.2.1; replace d4 := (box5 HX.out).2.2.2.2; replace e1 := (box5 HY.out).2.1; replace e2 := (box5 HY.out).2.2.1; replace e3 := (box5 HY.out).2.2.2.1; replace e4 := (box5 HY.out).2.2.2.2; clear hb)
      | (go_at_call 15; refine (c3 _ HB.out).out.mono ?_; rintro e w2 ⟨rfl, hb⟩; replace HB := Lib.hid (HB.out.trans (hb.mono HB.out.size)); replace HX := Lib.hid (kept3 HX.out hb); replace HY := Lib.hid (kept3 HY.out hb); replace d1 := (box5 HX.out).2.1; replace d2 := (box5 HX.out).2.2.1; replace d3 := (box5 HX.out).2.2.2.1; replace d4 := (box5 HX.out).2.2.2.2; replace e1 := (box5 HY.out).2.1; replace e2 := (box5 HY.out).2.2.1; replace e3 := (box5 HY.out).2.2.2.1; replace e4 := (box5 HY.out).2.2.2.2; clear hb)
      | (go_at_call 16; refine (c4 _ HB.out).out.mono ?_; rintro e w2 ⟨rfl, hb⟩; replace HB := Lib.hid (HB.out.trans (hb.mono HB.out.size)); replace HX := Lib.hid (kept3 HX.out hb); replace HY := Lib.hid (kept3 HY.out hb); replace d1 := (box5 HX.out).2.1; replace d2 := (box5 HX.out).2.2.1; replace d3 := (box5 HX.out).2.2.2.1; replace d4 := (box5 HX.out).2.2.2.2; replace e1 := (box5 HY.out).2.1; replace e2 := (box5 HY.out).2.2.1; replace e3 := (box5 HY.out).2.2.2.1; replace e4 := (box5 HY.out).2.2.2.2; clear hb))
    go_ret
    exact ⟨⟨false, rfl, HP.out false (by simp)⟩, HB.out⟩
  | true =>
    cases b2 with
    | false =>
      go_wp2_with (first
        | (go_at_call 13; refine (c1 _ HB.out).out.mono ?_; rintro e w2 ⟨rfl, hb⟩; replace HB := Lib.hid (HB.out.trans (hb.mono HB.out.size)); replace HX := Lib.hid (kept3 HX.out hb); replace HY := Lib.hid (kept3 HY.out hb); replace d1 := (box5 HX.out).2.1; replace d2 := (box5 HX.out).2.2.1; replace d3 := (box5 HX.out).2.2.2.1; replace d4 := (box5 HX.out).2.2.2.2; replace e1 := (box5 HY.out).2.1; replace e2 := (box5 HY.out).2.2.1; replace e3 := (box5 HY.out).2.2.2.1; replace e4 := (box5 HY.out).2.2.2.2; clear hb)
        | (go_at_call 14; refine (c2 _ HB.out).out.mono ?_; rintro e w2 ⟨rfl, hb⟩; replace HB := Lib.hid (HB.out.trans (hb.mono HB.out.size)); replace HX := Lib.hid (kept3 HX.out hb); replace HY := Lib.hid (kept3 HY.out hb); replace d1 := (box5 HX.out).2.1; replace d2 := (box5 HX.out).2.2.1; replace d3 := (box5 HX.out).2.2.2.1; replace d4 := (box5 HX.out).2.2.2.2; replace e1 := (box5 HY.out).2.1; replace e2 := (box5 HY.out).2.2.1; replace e3 := (box5 HY.out).2.2.2.1; replace e4 := (box5 HY.out).2.2.2.2; clear hb)
        | (go_at_call 15; refine (c3 _ HB.out).out.mono ?_; rintro e w2 ⟨rfl, hb⟩; replace HB := Lib.hid (HB.out.trans (hb.mono HB.out.size)); replace HX := Lib.hid (kept3 HX.out hb); replace HY := Lib.hid (kept3 HY.out hb); replace d1 := (box5 HX.out).2.1; replace d2 := (box5 HX.out).2.2.1; replace d3 := (box5 HX.out).2.2.2.1; replace d4 := (box5 HX.out).2.2.2.2; replace e1 := (box5 HY.out).2.1; replace e2 := (box5 HY.out).2.2.1; replace e3 := (box5 HY.out).2.2.2.1; replace e4 := (box5 HY.out).2.2.2.2; clear hb)
        | (go_at_call 16; refine (c4 _ HB.out).out.mono ?_; rintro e w2 ⟨rfl, hb⟩; replace HB := Lib.hid (HB.out.trans (hb.mono HB.out.size)); replace HX := Lib.hid (kept3 HX.out hb); replace HY := Lib.hid (kept3 HY.out hb); replace d1 := (box5 HX.out).2.1; replace d2 := (box5 HX.out).2.2.1; replace d3 := (box5 HX.out).2.2.2.1; replace d4 := (box5 HX.out).2.2.2.2; replace e1 := (box5 HY.out).2.1; replace e2 := (box5 HY.out).2.2.1; replace e3 := (box5 HY.out).2.2.2.1; replace e4 := (box5 HY.out).2.2.2.2; clear hb))
      go_ret
      exact ⟨⟨false, rfl, HP.out false (by simp)⟩, HB.out⟩
    | true =>
      cases b3 with
      | false =>
        go_wp2_with (first
          | (go_at_call 13; refine (c1 _ HB.out).out.mono ?_; rintro e w2 ⟨rfl, hb⟩; replace HB := Lib.hid (HB.out.trans (hb.mono HB.out.size)); replace HX := Lib.hid (kept3 HX.out hb); replace HY := Lib.hid (kept3 HY.out hb); replace d1 := (box5 HX.out).2.1; replace d2 := (box5 HX.out).2.2.1; replace d3 := (box5 HX.out).2.2.2.1; replace d4 := (box5 HX.out).2.2.2.2; replace e1 := (box5 HY.out).2.1; replace e2 := (box5 HY.out).2.2.1; replace e3 := (box5 HY.out).2.2.2.1; replace e4 := (box5 HY.out).2.2.2.2; clear hb)
          | (go_at_call 14; refine (c2 _ HB.out).out.mono ?_; rintro e w2 ⟨rfl, hb⟩; replace HB := Lib.hid (HB.out.trans (hb.mono HB.out.size)); replace HX := Lib.hid (kept3 HX.out hb); replace HY := Lib.hid (kept3 HY.out hb); replace d1 := (box5 HX.out).2.1; replace d2 := (box5 HX.out).2.2.1; replace d3 := (box5 HX.out).2.2.2.1; replace d4 := (box5 HX.out).2.2.2.2; replace e1 := (box5 HY.out).2.1; replace e2 := (box5 HY.out).2.2.1; replace e3 := (box5 HY.out).2.2.2.1; replace e4 := (box5 HY.out).2.2.2.2; clear hb)
          | (go_at_call 15; refine (c3 _ HB.out).out.mono ?_; rintro e w2 ⟨rfl, hb⟩; replace HB := Lib.hid (HB.out.trans (hb.mono HB.out.size)); replace HX := Lib.hid (kept3 HX.out hb); replace HY := Lib.hid (kept3 HY.out hb); replace d1 := (box5 HX.out).2.1; replace d2 := (box5 HX.out).2.2.1; replace d3 := (box5 HX.out).2.2.2.1; replace d4 := (box5 HX.out).2.2.2.2; replace e1 := (box5 HY.out).2.1; replace e2 := (box5 HY.out).2.2.1; replace e3 := (box5 HY.out).2.2.2.1; replace e4 := (box5 HY.out).2.2.2.2; clear hb)
          | (go_at_call 16; refine (c4 _ HB.out).out.mono ?_; rintro e w2 ⟨rfl, hb⟩; replace HB := Lib.hid (HB.out.trans (hb.mono HB.out.size)); replace HX := Lib.hid (kept3 HX.out hb); replace HY := Lib.hid (kept3 HY.out hb); replace d1 := (box5 HX.out).2.1; replace d2 := (box5 HX.out).2.2.1; replace d3 := (box5 HX.out).2.2.2.1; replace d4 := (box5 HX.out).2.2.2.2; replace e1 := (box5 HY.out).2.1; replace e2 := (box5 HY.out).2.2.1; replace e3 := (box5 HY.out).2.2.2.1; replace e4 := (box5 HY.out).2.2.2.2; clear hb))
        go_ret
        exact ⟨⟨false, rfl, HP.out false (by simp)⟩, HB.out⟩
      | true =>
        go_wp2_with (first
          | (go_at_call 13; refine (c1 _ HB.out).out.mono ?_; rintro e w2 ⟨rfl, hb⟩; replace HB := Lib.hid (HB.out.trans (hb.mono HB.out.size)); replace HX := Lib.hid (kept3 HX.out hb); replace HY := Lib.hid (kept3 HY.out hb); replace d1 := (box5 HX.out).2.1; replace d2 := (box5 HX.out).2.2.1; replace d3 := (box5 HX.out).2.2.2.1; replace d4 := (box5 HX.out).2.2.2.2; replace e1 := (box5 HY.out).2.1; replace e2 := (box5 HY.out).2.2.1; replace e3 := (box5 HY.out).2.2.2.1; replace e4 := (box5 HY.out).2.2.2.2; clear hb)
          | (go_at_call 14; refine (c2 _ HB.out).out.mono ?_; rintro e w2 ⟨rfl, hb⟩; replace HB := Lib.hid (HB.out.trans (hb.mono HB.out.size)); replace HX := Lib.hid (kept3 HX.out hb); replace HY := Lib.hid (kept3 HY.out hb); replace d1 := (box5 HX.out).2.1; replace d2 := (box5 HX.out).2.2.1; replace d3 := (box5 HX.out).2.2.2.1; replace d4 := (box5 HX.out).2.2.2.2; replace e1 := (box5 HY.out).2.1; replace e2 := (box5 HY.out).2.2.1; replace e3 := (box5 HY.out).2.2.2.1; replace e4 := (box5 HY.out).2.2.2.2; clear hb)
          | (go_at_call 15; refine (c3 _ HB.out).out.mono ?_; rintro e w2 ⟨rfl, hb⟩; replace HB := Lib.hid (HB.out.trans (hb.mono HB.out.size)); replace HX := Lib.hid (kept3 HX.out hb); replace HY := Lib.hid (kept3 HY.out hb); replace d1 := (box5 HX.out).2.1; replace d2 := (box5 HX.out).2.2.1; replace d3 := (box5 HX.out).2.2.2.1; replace d4 := (box5 HX.out).2.2.2.2; replace e1 := (box5 HY.out).2.1; replace e2 := (box5 HY.out).2.2.1; replace e3 := (box5 HY.out).2.2.2.1; replace e4 := (box5 HY.out).2.2.2.2; clear hb)
          | (go_at_call 16; refine (c4 _ HB.out).out.mono ?_; rintro e w2 ⟨rfl, hb⟩; replace HB := Lib.hid (HB.out.trans (hb.mono HB.out.size)); replace HX := Lib.hid (kept3 HX.out hb); replace HY := Lib.hid (kept3 HY.out hb); replace d1 := (box5 HX.out).2.1; replace d2 := (box5 HX.out).2.2.1; replace d3 := (box5 HX.out).2.2.2.1; replace d4 := (box5 HX.out).2.2.2.2; replace e1 := (box5 HY.out).2.1; replace e2 := (box5 HY.out).2.2.1; replace e3 := (box5 HY.out).2.2.2.1; replace e4 := (box5 HY.out).2.2.2.2; clear hb))
        go_ret
        exact ⟨⟨b4, rfl, HP.out b4 (by simp)⟩, HB.out⟩
end No
end Go.Proofs.Ytgpbioljldkmaaa

namespace Go.Proofs.Ytgpbioljldkmaaa
open Go.RowKit
namespace No
open Mem Lx Bu Lf Fa
theorem rd_block {α : Type} {K : Kind α} {w : World} {g : Nat} {L : List α} {f : Nat × Nat} (h : w.heap[g]? = some (.cells (L.flatMap K.cs).toArray K.T f)) : RdK K w (some ⟨g, 0, none⟩) L := fun _ => by
  refine ⟨g, 0, rfl, (Array.getElem?_eq_some_iff.1 h).1, fun i x hx j u hu => ?_⟩
  have hj : j < K.k := by
    have := (List.getElem?_eq_some_iff.1 hu).1
    rw [K.len] at this
    exact this
  have := K.at_ hx hj
  simp only [World.cell?, h, Nat.zero_add]
  simpa [this] using hu
end No
end Go.Proofs.Ytgpbioljldkmaaa

namespace Go.Proofs.Ytgpbioljldkmaaa
open Go.RowKit
namespace No
open Mem Lx Bu Lf Fa
/-- bytes of the call's own: the slice reads as s, and its block may be written -/
structure FrB (w : World) (B : Nat) (A : Option Addr) (s : List UInt8) : Prop where
  bl : BL w A s
  own : 0 < s.length → ∃ (g o : Nat) (C : Array Value), A = some ⟨g, o, none⟩ ∧ B ≤ g ∧ w.heap[g]? = some (.cells C 5 (0, 0))
theorem FrB.kept {w w' : World} {B : Nat} {A : Option Addr} {s : List UInt8} (h : FrB w B A s) (hb : Below w.heap.size w w') : FrB w' B A s := ⟨h.bl.below hb, fun h0 => by
  obtain ⟨g, o, C, e, h1, h2⟩ := h.own h0
  exact ⟨g, o, C, e, h1, kept3 h2 hb⟩⟩
set_option maxHeartbeats 1000000 in
theorem Light_any (c : Cfg) (W : World) : Calls Try.prog 4 #[.agg (cfCs c)] W fun e w' => e = .returned (.bool (decide (c.bytes ≤ 3000))) ∧ Below W.heap.size W w' := by
  obtain ⟨cB, cY, cF, cN, cU, cL, cKy, cV⟩ := c
  unfold cfCs
  have HB : Hid (Below W.heap.size W (W.alloc (.cells #[.int .i64 cB, .int .i64 cY, .int .i64 cF, .int .i64 cN, .int .i64 cU, .int .i64 cL, .int .i64 cKy, .int .i64 cV] 23))) := (Below.refl _ _).alloc (Nat.le_refl _) _
  by_cases h : cY ≤ 3000
  · have HR : Hid (decide (cY ≤ 3000) = true) := decide_eq_true h
    go_enter Try.func4, Try.ntmps4
    go_wp2_with fail
    go_ret
    exact ⟨by rw [HR.out]; rfl, HB.out⟩
  · have HR : Hid (decide (cY ≤ 3000) = false) := decide_eq_false h
    have h2 : (3000 : Int) < cY := by omega
    clear h
    go_enter Try.func4, Try.ntmps4
    go_wp2_with fail
    go_ret
    exact ⟨by rw [HR.out]; rfl, HB.out⟩
/-! ### the page's example -/
def cC : Cfg := ⟨9, 200, 8, 8, 16, 16, 2, 1⟩
def cN : Nd := ⟨0, [], [], [], [(⟨#[97]⟩, ⟨#[55]⟩)]⟩
theorem c_right : RightA cC cN := by
  refine ⟨by unfold Cf.Right Cf.Shape Cf.few Cf.inn Cf.out cC; decide, fun _ => ⟨fun p hp => ?_, rfl, rfl, rfl, by decide, fun i a b ha hb => ?_⟩, fun h => absurd rfl h⟩
  · obtain rfl : p = (⟨#[97]⟩, ⟨#[55]⟩) := by simpa [cN] using hp
    exact ⟨by decide +kernel, by decide +kernel, by decide +kernel⟩
  · match i, ha, hb with
    | 0, _, hb => simp [cN] at hb
    | i + 1, ha, _ => simp [cN] at ha
theorem c_block : (blockL cC cN).take 15 = [1, 0, 0, 1, 0, 0, 0, 0, 1, 0, 1, 97, 0, 55, 0] ∧ (blockL cC cN).length = 200 := by
  refine ⟨by decide +kernel, ?_⟩
  rw [(block_cand c_right).1]
  rfl
theorem c_sz : Sz cN := ⟨by decide +kernel, by decide +kernel, by decide +kernel, by decide, by decide, by decide, by decide⟩
theorem c_enc : EncP cC cN (blockL cC cN) 0 := .inr (.inr ⟨c_right, rfl, rfl⟩)
theorem c_dec : DecP cC (blockL cC cN) cN 0 := .inr (.inr ⟨c_right, rfl, rfl⟩)
end No
end Go.Proofs.Ytgpbioljldkmaaa

namespace Go.Proofs.Ytgpbioljldkmaaa
open Go.RowKit
namespace Fa
open Mem Lx Bu
/-- what stands ahead of place i: the span's front, or the pivot there -/
def ahdS (L : List ByteArray) (lo : ByteArray) : Nat → ByteArray
  | 0 => lo
  | i + 1 => (L[i]?).getD lo
theorem right_iff {L : List ByteArray} {lo hi : ByteArray} {top : Bool} : RightS L lo hi top ↔ ∀ (i : Nat) (x : ByteArray), L[i]? = some x → cmpB (ahdS L lo i) x < 0 ∧ inB lo hi top x = true := by
  constructor
  · rintro ⟨h1, h2⟩ i x hx
    have h3 := h1 x (List.mem_of_getElem? hx)
    refine ⟨?_, h3.1⟩
    cases i with
    | zero =>
      show cmpB lo x < 0
      have h4 := (inB_iff.1 h3.1).1
      rcases cmpB_tri lo x with h5 | h5 | h5
      · exact h5
      · exact absurd h5.symm h3.2
      · have := cmpB_neg lo x
        omega
    | succ i =>
      obtain ⟨y, hy⟩ : ∃ y, L[i]? = some y := ⟨L[i]'(by have := (List.getElem?_eq_some_iff.1 hx).1; omega), List.getElem?_eq_getElem _⟩
      show cmpB ((L[i]?).getD lo) x < 0
      rw [hy]
      exact h2 i y x hy hx
  · intro h
    have hr : SRise L := fun i a b ha hb => by
      have this : cmpB ((L[i]?).getD lo) b < 0 := (h (i + 1) b hb).1
      rw [ha] at this
      exact this
    refine ⟨fun p hp => ?_, hr⟩
    obtain ⟨i, hi⟩ := List.mem_iff_getElem?.1 hp
    refine ⟨(h i p hi).2, ?_⟩
    obtain ⟨x0, h0⟩ : ∃ x0, L[0]? = some x0 := ⟨L[0]'(by have := (List.getElem?_eq_some_iff.1 hi).1; omega), List.getElem?_eq_getElem _⟩
    have h1 := (h 0 _ h0).1
    rcases Nat.eq_zero_or_pos i with rfl | h2
    · rw [hi] at h0
      cases h0
      exact (cmpB_ne h1).symm
    · exact (cmpB_ne (cmpB_trans h1 ((srise_iff.1 hr).at_ h0 hi h2))).symm
set_option maxRecDepth 100000 in
set_option maxHeartbeats 4000000 in
set_option maxRecDepth 100000 in
theorem Right_c {W : World} {A : Option Addr} {c : Nat} {L : List ByteArray} (h : SC W A c L) (lo hi : ByteArray) (top : Bool) (hl : L.length ≤ 1000) : Calls Try.prog 62 #[.slice A L.length c, .agg #[.string lo, .string hi, .bool top]] W fun e w' => (∃ v : Bool, e = .returned (.bool v) ∧ (v = true ↔ RightS L lo hi top)) ∧ Below W.heap.size W w' := by
  have HH : Hid (SL W A L) := h.1
  obtain ⟨P, hP⟩ : ∃ P : Prop, P = RightS L lo hi top := ⟨_, rfl⟩
  have HP : Hid (P ↔ ∀ (i : Nat) (x : ByteArray), L[i]? = some x → cmpB (ahdS L lo i) x < 0 ∧ inB lo hi top x = true) := by rw [hP]; exact right_iff
  rw [← hP]
  generalize hn : L.length = n at *
  have HN := Lib.hid hn
  clear h hn hP
  go_enter Try.func62, Try.ntmps62
  go_upto_region 1 with fail
  have hx := heap_alloc_new W (.cells #[.string lo, .string hi, .bool top] 58)
  have hb0 : Below W.heap.size W (W.alloc (.cells #[.string lo, .string hi, .bool top] 58)) := (Below.refl _ _).alloc (Nat.le_refl _) _
  generalize W.alloc (.cells #[.string lo, .string hi, .bool top] 58) = w1 at *
  obtain ⟨g, hg⟩ : ∃ g, g = W.heap.size := ⟨_, rfl⟩
  rw [← hg] at hx ⊢
  obtain ⟨d0, d1, d2⟩ := box3 hx
  have HX := Lib.hid hx
  have HB := Lib.hid hb0
  clear hx hb0 hg
  go_upto_region 2 with fail
  clear d0 d1 d2
  go_wp2_with fail
  go_loopg [5, 12] n (fun gk av iv wr => ∃ k : Nat, k ≤ n ∧ gk = n - k ∧ av = .string (ahdS L lo k) ∧ iv = .int .i64 (k : Int) ∧ Hid (∀ (i : Nat) (x : ByteArray), i < k → L[i]? = some x → cmpB (ahdS L lo i) x < 0 ∧ inB lo hi top x = true) ∧ Hid (Below W.heap.size W wr ∧ wr.heap[g]? = some (.cells #[.string lo, .string hi, .bool top] 58 (0, 0))))
  case atStart => exact ⟨0, Nat.zero_le _, rfl, rfl, rfl, fun i x hi => by omega, HB.out, HX.out⟩
  case round =>
    clear HB HX
    obtain ⟨k, hkn, rfl, rfl, rfl, HE, HB⟩ := hrel
    by_cases hlt : k < n
    · have hj : k < L.length := by rw [HN.out]; exact hlt
      obtain ⟨x, hx⟩ : ∃ x, x = L[k] := ⟨_, rfl⟩
      have hx' := nat_lenS hj
      rw [← hx] at hx'
      obtain ⟨b, o, e, -, c0⟩ := RdK.str (HH.out.kept HB.out.1) hx'
      subst e
      obtain ⟨d0, d1, d2⟩ := box3 HB.out.2
      have HXX := Lib.hid hx'
      have HA2 : Hid (ahdS L lo (k + 1) = x) := by
        show (L[k]?).getD lo = x
        rw [hx']
        rfl
      have hw : IntKind.i64.wrap ((k : Int) + 1) = ((k + 1 : Nat) : Int) := by rw [IntKind.wrap_i64]; omega
      obtain ⟨a, ha⟩ : ∃ a, a = ahdS L lo k := ⟨_, rfl⟩
      rw [← ha]
      have HAA := Lib.hid ha
      have cC := fun w => Lib.hid (Compare_any a x w)
      have cI := fun w => Lib.hid (In_any lo hi top x w)
      clear hx hx' hj ha
      by_cases hz : cmpB a x < 0
      · have HE2 : Hid (inB lo hi top x = true → ∀ (i : Nat) (y : ByteArray), i < k + 1 → L[i]? = some y → cmpB (ahdS L lo i) y < 0 ∧ inB lo hi top y = true) := fun hin i y hi hy => by
          by_cases e : i = k
          · subst e
            rw [HXX.out] at hy
            cases hy
            exact ⟨by rw [← HAA.out]; exact hz, hin⟩
          · exact HE.out i y (by omega) hy
        have hd : decide (0 ≤ cmpB a x) = false := by simpa using hz
        clear hz
        generalize cmpB a x = z at *
        obtain ⟨t, ht⟩ : ∃ t, t = inB lo hi top x := ⟨_, rfl⟩
        rw [← ht] at cI
        have HT := Lib.hid ht
        clear ht
        cases t with
        | true =>
          go_wp2_with first | (go_at_call 68; refine (cC _).out.mono ?_; rintro e w' ⟨rfl, rfl⟩) | (go_at_call 67; refine (cI _).out.mono ?_; rintro e w' ⟨rfl, hb⟩)
          have HB2 : Hid (Below W.heap.size W w' ∧ w'.heap[g]? = some (.cells #[.string lo, .string hi, .bool top] 58 (0, 0))) := ⟨HB.out.1.trans (hb.mono HB.out.1.size), kept3 HB.out.2 hb⟩
          go_roundg (n - (k + 1))
          case measure => omega
          case rel => exact ⟨k + 1, hlt, rfl, by rw [HA2.out], by go_num, HE2.out HT.out.symm, HB2⟩
        | false =>
          have HF : Hid (¬ P) := fun hp => by
            have := (HP.out.1 hp k x HXX.out).2
            rw [← HT.out] at this
            cases this
          go_wp2_with first | (go_at_call 68; refine (cC _).out.mono ?_; rintro e w' ⟨rfl, rfl⟩) | (go_at_call 67; refine (cI _).out.mono ?_; rintro e w' ⟨rfl, hb⟩)
          go_ret
          exact ⟨⟨false, rfl, by simpa using HF.out⟩, HB.out.1.trans (hb.mono HB.out.1.size)⟩
      · have HF : Hid (¬ P) := fun hp => by
          have := (HP.out.1 hp k x HXX.out).1
          rw [← HAA.out] at this
          exact hz this
        have hd : 0 ≤ cmpB a x := by omega
        clear hz
        generalize cmpB a x = z at *
        go_wp2_with (go_at_call 68; refine (cC _).out.mono ?_; rintro e w' ⟨rfl, rfl⟩)
        go_ret
        exact ⟨⟨false, rfl, by simpa using HF.out⟩, HB.out.1⟩
    · have HT : Hid P := HP.out.2 fun i x hx => HE.out i x (by
        have := (List.getElem?_eq_some_iff.1 hx).1
        rw [HN.out] at this
        omega) hx
      obtain rfl : k = n := by omega
      clear hlt
      go_wp2_with fail
      go_ret
      exact ⟨⟨true, rfl, by simpa using HT.out⟩, HB.out.1⟩
theorem Right_any {W : World} {A : Option Addr} {c : Nat} {L : List ByteArray} (h : SC W A c L) (lo hi : ByteArray) (top : Bool) (_ : lo.size ≤ 1000) (_ : hi.size ≤ 1000) (_ : ∀ m, m ∈ L → m.size ≤ 1000) (hl : L.length ≤ 1000) : Calls Try.prog 62 #[.slice A L.length c, .agg #[.string lo, .string hi, .bool top]] W fun e w' => (∃ v : Bool, e = .returned (.bool v) ∧ (v = true ↔ RightS L lo hi top)) ∧ Below W.heap.size W w' := Right_c h lo hi top hl
end Fa
end Go.Proofs.Ytgpbioljldkmaaa

namespace Go.Proofs.Ytgpbioljldkmaaa
open Go.RowKit
namespace Bu
open Mem Lx
set_option maxRecDepth 100000 in
set_option maxHeartbeats 2000000 in
set_option maxRecDepth 100000 in
theorem Right_any {W : World} {A : Option Addr} {c : Nat} {L : List Mg} (h : ML W A L) (hk : ∀ m, m ∈ L → m.1.size ≤ maxLen) (hl : L.length ≤ 1048576) : Calls Try.prog 63 #[.slice A L.length c] W fun e w' => (∃ v : Bool, e = .returned (.bool v) ∧ (v = true ↔ Rise L)) ∧ Below W.heap.size W w' := by
  obtain ⟨n, hn⟩ : ∃ n, n = L.length := ⟨_, rfl⟩
  have HN := Lib.hid hn
  have HH := Lib.hid h
  have HK := Lib.hid hk
  rw [← hn] at hl ⊢
  clear h hk hn
  go_enter Try.func63, Try.ntmps63
  go_wp2_with fail
  go_loopg [3] (n - 1) (fun gk iv wr => ∃ k : Nat, 1 ≤ k ∧ (k = 1 ∨ k ≤ n) ∧ gk = n - k ∧ iv = .int .i64 (k : Int) ∧ Hid (∀ (i : Nat) (a b : Mg), i + 1 < k → L[i]? = some a → L[i + 1]? = some b → cmpB a.1 b.1 < 0) ∧ Hid (Below W.heap.size W wr))
  case atStart => exact ⟨1, Nat.le_refl _, .inl rfl, rfl, rfl, fun i a b hi => by omega, Below.refl _ _⟩
  case round =>
    obtain ⟨k, hk1, hkn, rfl, rfl, HE, HB⟩ := hrel
    by_cases hlt : k < n
    · obtain ⟨j, hjk⟩ : ∃ j, k = j + 1 := ⟨k - 1, by omega⟩
      have hj : j < L.length := by rw [← HN.out]; omega
      have hj1 : k < L.length := by rw [← HN.out]; omega
      obtain ⟨x, hx⟩ : ∃ x, x = L[j] := ⟨_, rfl⟩
      obtain ⟨y, hy⟩ : ∃ y, y = L[k] := ⟨_, rfl⟩
      have hx' := nat_len hj
      have hy' := nat_len hj1
      rw [← hx] at hx'
      rw [← hy] at hy'
      obtain ⟨b, o, e, hc⟩ := RdK.place (HH.out.kept HB.out) (Nat.lt_of_le_of_lt (Nat.zero_le _) hj)
      subst e
      obtain ⟨c0, -, -⟩ := hc j x hx'
      obtain ⟨c1, -, -⟩ := hc k y hy'
      have cC := fun w => Lib.hid (CCmp x.1 y.1 w)
      have HX := Lib.hid hx'
      have HY := Lib.hid hy'
      have z0 := fun q : Drift.Tide [] wr [] => Drift.Tide.cell c0 (by simp) q
      have z1 := fun q : Drift.Tide [] wr [] => Drift.Tide.cell c1 (by simp) q
      have hw1 : IntKind.i64.wrap ((k : Int) - 1) = (j : Int) := by rw [IntKind.wrap_i64]; omega
      have hw2 : IntKind.i64.wrap ((k : Int) + 1) = ((k + 1 : Nat) : Int) := by rw [IntKind.wrap_i64]; omega
      have HJ := Lib.hid hjk
      have hjn : j < n := by omega
      clear hc c0 c1 hx hy hx' hy' hj hj1 hjk
      go_upto_region 4 with fail
      refine Drift.wp_region_drift [] [(0,[]),(1,[]),(2,[]),(3,[]),(4,[]),(5,[]),(6,[]),(7,[]),(8,[]),(9,[]),(10,[]),(11,[]),(12,[])] [] [] (by kernel_rfl) (by kernel_rfl) (by simp) ?_
      simp only [Drift.pick, Drift.opsAt, List.getElem?_toArray, List.getElem?_cons_zero, List.getElem?_cons_succ, List.cons_append, List.nil_append, List.filterMap_nil]
      repeat (refine Drift.walk_step (fun K hK => ?_); go_simp; first | (refine hK _ ?_; clear hK K) | (apply Exists.intro; refine ⟨fun q => ?_, hK _ ?_⟩; (go_at_call 68; exact (cC _).out); clear hK K))
      refine Drift.walk_nil ?_
      intro w2 hb _
      have HB2 := Lib.hid (HB.out.trans (hb.mono HB.out.size))
      clear z0 z1 hw1 hb HB cC
      simp only [List.length_cons, List.length_nil, List.drop_succ_cons, List.drop_nil, Nat.zero_add, Nat.reduceAdd]
      by_cases hcm : cmpB x.1 y.1 < 0
      · have hd : decide (0 ≤ cmpB x.1 y.1) = false := by simpa using hcm
        have HE2 : Hid (∀ (i : Nat) (a b : Mg), i + 1 < k + 1 → L[i]? = some a → L[i + 1]? = some b → cmpB a.1 b.1 < 0) := fun i a b hi ha hb => by
          by_cases e : i = j
          · subst e
            rw [HX.out] at ha
            rw [← HJ.out, HY.out] at hb
            cases ha
            cases hb
            exact hcm
          · exact HE.out i a b (by have := HJ.out; omega) ha hb
        generalize cmpB x.1 y.1 = z at *
        clear hd
        go_wp2_with fail
        go_roundg (n - (k + 1))
        case measure => omega
        case rel => exact ⟨k + 1, by omega, .inr hlt, rfl, by go_num, HE2, HB2⟩
      · have HN2 : Hid (¬ Rise L) := fun hr => hcm (hr j x y HX.out (by rw [← HJ.out]; exact HY.out))
        have hd : 0 ≤ cmpB x.1 y.1 := by omega
        clear hcm
        generalize cmpB x.1 y.1 = z at *
        go_wp2_with fail
        go_ret
        exact ⟨⟨false, rfl, by simpa using HN2.out⟩, HB2.out⟩
    · have HR : Hid (Rise L) := fun i a b ha hb => HE.out i a b (by
        have := (List.getElem?_eq_some_iff.1 hb).1
        rw [← HN.out] at this
        omega) ha hb
      have hge : n ≤ k := by omega
      have hd : decide ((k : Int) < (n : Int)) = false := by simp; omega
      clear hlt
      go_wp2_with fail
      go_ret
      exact ⟨⟨true, rfl, by simpa using HR.out⟩, HB.out⟩
end Bu
end Go.Proofs.Ytgpbioljldkmaaa

namespace Go.Proofs.Ytgpbioljldkmaaa
open Go.RowKit
namespace Lf
open Mem Lx Bu
set_option maxRecDepth 100000 in
set_option maxHeartbeats 2000000 in
set_option maxRecDepth 100000 in
theorem Right_any {W : World} {A : Option Addr} {c : Nat} {L : List Pr} (h : PL W A L) (hl : L.length ≤ 1048576) : Calls Try.prog 58 #[.slice A L.length c] W fun e w' => (∃ v : Bool, e = .returned (.bool v) ∧ (v = true ↔ PRise L)) ∧ Below W.heap.size W w' := by
  obtain ⟨n, hn⟩ : ∃ n, n = L.length := ⟨_, rfl⟩
  have HN := Lib.hid hn
  have HH := Lib.hid h
  rw [← hn] at hl ⊢
  clear h hn
  go_enter Try.func58, Try.ntmps58
  go_wp2_with fail
  go_loopg [3] (n - 1) (fun gk iv wr => ∃ k : Nat, 1 ≤ k ∧ (k = 1 ∨ k ≤ n) ∧ gk = n - k ∧ iv = .int .i64 (k : Int) ∧ Hid (∀ (i : Nat) (a b : Pr), i + 1 < k → L[i]? = some a → L[i + 1]? = some b → cmpB a.1 b.1 < 0) ∧ Hid (Below W.heap.size W wr))
  case atStart => exact ⟨1, Nat.le_refl _, .inl rfl, rfl, rfl, fun i a b hi => by omega, Below.refl _ _⟩
  case round =>
    obtain ⟨k, hk1, hkn, rfl, rfl, HE, HB⟩ := hrel
    by_cases hlt : k < n
    · obtain ⟨j, hjk⟩ : ∃ j, k = j + 1 := ⟨k - 1, by omega⟩
      have hj : j < L.length := by rw [← HN.out]; omega
      have hj1 : k < L.length := by rw [← HN.out]; omega
      obtain ⟨x, hx⟩ : ∃ x, x = L[j] := ⟨_, rfl⟩
      obtain ⟨y, hy⟩ : ∃ y, y = L[k] := ⟨_, rfl⟩
      have hx' := nat_len hj
      have hy' := nat_len hj1
      rw [← hx] at hx'
      rw [← hy] at hy'
      obtain ⟨b, o, e, hc⟩ := RdK.pplace (HH.out.kept HB.out) (Nat.lt_of_le_of_lt (Nat.zero_le _) hj)
      subst e
      obtain ⟨c0, -⟩ := hc j x hx'
      obtain ⟨c1, -⟩ := hc k y hy'
      have cC := fun w => Lib.hid (CCmp x.1 y.1 w)
      have HX := Lib.hid hx'
      have HY := Lib.hid hy'
      have z0 := fun q : Drift.Tide [] wr [] => Drift.Tide.cell c0 (by simp) q
      have z1 := fun q : Drift.Tide [] wr [] => Drift.Tide.cell c1 (by simp) q
      have hw1 : IntKind.i64.wrap ((k : Int) - 1) = (j : Int) := by rw [IntKind.wrap_i64]; omega
      have hw2 : IntKind.i64.wrap ((k : Int) + 1) = ((k + 1 : Nat) : Int) := by rw [IntKind.wrap_i64]; omega
      have HJ := Lib.hid hjk
      have hjn : j < n := by omega
      clear hc c0 c1 hx hy hx' hy' hj hj1 hjk
      go_upto_region 4 with fail
      refine Drift.wp_region_drift [] [(0,[]),(1,[]),(2,[]),(3,[]),(4,[]),(5,[]),(6,[]),(7,[]),(8,[]),(9,[]),(10,[]),(11,[]),(12,[])] [] [] (by kernel_rfl) (by kernel_rfl) (by simp) ?_
      simp only [Drift.pick, Drift.opsAt, List.getElem?_toArray, List.getElem?_cons_zero, List.getElem?_cons_succ, List.cons_append, List.nil_append, List.filterMap_nil]
      repeat (refine Drift.walk_step (fun K hK => ?_); go_simp; first | (refine hK _ ?_; clear hK K) | (apply Exists.intro; refine ⟨fun q => ?_, hK _ ?_⟩; (go_at_call 68; exact (cC _).out); clear hK K))
      refine Drift.walk_nil ?_
      intro w2 hb _
      have HB2 := Lib.hid (HB.out.trans (hb.mono HB.out.size))
      clear z0 z1 hw1 hb HB cC
      simp only [List.length_cons, List.length_nil, List.drop_succ_cons, List.drop_nil, Nat.zero_add, Nat.reduceAdd]
      by_cases hcm : cmpB x.1 y.1 < 0
      · have hd : decide (0 ≤ cmpB x.1 y.1) = false := by simpa using hcm
        have HE2 : Hid (∀ (i : Nat) (a b : Pr), i + 1 < k + 1 → L[i]? = some a → L[i + 1]? = some b → cmpB a.1 b.1 < 0) := fun i a b hi ha hb => by
          by_cases e : i = j
          · subst e
            rw [HX.out] at ha
            rw [← HJ.out, HY.out] at hb
            cases ha
            cases hb
            exact hcm
          · exact HE.out i a b (by have := HJ.out; omega) ha hb
        generalize cmpB x.1 y.1 = z at *
        clear hd
        go_wp2_with fail
        go_roundg (n - (k + 1))
        case measure => omega
        case rel => exact ⟨k + 1, by omega, .inr hlt, rfl, by go_num, HE2, HB2⟩
      · have HN2 : Hid (¬ PRise L) := fun hr => hcm (hr j x y HX.out (by rw [← HJ.out]; exact HY.out))
        have hd : 0 ≤ cmpB x.1 y.1 := by omega
        clear hcm
        generalize cmpB x.1 y.1 = z at *
        go_wp2_with fail
        go_ret
        exact ⟨⟨false, rfl, by simpa using HN2.out⟩, HB2.out⟩
    · have HR : Hid (PRise L) := fun i a b ha hb => HE.out i a b (by
        have := (List.getElem?_eq_some_iff.1 hb).1
        rw [← HN.out] at this
        omega) ha hb
      have hge : n ≤ k := by omega
      have hd : decide ((k : Int) < (n : Int)) = false := by simp; omega
      clear hlt
      go_wp2_with fail
      go_ret
      exact ⟨⟨true, rfl, by simpa using HR.out⟩, HB.out⟩
end Lf
end Go.Proofs.Ytgpbioljldkmaaa
