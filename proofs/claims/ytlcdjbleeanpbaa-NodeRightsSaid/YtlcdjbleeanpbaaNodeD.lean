/-
  Which nodes are right (no memory); three boxes.
-/
import Derived.Test.YtlcdjbleeanpbaaNodeK
import Derived.Test.YtlcdjbleeanpbaaSpanD
import Derived.Test.YtlcdjbleeanpbaaMsgRS
import Derived.Test.YtlcdjbleeanpbaaPairRS
namespace Go.Proofs.Ytlcdjbleeanpbaa
open Go.RowKit
namespace No
open Mem Lx Bu Lf Fa
/-- settings -/
structure Cfg where
  blocks : Int
  bytes : Int
  frames : Int
  fan : Int
  buffer : Int
  leaf : Int
  key : Int
  val : Int
def cfCs (c : Cfg) : Array Value := #[.int .i64 c.blocks, .int .i64 c.bytes, .int .i64 c.frames, .int .i64 c.fan, .int .i64 c.buffer, .int .i64 c.leaf, .int .i64 c.key, .int .i64 c.val]
def keyB (c : Cfg) (k : ByteArray) : Bool := decide (1 ≤ (k.size : Int)) && decide ((k.size : Int) ≤ c.key)
def PrOk (c : Cfg) (lo hi : ByteArray) (top : Bool) (p : Pr) : Prop := keyB c p.1 = true ∧ inB lo hi top p.1 = true ∧ (p.2.size : Int) ≤ c.val
structure OuterP (c : Cfg) (lo hi : ByteArray) (top : Bool) (n : Nd) : Prop where
  each : ∀ p, p ∈ n.prs → PrOk c lo hi top p
  kids : n.kids.length = 0
  piv : n.piv.length = 0
  buf : n.buf.length = 0
  few : (n.prs.length : Int) ≤ c.leaf
  rise : PRise n.prs
def MsOk (c : Cfg) (lo hi : ByteArray) (top : Bool) (m : Mg) : Prop := keyB c m.1 = true ∧ inB lo hi top m.1 = true ∧ (m.2.2.size : Int) ≤ c.val ∧ ¬ (m.2.1 = true ∧ m.2.2 ≠ ⟨#[]⟩)
def KidsOk (c : Cfg) (K : List Nat) : Prop := ∀ (i k : Nat), K[i]? = some k → (k ≠ 0 ∧ (k : Int) < c.blocks) ∧ ∀ (j m : Nat), j < i → K[j]? = some m → m ≠ k
structure InnerP (c : Cfg) (lo hi : ByteArray) (top : Bool) (n : Nd) : Prop where
  kids : KidsOk c n.kids
  piv : ∀ p, p ∈ n.piv → keyB c p = true
  buf : ∀ m, m ∈ n.buf → MsOk c lo hi top m
  lv : n.lv ≤ 40
  prs : n.prs.length = 0
  one : 1 ≤ n.kids.length
  fan : (n.kids.length : Int) ≤ c.fan
  fewer : n.piv.length + 1 = n.kids.length
  right : RightS n.piv lo hi top
  few : (n.buf.length : Int) ≤ c.buffer
  rise : Bu.Rise n.buf
def RightN (c : Cfg) (lo hi : ByteArray) (top : Bool) (n : Nd) : Prop := (n.lv = 0 → OuterP c lo hi top n) ∧ (n.lv ≠ 0 → 0 < n.lv ∧ InnerP c lo hi top n)
theorem box8 {w : World} {b : Nat} {c0 c1 c2 c3 c4 c5 c6 c7 : Value} {U : TypeId} (h : w.heap[b]? = some (.cells #[c0, c1, c2, c3, c4, c5, c6, c7] U (0, 0))) : w.cell? ⟨b, 0, none⟩ = some c0 ∧ w.cell? ⟨b, 1, none⟩ = some c1 ∧ w.cell? ⟨b, 2, none⟩ = some c2 ∧ w.cell? ⟨b, 3, none⟩ = some c3 ∧ w.cell? ⟨b, 4, none⟩ = some c4 ∧ w.cell? ⟨b, 5, none⟩ = some c5 ∧ w.cell? ⟨b, 6, none⟩ = some c6 ∧ w.cell? ⟨b, 7, none⟩ = some c7 := by
  simp [World.cell?, h]
/-- three boxes: settings, a span, a node -/
structure B3 (W : World) (g : Nat) (X Y Z : Obj) (w : World) : Prop where
  below : Below W.heap.size W w
  at_ : W.heap.size ≤ g
  x : w.heap[g]? = some X
  y : w.heap[g + 1]? = some Y
  z : w.heap[g + 2]? = some Z
theorem B3.kept {W : World} {g : Nat} {X Y Z : Obj} {w w' : World} (h : B3 W g X Y Z w) (hb : Below w.heap.size w w') : B3 W g X Y Z w' := ⟨h.below.trans (hb.mono h.below.size), h.at_, kept3 h.x hb, kept3 h.y hb, kept3 h.z hb⟩
theorem B3.new (W : World) (X Y Z : Obj) : B3 W W.heap.size X Y Z (((W.alloc X).alloc Y).alloc Z) := by
  have h2 := two_new W X Y
  have hb3 : Below ((W.alloc X).alloc Y).heap.size ((W.alloc X).alloc Y) (((W.alloc X).alloc Y).alloc Z) := (Below.refl _ _).alloc (Nat.le_refl _) _
  refine ⟨h2.2.2.trans (hb3.mono h2.2.2.size), Nat.le_refl _, kept3 h2.1 hb3, kept3 h2.2.1 hb3, ?_⟩
  have := heap_alloc_new ((W.alloc X).alloc Y) Z
  simpa using this
end No
end Go.Proofs.Ytlcdjbleeanpbaa
