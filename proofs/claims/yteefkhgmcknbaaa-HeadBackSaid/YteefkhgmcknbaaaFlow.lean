/-
  A region that draws its order and holds calls that make memory, or write to objects of their own (the blocks S): one walk, in an order of the prover's choice, serves every order. What only reads is walked over all worlds that have grown out of the last base (the blocks S may have turned in them); a call that writes, or makes memory whose place is not known, is an event: it gives a new base. No program.
-/
import Derived.Lib.QuietBelow
import Derived.StillTail
import Derived.WalkKit
namespace Go.Proofs.Yteefkhgmcknbaaa.Flow
open Go.RowKit Go.Sort

/-- of what was there only the blocks S may have turned -/
structure Into (S : List Nat) (w w' : World) : Prop where
  os : w'.os = w.os
  tape : w'.tape = w.tape
  output : w'.output = w.output
  size : w.heap.size ≤ w'.heap.size
  block : ∀ k, k < w.heap.size → k ∉ S → w'.heap[k]? = w.heap[k]?
theorem Into.refl (S : List Nat) (w : World) : Into S w w := ⟨rfl, rfl, rfl, Nat.le_refl _, fun _ _ _ => rfl⟩
theorem Into.trans {S : List Nat} {a b c : World} (h : Into S a b) (k : Into S b c) : Into S a c :=
  ⟨k.os.trans h.os, k.tape.trans h.tape, k.output.trans h.output, Nat.le_trans h.size k.size, fun i hi hn => (k.block i (Nat.lt_of_lt_of_le hi h.size) hn).trans (h.block i hi hn)⟩
theorem Into.of_below {S : List Nat} {w w' : World} (h : Below w.heap.size w w') : Into S w w' := ⟨h.os, h.tape, h.output, h.size, fun k hk _ => h.block k hk⟩
theorem Into.below {w w' : World} (h : Into [] w w') : Below w.heap.size w w' := ⟨h.os, h.tape, h.output, h.size, fun k hk => h.block k hk (by simp)⟩
theorem Into.mono {S S' : List Nat} {w w' : World} (h : Into S w w') (hs : ∀ k, k ∈ S → k ∈ S') : Into S' w w' := ⟨h.os, h.tape, h.output, h.size, fun k hk hn => h.block k hk fun hh => hn (hs k hh)⟩

structure But where
  d : Nat
  os : Array Obj
  f : Nat → Obj
instance : Inhabited But := ⟨⟨0, #[], fun _ => .cells #[] 0⟩⟩
def but (S : List Nat) (w : World) (p : But) : World := { w with drawn := p.d, heap := (w.heap.mapIdx fun k o => if k ∈ S then p.f k else o) ++ p.os }
theorem into_but (S : List Nat) (w : World) (p : But) : Into S w (but S w p) :=
  ⟨rfl, rfl, rfl, by simp [but], fun k hk hn => by simp [but, Array.getElem?_append, hk, hn]⟩
theorem but_of_into {S : List Nat} {w w' : World} (h : Into S w w') : ∃ p : But, w' = but S w p := by
  refine ⟨⟨w'.drawn, w'.heap.extract w.heap.size w'.heap.size, fun k => w'.heap.getD k (.cells #[] 0)⟩, ?_⟩
  obtain ⟨heap', tape', drawn', os', output'⟩ := w'
  have e1 : os' = w.os := h.os
  have e2 : tape' = w.tape := h.tape
  have e3 : output' = w.output := h.output
  have hs : w.heap.size ≤ heap'.size := h.size
  have hb : ∀ k, k < w.heap.size → k ∉ S → heap'[k]? = w.heap[k]? := h.block
  subst e1 e2 e3
  simp only [but]
  congr 1
  apply Array.ext_getElem?
  intro k
  by_cases hk : k < w.heap.size
  · rw [Array.getElem?_append_left (by simpa using hk)]
    by_cases hn : k ∈ S
    · have : k < heap'.size := by omega
      simp [hk, hn, this]
    · rw [hb k hk hn]; simp [hk, hn]
  · rw [Array.getElem?_append_right (by simpa using hk), Array.getElem?_extract]
    simp only [Array.size_mapIdx]
    by_cases hk2 : k < heap'.size
    · rw [if_pos (by omega)]; congr 1; omega
    · rw [if_neg (by omega), Array.getElem?_eq_none (by omega)]

theorem lt_of_cell {w : World} {a : Addr} {v : Value} (h : w.cell? a = some v) : a.block < w.heap.size := by
  rcases Nat.lt_or_ge a.block w.heap.size with h' | h'
  · exact h'
  · simp [World.cell?, Array.getElem?_eq_none h'] at h
theorem Into.cell {S : List Nat} {w w' : World} (h : Into S w w') {a : Addr} {v : Value} (hc : w.cell? a = some v) (hn : a.block ∉ S) : w'.cell? a = some v :=
  (World.cell?_of_block (w := w) (h.block a.block (lt_of_cell hc) hn)).trans hc
/-- a cell outside S, in every such world -/
theorem cell_but {S : List Nat} {w : World} {a : Addr} {v : Value} (hc : w.cell? a = some v) (hn : a.block ∉ S) (p : But) : (but S w p).cell? a = some v := (into_but S w p).cell hc hn

section
variable {P : Program} {ops : Array Oper} {md : Region.Mode} {S : List Nat}

def Kept (w w' : World) : Prop := Below w.heap.size w w'
theorem Kept.trans {a b c : World} (h : Kept a b) (k : Kept b c) : Kept a c := Below.trans h (Below.mono k h.size)
theorem Kept.into {a b : World} (h : Kept a b) : Into S a b := Into.of_below h

def upon (P : Program) (w : World) (v : Value) : Result Next → Prop
  | .ok (.value u) w' => w' = w ∧ u = v
  | .ok .skip w' => w' = w ∧ v = undef
  | .ok (.enter f args) w' => w' = w ∧ Calls P f args w (fun e w'' => e = .returned v ∧ Kept w w'')
  | _ => False
def calmAt (P : Program) (o : Oper) (a : Act) (w : World) (v : Value) : Prop := upon P w v ((execOp a.eval o).run P w)
/-- one value, in every world that has grown out of the base, whatever the blocks S hold -/
def calm (P : Program) (S : List Nat) (w0 : World) (o : Oper) (a : Act) (next : Act → Prop) : Prop := ∃ v, (∀ p : But, calmAt P o a (but S w0 p) v) ∧ next (a.put o.dst v)

def evUpon (P : Program) (S : List Nat) (V : Value → World → Prop) (w : World) : Result Next → Prop
  | .ok (.value u) w' => V u w' ∧ Into S w w'
  | .ok .skip w' => V undef w' ∧ Into S w w'
  | .ok (.enter f args) w' => w' = w ∧ Calls P f args w (fun e w'' => ∃ v, e = .returned v ∧ V v w'' ∧ Into S w w'')
  | _ => False
def evAt (P : Program) (S : List Nat) (o : Oper) (a : Act) (w : World) (V : Value → World → Prop) : Prop := evUpon P S V w ((execOp a.eval o).run P w)

/-- the walk: what is read (0), what writes or makes (1), what asks no world (2); E: what is asked at its end -/
def walk (P : Program) (ops : Array Oper) (S : List Nat) (E : World → Act → Prop) : List (Oper × Nat) → World → Act → Prop
  | [], w, a => E w a
  | (o, 0) :: r, w, a => if Region.wanted o (yielded ops a.tmps) then calm P S w o a (walk P ops S E r w) else walk P ops S E r w (a.put o.dst undef)
  | (o, 1) :: r, w, a => if Region.wanted o (yielded ops a.tmps) then ∃ V : Value → World → Prop, (∀ W, Kept w W → evAt P S o a W V) ∧ ∀ v w1, V v w1 → Into S w w1 → walk P ops S E r w1 (a.put o.dst v)
      else walk P ops S E r w (a.put o.dst undef)
  | (o, _ + 2) :: r, w, a => ∃ v, Yields P ops o v a ∧ walk P ops S E r w (a.put o.dst v)
theorem walk_nil {E : World → Act → Prop} {a : Act} {w : World} (h : E w a) : walk P ops S E [] w a := h
theorem walk_step {E : World → Act → Prop} {a : Act} {w : World} {o : Oper} {rest : List (Oper × Nat)}
    (h : ∀ K : Act → Prop, (∀ a, walk P ops S E rest w a → K a) → if Region.wanted o (yielded ops a.tmps) then calm P S w o a K else K (a.put o.dst undef)) : walk P ops S E ((o, 0) :: rest) w a :=
  h _ (fun _ h => h)
theorem walk_event {E : World → Act → Prop} {a : Act} {w : World} {o : Oper} {rest : List (Oper × Nat)} (hg : o.guard = none) (V : Value → World → Prop)
    (h1 : ∀ W, Kept w W → evAt P S o a W V) (h2 : ∀ v w1, V v w1 → Into S w w1 → walk P ops S E rest w1 (a.put o.dst v)) : walk P ops S E ((o, 1) :: rest) w a := by
  unfold walk
  rw [if_pos (by simp [Region.wanted, hg])]
  exact ⟨V, h1, h2⟩
theorem walk_event_if {E : World → Act → Prop} {a : Act} {w : World} {o : Oper} {rest : List (Oper × Nat)} (hg : Region.wanted o (yielded ops a.tmps) = true) (V : Value → World → Prop)
    (h1 : ∀ W, Kept w W → evAt P S o a W V) (h2 : ∀ v w1, V v w1 → Into S w w1 → walk P ops S E rest w1 (a.put o.dst v)) : walk P ops S E ((o, 1) :: rest) w a := by
  unfold walk
  rw [if_pos hg]
  exact ⟨V, h1, h2⟩
theorem walk_event_not {E : World → Act → Prop} {a : Act} {w : World} {o : Oper} {rest : List (Oper × Nat)} (hg : Region.wanted o (yielded ops a.tmps) = false)
    (h : walk P ops S E rest w (a.put o.dst undef)) : walk P ops S E ((o, 1) :: rest) w a := by
  unfold walk
  rw [if_neg (by rw [hg]; exact Bool.false_ne_true)]
  exact h
theorem walk_clear {E : World → Act → Prop} {a : Act} {w : World} {o : Oper} {rest : List (Oper × Nat)} (hg : o.guard = none) (v : Value)
    (h1 : ∀ W, (execOp a.eval o).run P W = .ok (.value v) W) (h2 : walk P ops S E rest w (a.put o.dst v)) : walk P ops S E ((o, 2) :: rest) w a :=
  ⟨v, .inl ⟨by simp [Region.wanted, hg], h1⟩, h2⟩

def cOp (P : Program) (ops : Array Oper) (S : List Nat) (w0 : World) (o : Oper) (K : Act → Prop) (a : Act) : Prop :=
  if Region.wanted o (yielded ops a.tmps) then calm P S w0 o a K else K (a.put o.dst undef)
theorem cOp_mono {w0 : World} {o : Oper} {a : Act} {K K' : Act → Prop} (h : ∀ a, K a → K' a) (hh : cOp P ops S w0 o K a) : cOp P ops S w0 o K' a := by
  unfold cOp at *
  split
  · rename_i hw; rw [if_pos hw] at hh; exact let ⟨v, h1, h2⟩ := hh; ⟨v, h1, h _ h2⟩
  · rename_i hw; rw [if_neg hw] at hh; exact h _ hh
def Y (P : Program) (ops : Array Oper) (S : List Nat) (w0 : World) (o : Oper) (v : Value) (a : Act) : Prop :=
  (Region.wanted o (yielded ops a.tmps) = true ∧ ∀ p : But, calmAt P o a (but S w0 p) v) ∨ (Region.wanted o (yielded ops a.tmps) = false ∧ v = undef)
theorem Y.cOp {w0 : World} {o : Oper} {v : Value} {a : Act} (hy : Y P ops S w0 o v a) {K : Act → Prop} (h : K (a.put o.dst v)) : cOp P ops S w0 o K a := by
  unfold Flow.cOp
  rcases hy with ⟨hw, hv⟩ | ⟨hw, rfl⟩
  · rw [if_pos hw]; exact ⟨v, hv, h⟩
  · rw [if_neg (by rw [hw]; exact Bool.false_ne_true)]; exact h
theorem Y.put {w0 : World} {o oj : Oper} {v u : Value} {a : Act} (hs : ∀ cs b, o.op ≠ .select cs b) (h3 : ∀ d, oj.dst = some d → d ∉ o.looksAt ops) (hy : Y P ops S w0 o v a) : Y P ops S w0 o v (a.put oj.dst u) := by
  unfold Y calmAt at *
  rw [execOp_put o hs a oj.dst u h3, wanted_put o a oj.dst u h3]
  exact hy
theorem y_of_cOp {w0 : World} {o : Oper} {a : Act} {K : Act → Prop} (h : cOp P ops S w0 o K a) : ∃ v, Y P ops S w0 o v a ∧ K (a.put o.dst v) := by
  unfold cOp at h
  by_cases hw : Region.wanted o (yielded ops a.tmps) = true
  · rw [if_pos hw] at h
    obtain ⟨v, h1, h2⟩ := h
    exact ⟨v, .inl ⟨hw, h1⟩, h2⟩
  · rw [if_neg hw] at h
    exact ⟨undef, .inr ⟨by simpa using hw, rfl⟩, h⟩
theorem cOp_put {w0 wj : World} {oi oj : Oper} {v : Value} (hap : oi.apart ops oj = true)
    (hsi : ∀ cs b, oi.op ≠ .select cs b) (hsj : ∀ cs b, oj.op ≠ .select cs b) {K : Act → Prop} {a : Act}
    (hy : Y P ops S w0 oi v a) (h : cOp P ops S wj oj K (a.put oi.dst v)) : cOp P ops S wj oj (fun a' => Y P ops S w0 oi v a' ∧ K (a'.put oi.dst v)) a := by
  obtain ⟨h1, h2, h3⟩ := Oper.apart_spec hap
  unfold cOp at *
  rw [wanted_put oj a oi.dst v h1] at h
  split
  · rename_i hw
    rw [if_pos hw] at h
    obtain ⟨u, hu, hn⟩ := h
    refine ⟨u, fun p => ?_, hy.put hsi h3, by rw [← Act.put_comm a v u h2]; exact hn⟩
    have := hu p
    unfold calmAt at *
    rwa [execOp_put oj hsj a oi.dst v h1] at this
  · rename_i hw
    rw [if_neg hw] at h
    exact ⟨hy.put hsi h3, by rw [← Act.put_comm a v undef h2]; exact h⟩

theorem or_map {p q r : Prop} (h : p ∨ q) (f : q → r) : p ∨ r := by
  rcases h with h | h
  · exact .inl h
  · exact .inr (f h)
theorem cOp_put2 {w0 wj : World} {oi oj : Oper} {v : Value} {Z : Prop} (hap : oi.apart ops oj = true)
    (hsi : ∀ cs b, oi.op ≠ .select cs b) (hsj : ∀ cs b, oj.op ≠ .select cs b) {K : Act → Prop} {a : Act}
    (hy : Y P ops S w0 oi v a) (hz : Z ∨ Yields P ops oi v a) (h : cOp P ops S wj oj K (a.put oi.dst v)) : cOp P ops S wj oj (fun a' => Y P ops S w0 oi v a' ∧ (Z ∨ Yields P ops oi v a') ∧ K (a'.put oi.dst v)) a := by
  obtain ⟨h1, h2, h3⟩ := Oper.apart_spec hap
  have hz' : ∀ u, Z ∨ Yields P ops oi v (a.put oj.dst u) := fun u => or_map hz fun h => h.of_same (execOp_put oi hsi a oj.dst u h3) (wanted_put oi a oj.dst u h3)
  unfold cOp at *
  rw [wanted_put oj a oi.dst v h1] at h
  split
  · rename_i hw
    rw [if_pos hw] at h
    obtain ⟨u, hu, hn⟩ := h
    refine ⟨u, fun p => ?_, hy.put hsi h3, hz' u, by rw [← Act.put_comm a v u h2]; exact hn⟩
    have := hu p
    unfold calmAt at *
    rwa [execOp_put oj hsj a oi.dst v h1] at this
  · rename_i hw
    rw [if_neg hw] at h
    exact ⟨hy.put hsi h3, hz' undef, by rw [← Act.put_comm a v undef h2]; exact h⟩
theorem y_of_yields {w0 : World} {o : Oper} {v : Value} {a : Act} (h : Yields P ops o v a) : Y P ops S w0 o v a :=
  by
    rcases h with ⟨h1, h2⟩ | h
    · exact .inl ⟨h1, fun p => by unfold calmAt; rw [h2]; exact ⟨rfl, rfl⟩⟩
    · exact .inr h

/-- what holds of the bases, and of the block that was laid, in the world at hand -/
structure Inv (S : List Nat) (n0 : Nat) (obj : Obj) (bs : List World) (g : Option Nat) (W : World) : Prop where
  all : ∀ w, w ∈ bs → Into S w W
  last : ∀ w, bs.getLast? = some w → Kept w W
  laid : ∀ b, g = some b → n0 ≤ b ∧ b ∉ S ∧ W.heap[b]? = some obj
  size : n0 ≤ W.heap.size
theorem block_lt {W : World} {b : Nat} {obj : Obj} (h : W.heap[b]? = some obj) : b < W.heap.size := (Array.getElem?_eq_some_iff.1 h).1
section
variable {n0 : Nat} {obj : Obj} {bs : List World} {g : Option Nat} {W W' : World}
theorem Inv.keep (h : Inv S n0 obj bs g W) (hk : Kept W W') : Inv S n0 obj bs g W' :=
  ⟨fun w hw => (h.all w hw).trans (Into.of_below hk), fun w hw => (h.last w hw).trans hk, fun b hb => by
    obtain ⟨h1, h2, h3⟩ := h.laid b hb
    exact ⟨h1, h2, (hk.block b (block_lt h3)).trans h3⟩, Nat.le_trans h.size hk.size⟩
theorem Inv.event (h : Inv S n0 obj bs g W) (hk : Into S W W') : Inv S n0 obj (bs ++ [W']) g W' :=
  ⟨fun w hw => by
    rcases List.mem_append.1 hw with h1 | h1
    · exact (h.all w h1).trans hk
    · obtain rfl : w = W' := by simpa using h1
      exact Into.refl _ _, fun w hw => by
    obtain rfl : w = W' := by simpa using hw.symm
    exact Below.refl _ _, fun b hb => by
    obtain ⟨h1, h2, h3⟩ := h.laid b hb
    exact ⟨h1, h2, (hk.block b (block_lt h3) h2).trans h3⟩, Nat.le_trans h.size hk.size⟩
theorem Inv.again {w : World} (h : Inv S n0 obj bs g W) (hw : bs.getLast? = some w) : Inv S n0 obj (bs ++ [w]) g W :=
  ⟨fun w' hw' => by
    rcases List.mem_append.1 hw' with h1 | h1
    · exact h.all w' h1
    · obtain rfl : w' = w := by simpa using h1
      exact (h.last _ hw).into, fun w' hw' => by
    obtain rfl : w' = w := by simpa using hw'.symm
    exact h.last _ hw, h.laid, h.size⟩
end

/-- whatever order is picked; ph: how many events are ahead of an operation; ev: which are events; al: the one that lays a block, at whatever moment (dA: its slot); an operation of the tail may come while what asks no world is left -/
def wpX (P : Program) (md : Region.Mode) (ops : Array Oper) (S : List Nat) (n0 : Nat) (obj : Obj) (Qn : Exit → Act → World → Prop) (g0 : Nat) (ph : Nat → Nat) (ev : Nat → Bool) (al : Option Nat) (dA : Option Tmp) (m : Nat) (Fin : List World → Option Nat → Array Bool → Act → Prop) : Nat → List World → Option Nat → Array Bool → Act → Prop
  | 0, bs, g, listed, a => Fin bs g listed a
  | f + 1, bs, g, listed, a => Region.ready md ops listed ≠ [] ∧ ∀ i ∈ Region.ready md ops listed, (m ≤ i ∧ ∀ W, Inv S n0 obj bs g W → wpOp P ops Qn i (wpAny P md ops Qn (f + g0) (listed.setIfInBounds i true)) a W) ∨ (i < m ∧
      (if al = some i then ∀ b, wpX P md ops S n0 obj Qn g0 ph ev al dA m Fin f bs (some b) (listed.setIfInBounds i true) (a.put dA (.pointer (some ⟨b, 0, none⟩)))
       else ∃ o, ops[i]? = some o ∧
        (if ev i then ∃ w, bs.getLast? = some w ∧ (if Region.wanted o (yielded ops a.tmps) then ∃ V : Value → World → Prop, (∀ W, Kept w W → evAt P S o a W V) ∧ ∀ v w1, V v w1 → Into S w w1 → wpX P md ops S n0 obj Qn g0 ph ev al dA m Fin f (bs ++ [w1]) g (listed.setIfInBounds i true) (a.put o.dst v)
            else wpX P md ops S n0 obj Qn g0 ph ev al dA m Fin f (bs ++ [w]) g (listed.setIfInBounds i true) (a.put o.dst undef))
         else ∃ w, bs[ph i]? = some w ∧ cOp P ops S w o (wpX P md ops S n0 obj Qn g0 ph ev al dA m Fin f bs g (listed.setIfInBounds i true)) a)))

theorem wpAny_of_X {ph : Nat → Nat} {ev : Nat → Bool} {al : Option Nat} {dA : Option Tmp} {m : Nat} {Fin : List World → Option Nat → Array Bool → Act → Prop} {Q' : Exit → Act → World → Prop} {g0 n0 : Nat} {obj : Obj}
    (hS : ∀ k, k ∈ S → k < n0)
    (hA : ∀ i, al = some i → ∃ o, ops[i]? = some o ∧ o.guard = none ∧ o.dst = dA ∧ ∀ (a : Act) (W : World), (execOp a.eval o).run P W = .ok (.value (.pointer (some ⟨W.heap.size, 0, none⟩))) (W.alloc obj))
    (hL : ∀ bs g listed a W, Fin bs g listed a → Inv S n0 obj bs g W → wpAny P md ops Q' g0 listed a W) :
    ∀ (f : Nat) (bs : List World) (g : Option Nat) (listed : Array Bool) (a : Act) (W : World), wpX P md ops S n0 obj Q' g0 ph ev al dA m Fin f bs g listed a → Inv S n0 obj bs g W → wpAny P md ops Q' (f + g0) listed a W
  | 0, bs, g, listed, a, W, h, hi => by rw [Nat.zero_add]; exact hL _ _ _ _ _ h hi
  | f + 1, bs, g, listed, a, W, h, hi => by
    rw [show f + 1 + g0 = (f + g0) + 1 by omega]
    refine ⟨fun h0 => absurd h0 h.1, fun i hir => ?_⟩
    rcases h.2 i hir with ⟨_, h2⟩ | ⟨_, h2⟩
    · exact h2 W hi
    split at h2
    · rename_i hal
      obtain ⟨o, ho, hog, hod, hrun⟩ := hA i hal
      subst hod
      unfold wpOp
      simp only [ho]
      rw [if_pos (by simp [Region.wanted, hog])]
      refine .inl ?_
      unfold Oper.wp
      rw [hrun]
      refine wpAny_of_X hS hA hL f bs (some W.heap.size) _ _ _ (h2 W.heap.size) ?_
      have hk : Kept W (W.alloc obj) := (Below.refl _ _).alloc (Nat.le_refl _) _
      exact ⟨(hi.keep hk).all, (hi.keep hk).last, fun b hb => by
        obtain rfl : W.heap.size = b := by simpa using hb
        refine ⟨hi.size, fun hh => by have := hS _ hh; have := hi.size; omega, ?_⟩
        show (W.heap.push obj)[W.heap.size]? = _
        simp, (hi.keep hk).size⟩
    · obtain ⟨o, ho, h2⟩ := h2
      unfold wpOp
      simp only [ho]
      split at h2
      · obtain ⟨w, hw, h2⟩ := h2
        split
        · rename_i hwt
          rw [if_pos hwt] at h2
          refine .inl ?_
          obtain ⟨V, h3, h4⟩ := h2
          have h5 := h3 W (hi.last w hw)
          unfold evAt at h5
          unfold Oper.wp
          generalize (execOp a.eval o).run P W = r at *
          cases r with
          | ok nx w' =>
            cases nx <;> simp only [evUpon] at h5 <;> simp only [Oper.upon]
            case value u => exact wpAny_of_X hS hA hL f _ _ _ _ _ (h4 u w' h5.1 ((hi.last w hw).into.trans h5.2)) (hi.event h5.2)
            case skip => exact wpAny_of_X hS hA hL f _ _ _ _ _ (h4 undef w' h5.1 ((hi.last w hw).into.trans h5.2)) (hi.event h5.2)
            case enter fn args =>
              obtain ⟨rfl, hc⟩ := h5
              exact hc.mono fun e w'' ⟨v, he, hV, hI⟩ => by
                subst he
                exact wpAny_of_X hS hA hL f _ _ _ _ _ (h4 v w'' hV ((hi.last w hw).into.trans hI)) (hi.event hI)
          | halt x w' => simp only [evUpon] at h5
        · rename_i hwt
          rw [if_neg hwt] at h2
          exact wpAny_of_X hS hA hL f _ _ _ _ W h2 (hi.again hw)
      · obtain ⟨w, hw, h2⟩ := h2
        have hwm : w ∈ bs := List.mem_of_getElem? hw
        unfold cOp at h2
        split
        · rename_i hwt
          rw [if_pos hwt] at h2
          refine .inl ?_
          obtain ⟨v, h3, h4⟩ := h2
          obtain ⟨p, hp⟩ := but_of_into (hi.all w hwm)
          have h5 := h3 p
          rw [← hp] at h5
          unfold calmAt at h5
          unfold Oper.wp
          generalize (execOp a.eval o).run P W = r at *
          cases r with
          | ok nx w' =>
            cases nx <;> simp only [upon] at h5 <;> simp only [Oper.upon]
            case value u =>
              obtain ⟨e1, e2⟩ := h5
              rw [e1, e2]
              exact wpAny_of_X hS hA hL f _ _ _ _ W h4 hi
            case skip =>
              obtain ⟨e1, e2⟩ := h5
              rw [e1, ← e2]
              exact wpAny_of_X hS hA hL f _ _ _ _ W h4 hi
            case enter fn args =>
              obtain ⟨e1, hc⟩ := h5
              rw [e1]
              exact hc.mono fun e w'' ⟨he, hb⟩ => by
                subst he
                exact wpAny_of_X hS hA hL f _ _ _ _ w'' h4 (hi.keep hb)
          | halt x w' => simp only [upon] at h5
        · rename_i hwt
          rw [if_neg hwt] at h2
          exact wpAny_of_X hS hA hL f _ _ _ _ W h2 hi

theorem getD_either {listed : Array Bool} {i : Nat} (h : listed.getD i true = false) : listed.getD i false = false := by
  rcases Nat.lt_or_ge i listed.size with h' | h'
  · simp [h'] at h ⊢; exact h
  · simp [Array.getElem?_eq_none h'] at h

/-- an operation that reads may be taken first; where the tail does not wait for it, it must ask no world -/
theorem wpX_first {n0 g0 : Nat} {obj : Obj} {Qn : Exit → Act → World → Prop} {ph : Nat → Nat} {ev : Nat → Bool} {al : Option Nat} {dA : Option Tmp} {m : Nat} {Fin : List World → Option Nat → Array Bool → Act → Prop} {i : Nat} {oi : Oper} {v : Value} {w0 : World} (hi : ops[i]? = some oi) (hev : ev i = false) (hal : al ≠ some i) (him : i < m)
    (hA : ∀ i, al = some i → ∃ o, ops[i]? = some o ∧ o.dst = dA)
    (hsel : ∀ (j : Nat) (o : Oper) cs b, ops[j]? = some o → o.op ≠ .select cs b)
    (hdone : ∀ bs g listed a, Fin bs g listed a → ∀ j ∈ Region.ready md ops listed, m ≤ j)
    (hsound : ∀ (f : Nat) (bs : List World) (g : Option Nat) (listed : Array Bool) (a : Act) (W : World), wpX P md ops S n0 obj Qn g0 ph ev al dA m Fin f bs g listed a → Inv S n0 obj bs g W → wpAny P md ops Qn (f + g0) listed a W)
    (hwait : (∀ (listed : Array Bool) (j : Nat), listed.getD i true = false → j ∈ Region.ready md ops listed → j < m) ∨ (∀ c (a : Act) w, Qn (.panic c) (a.put oi.dst v) w → Qn (.panic c) a w)) :
    ∀ (f : Nat) (bs : List World) (g : Option Nat) (listed : Array Bool) (a : Act), bs[ph i]? = some w0 →
      (∀ j oj, ops[j]? = some oj → j ≠ i → listed.getD j true = false → (∀ e ∈ oj.after, Region.binds md e = true → e.on ≠ i) → oi.apart ops oj = true) →
      i ∈ Region.ready md ops listed → Y P ops S w0 oi v a → ((∀ (listed : Array Bool) (j : Nat), listed.getD i true = false → j ∈ Region.ready md ops listed → j < m) ∨ Yields P ops oi v a) →
      wpX P md ops S n0 obj Qn g0 ph ev al dA m Fin f bs g (listed.setIfInBounds i true) (a.put oi.dst v) → wpX P md ops S n0 obj Qn g0 ph ev al dA m Fin (f + 1) bs g listed a := by
  intro f
  induction f with
  | zero =>
    intro bs g listed a hb hfree hr hy hyl H
    have hun := (mem_ready.1 hr).1
    refine ⟨fun h => (by rw [h] at hr; cases hr), fun j hj => ?_⟩
    by_cases hji : j = i
    · subst hji; refine .inr ⟨him, ?_⟩; rw [if_neg hal]; refine ⟨oi, hi, ?_⟩; rw [if_neg (by rw [hev]; exact Bool.false_ne_true)]; exact ⟨w0, hb, hy.cOp H⟩
    · have h1 := hdone _ _ _ _ H j (ready_mono hj hji)
      refine .inl ⟨h1, fun W hW => ?_⟩
      rcases hyl with hyl | hyl
      · have := hyl listed j hun hj; omega
      · rcases hwait with hwait | hQ
        · have := hwait listed j hun hj; omega
        · exact (wpAny_first hi hsel hQ (0 + g0) listed a W hfree hr hyl (hsound 0 bs g _ _ W H hW)).2 j hj
  | succ f ih =>
    intro bs g listed a hb hfree hr hy hyl H
    have hun := (mem_ready.1 hr).1
    refine ⟨fun h => (by rw [h] at hr; cases hr), fun j hj => ?_⟩
    by_cases hji : j = i
    · subst hji; refine .inr ⟨him, ?_⟩; rw [if_neg hal]; refine ⟨oi, hi, ?_⟩; rw [if_neg (by rw [hev]; exact Bool.false_ne_true)]; exact ⟨w0, hb, hy.cOp H⟩
    · rcases H.2 j (ready_mono hj hji) with ⟨hmj, _⟩ | ⟨hjm, h1⟩
      · refine .inl ⟨hmj, fun W hW => ?_⟩
        rcases hyl with hyl | hyl
        · have := hyl listed j hun hj; omega
        · rcases hwait with hwait | hQ
          · have := hwait listed j hun hj; omega
          · have h9 := (wpAny_first hi hsel hQ (f + 1 + g0) listed a W hfree hr hyl (hsound (f + 1) bs g _ _ W H hW)).2 j hj
            exact h9
      refine .inr ⟨hjm, ?_⟩
      obtain ⟨hjun, oj, hoj, hall⟩ := mem_ready.1 hj
      have hnot : ∀ e ∈ oj.after, Region.binds md e = true → e.on ≠ i := fun e he hb heq => by
        have h1 := hall e he hb
        rw [heq, getD_either hun] at h1
        cases h1
      have hap := hfree j oj hoj hji hjun hnot
      obtain ⟨g1, g2, g3⟩ := Oper.apart_spec hap
      have hfree' : ∀ k ok, ops[k]? = some ok → k ≠ i → (listed.setIfInBounds j true).getD k true = false →
          (∀ e ∈ ok.after, Region.binds md e = true → e.on ≠ i) → oi.apart ops ok = true := fun k ok hk hki hun hno => by
        refine hfree k ok hk hki ?_ hno
        by_cases hjk : j = k
        · subst hjk; exact hjun
        · rw [getD_set_ne true hjk] at hun; exact hun
      have hcom : (listed.setIfInBounds j true).setIfInBounds i true = (listed.setIfInBounds i true).setIfInBounds j true := Array.setIfInBounds_comm _ _ hji
      have hselj := fun cs b => hsel j oj cs b hoj
      have hseli := fun cs b => hsel i oi cs b hi
      have hyl' : ∀ u, ((∀ (listed : Array Bool) (j : Nat), listed.getD i true = false → j ∈ Region.ready md ops listed → j < m) ∨ Yields P ops oi v (a.put oj.dst u)) := fun u =>
        or_map hyl fun h => h.of_same (execOp_put oi hseli a oj.dst u g3) (wanted_put oi a oj.dst u g3)
      by_cases hja : al = some j
      · rw [if_pos hja] at h1 ⊢
        obtain ⟨oA, hoA, hdA⟩ := hA j hja
        obtain rfl : oj = oA := Option.some.inj (hoj.symm.trans hoA)
        subst hdA
        intro b
        refine ih bs (some b) _ _ hb hfree' (ready_mono hr (Ne.symm hji)) (hy.put hseli g3) (hyl' _) ?_
        rw [hcom, ← Act.put_comm a v _ g2]
        exact h1 b
      · rw [if_neg hja] at h1 ⊢
        obtain ⟨oj', hoj', h1⟩ := h1
        obtain rfl : oj' = oj := Option.some.inj (hoj'.symm.trans hoj)
        refine ⟨oj', hoj, ?_⟩
        by_cases hje : ev j = true
        · rw [if_pos hje] at h1 ⊢
          obtain ⟨w, hw, h1⟩ := h1
          refine ⟨w, hw, ?_⟩
          rw [wanted_put oj' a oi.dst v g1] at h1
          have hblt : ph i < bs.length := (List.getElem?_eq_some_iff.1 hb).1
          have hb' : ∀ w1 : World, (bs ++ [w1])[ph i]? = some w0 := fun w1 => by rw [List.getElem?_append_left hblt]; exact hb
          split
          · rename_i hwt
            rw [if_pos hwt] at h1
            obtain ⟨V, h3, h4⟩ := h1
            refine ⟨V, fun W hW => ?_, fun u w1 hV hI => ?_⟩
            · have := h3 W hW
              unfold evAt at *
              rwa [execOp_put oj' hselj a oi.dst v g1] at this
            · refine ih (bs ++ [w1]) g _ _ (hb' w1) hfree' (ready_mono hr (Ne.symm hji)) (hy.put hseli g3) (hyl' _) ?_
              rw [hcom, ← Act.put_comm a v u g2]
              exact h4 u w1 hV hI
          · rename_i hwt
            rw [if_neg hwt] at h1
            refine ih (bs ++ [w]) g _ _ (hb' w) hfree' (ready_mono hr (Ne.symm hji)) (hy.put hseli g3) (hyl' _) ?_
            rw [hcom, ← Act.put_comm a v undef g2]
            exact h1
        · rw [if_neg hje] at h1 ⊢
          obtain ⟨w, hw, h1⟩ := h1
          refine ⟨w, hw, ?_⟩
          have h2 := cOp_put2 hap hseli hselj hy hyl h1
          refine cOp_mono (fun a' h3 => ih bs g _ a' hb hfree' (ready_mono hr (Ne.symm hji)) h3.1 h3.2.1 ?_) h2
          rw [hcom]
          exact h3.2.2

/-- each operation from m on waits for every one below m but those that ask no world -/
def sinkB (md : Region.Mode) (ops : Array Oper) (ps : List Nat) (m : Nat) : Bool :=
  (List.range ops.size).all fun t => decide (t < m) || (List.range m).all fun i => ps.contains i || Region.waitsFor md ops t i
def phOf (ev : Nat → Bool) (ord : List Nat) (i : Nat) : Nat := ((ord.takeWhile (· != i)).filter ev).length
/-- an event's turn: it alone is ready; or it and the one that lays a block, which may come ahead of it -/
def turnB (md : Region.Mode) (ops : Array Oper) (al : Option Nat) (i : Nat) (listed : Array Bool) : Bool :=
  decide (Region.ready md ops listed = [i]) || (match al, ops[i]? with
    | some x, some oi => (match ops[x]? with
      | some ox => x != i && (Region.ready md ops listed).contains i && (Region.ready md ops listed).contains x && (Region.ready md ops listed).all (fun j => j == i || j == x) && decide (Region.ready md ops (listed.setIfInBounds x true) = [i]) && ox.apart ops oi
      | none => false)
    | _, _ => false)
def planB (md : Region.Mode) (ops : Array Oper) (ev : Nat → Bool) (ph : Nat → Nat) (al : Option Nat) (m : Nat) : List Nat → Nat → Array Bool → Bool
  | [], _, listed => (match al with
    | none => Region.seqB md ops (ops.size - m) m listed
    | some x => decide (Region.ready md ops listed = [x]) && decide (x < m) && Region.seqB md ops (ops.size - m) m (listed.setIfInBounds x true))
  | i :: r, k, listed => decide (i < m) && decide (al ≠ some i) && (if ev i then turnB md ops al i listed else (Region.ready md ops listed).contains i && Region.free md ops listed i && decide (ph i = k)) &&
      planB md ops ev ph al m r (if ev i then k + 1 else k) (listed.setIfInBounds i true)

theorem waits {m i : Nat} {ps : List Nat} {listed : Array Bool} (hs : sinkB md ops ps m = true) (hp : ps.contains i = false) (hi : i < m) (hun : listed.getD i true = false) {j : Nat} (hj : j ∈ Region.ready md ops listed) : j < m := by
  rcases Nat.lt_or_ge j m with h | h
  · exact h
  · exfalso
    obtain ⟨_, oj, hoj, hall⟩ := mem_ready.1 hj
    have hjs : j < ops.size := (Array.getElem?_eq_some_iff.1 hoj).1
    have h1 := List.all_eq_true.1 hs j (List.mem_range.2 hjs)
    simp only [Bool.or_eq_true, decide_eq_true_eq] at h1
    rcases h1 with h1 | h1
    · omega
    · have h2 := List.all_eq_true.1 h1 i (List.mem_range.2 hi)
      rw [hp, Bool.false_or] at h2
      obtain ⟨o', ho', e, he, hb, hon⟩ := Region.waitsFor_spec h2
      obtain rfl : o' = oj := Option.some.inj (ho'.symm.trans hoj)
      have := hall e he hb
      rw [hon, getD_either hun] at this
      cases this

def kindOf (es ps : List Nat) (i : Nat) : Nat := if es.contains i then 1 else if ps.contains i then 2 else 0
def pick (l : List Oper) (es ps : List Nat) : List Nat → List (Oper × Nat)
  | [] => []
  | i :: r => (match l[i]? with | some o => [(o, kindOf es ps i)] | none => []) ++ pick l es ps r

/-- at an event's turn -/
theorem wpX_event {n0 g0 : Nat} {obj : Obj} {Qn : Exit → Act → World → Prop} {ph : Nat → Nat} {ev : Nat → Bool} {al : Option Nat} {dA : Option Tmp} {m : Nat} {Fin : List World → Option Nat → Array Bool → Act → Prop} {i : Nat} {o : Oper} {bs : List World} {g : Option Nat} {listed : Array Bool} {a : Act} {w : World} {f : Nat}
    (ho : ops[i]? = some o) (hev : ev i = true) (hal : al ≠ some i) (him : i < m) (hxm : ∀ x, al = some x → x < m) (hA : ∀ i, al = some i → ∃ o, ops[i]? = some o ∧ o.dst = dA) (hsel : ∀ (j : Nat) (o : Oper) cs b, ops[j]? = some o → o.op ≠ .select cs b)
    (hw : bs.getLast? = some w) (hf : ∀ x, al = some x → 0 < f) (ht : turnB md ops al i listed = true)
    (h : if Region.wanted o (yielded ops a.tmps) then ∃ V : Value → World → Prop, (∀ W, Kept w W → evAt P S o a W V) ∧ ∀ v w1, V v w1 → Into S w w1 → wpX P md ops S n0 obj Qn g0 ph ev al dA m Fin f (bs ++ [w1]) g (listed.setIfInBounds i true) (a.put o.dst v)
      else wpX P md ops S n0 obj Qn g0 ph ev al dA m Fin f (bs ++ [w]) g (listed.setIfInBounds i true) (a.put o.dst undef)) :
    wpX P md ops S n0 obj Qn g0 ph ev al dA m Fin (f + 1) bs g listed a := by
  simp only [turnB, Bool.or_eq_true, decide_eq_true_eq] at ht
  have self : ∀ j, j = i → (m ≤ j ∧ ∀ W, Inv S n0 obj bs g W → wpOp P ops Qn j (wpAny P md ops Qn (f + g0) (listed.setIfInBounds j true)) a W) ∨ (j < m ∧ (if al = some j then ∀ b, wpX P md ops S n0 obj Qn g0 ph ev al dA m Fin f bs (some b) (listed.setIfInBounds j true) (a.put dA (.pointer (some ⟨b, 0, none⟩)))
       else ∃ o, ops[j]? = some o ∧
        (if ev j then ∃ w, bs.getLast? = some w ∧ (if Region.wanted o (yielded ops a.tmps) then ∃ V : Value → World → Prop, (∀ W, Kept w W → evAt P S o a W V) ∧ ∀ v w1, V v w1 → Into S w w1 → wpX P md ops S n0 obj Qn g0 ph ev al dA m Fin f (bs ++ [w1]) g (listed.setIfInBounds j true) (a.put o.dst v)
            else wpX P md ops S n0 obj Qn g0 ph ev al dA m Fin f (bs ++ [w]) g (listed.setIfInBounds j true) (a.put o.dst undef))
         else ∃ w, bs[ph j]? = some w ∧ cOp P ops S w o (wpX P md ops S n0 obj Qn g0 ph ev al dA m Fin f bs g (listed.setIfInBounds j true)) a))) := by
    rintro j rfl
    refine .inr ⟨him, ?_⟩
    rw [if_neg hal]
    refine ⟨o, ho, ?_⟩
    rw [if_pos hev]
    exact ⟨w, hw, h⟩
  rcases ht with hE | ht
  · refine ⟨fun h0 => (by rw [hE] at h0; cases h0), fun j hj => ?_⟩
    rw [hE] at hj
    exact self j (by simpa using hj)
  · cases hal2 : al with
    | none => rw [hal2] at ht; cases ht
    | some x =>
      rw [hal2, ho] at ht
      simp only at ht
      cases hox : ops[x]? with
      | none => rw [hox] at ht; cases ht
      | some ox =>
        rw [hox] at ht
        simp only [Bool.and_eq_true, decide_eq_true_eq] at ht
        obtain ⟨⟨⟨⟨⟨hxi, hci⟩, hcx⟩, hall⟩, hR⟩, hap⟩ := ht
        have hxi' : x ≠ i := by simpa using hxi
        have hir : i ∈ Region.ready md ops listed := by simpa using hci
        have hxr : x ∈ Region.ready md ops listed := by simpa using hcx
        have hdx : ox.dst = dA := by
          obtain ⟨oA, hoA, hd⟩ := hA x hal2
          obtain rfl : ox = oA := Option.some.inj (hox.symm.trans hoA)
          exact hd
        subst hdx
        rw [hal2] at hal self h
        refine ⟨fun h0 => (by rw [h0] at hir; cases hir), fun j hj => ?_⟩
        have hj2 := List.all_eq_true.1 hall j hj
        simp only [Bool.or_eq_true, beq_iff_eq] at hj2
        rcases hj2 with rfl | rfl
        · exact self j rfl
        · refine .inr ⟨hxm j hal2, ?_⟩
          rw [if_pos rfl]
          intro b
          obtain ⟨g1, g2, g3⟩ := Oper.apart_spec hap
          have hseli := fun cs b => hsel i o cs b ho
          have hcom : (listed.setIfInBounds j true).setIfInBounds i true = (listed.setIfInBounds i true).setIfInBounds j true := Array.setIfInBounds_comm _ _ hxi'
          have hxr' : j ∈ Region.ready md ops (listed.setIfInBounds i true) := ready_mono hxr hxi'
          cases f with
          | zero =>
            have := hf j hal2
            omega
          | succ f =>
            refine ⟨fun h0 => (by rw [hR] at h0; cases h0), fun k hk => ?_⟩
            rw [hR] at hk
            obtain rfl : k = i := by simpa using hk
            refine .inr ⟨him, ?_⟩
            rw [if_neg hal]
            refine ⟨o, ho, ?_⟩
            rw [if_pos hev]
            refine ⟨w, hw, ?_⟩
            rw [wanted_put o a ox.dst _ g1]
            split
            · rename_i hwt
              rw [if_pos hwt] at h
              obtain ⟨V, h3, h4⟩ := h
              refine ⟨V, fun W hW => ?_, fun v w1 hV hI => ?_⟩
              · have := h3 W hW
                unfold evAt at *
                rwa [execOp_put o hseli a ox.dst _ g1]
              · have h6 := ((h4 v w1 hV hI).2 j hxr').resolve_left (fun hh => by have := hxm j hal2; omega) |>.2
                rw [if_pos rfl] at h6
                rw [hcom, Act.put_comm a _ v g2]
                exact h6 b
            · rename_i hwt
              rw [if_neg hwt] at h
              have h6 := (h.2 j hxr').resolve_left (fun hh => by have := hxm j hal2; omega) |>.2
              rw [if_pos rfl] at h6
              rw [hcom, Act.put_comm a _ undef g2]
              exact h6 b

theorem wpX_plan {n0 g0 : Nat} {obj : Obj} {Qn : Exit → Act → World → Prop} {ph : Nat → Nat} {es ps : List Nat} {al : Option Nat} {dA : Option Tmp} {m : Nat} {Fin : List World → Option Nat → Array Bool → Act → Prop} {E : World → Act → Prop} {l : List Oper} (hsel : Region.noSelect l.toArray = true) (hs : sinkB md l.toArray ps m = true)
    (hA : ∀ i, al = some i → ∃ o, l.toArray[i]? = some o ∧ o.dst = dA) (hxm : ∀ x, al = some x → x < m)
    (hdone : ∀ bs g listed a, Fin bs g listed a → ∀ j ∈ Region.ready md l.toArray listed, m ≤ j)
    (hsound : ∀ (f : Nat) (bs : List World) (g : Option Nat) (listed : Array Bool) (a : Act) (W : World), wpX P md l.toArray S n0 obj Qn g0 ph (fun i => es.contains i) al dA m Fin f bs g listed a → Inv S n0 obj bs g W → wpAny P md l.toArray Qn (f + g0) listed a W)
    (hQ : ps = [] ∨ ∀ c (a : Act) w, ¬ Qn (.panic c) a w)
    (hbase : ∀ bs g listed a w, bs.getLast? = some w → al = none → Region.seqB md l.toArray (l.toArray.size - m) m listed = true → E w a → Fin bs g listed a)
    (hbaseA : ∀ (x : Nat) (bs : List World) (listed : Array Bool) (a : Act) (w : World) (b : Nat), bs.getLast? = some w → al = some x → Region.seqB md l.toArray (l.toArray.size - m) m (listed.setIfInBounds x true) = true → E w a → Fin bs (some b) (listed.setIfInBounds x true) (a.put dA (.pointer (some ⟨b, 0, none⟩)))) :
    ∀ (ord : List Nat) (k : Nat) (bs : List World) (g : Option Nat) (listed : Array Bool) (a : Act) (w : World), bs.length = k + 1 → bs.getLast? = some w →
    planB md l.toArray (fun i => es.contains i) ph al m ord k listed = true → walk P l.toArray S E (pick l es ps ord) w a →
    wpX P md l.toArray S n0 obj Qn g0 ph (fun i => es.contains i) al dA m Fin (ord.length + (if al.isSome then 1 else 0)) bs g listed a
  | [], k, bs, g, listed, a, w, _, hw, hB, h => by
    cases hal : al with
    | none =>
      simp only [planB, hal] at hB
      exact hbase bs g listed a w hw hal hB h
    | some x =>
      simp only [planB, hal, Bool.and_eq_true, decide_eq_true_eq] at hB
      refine ⟨fun h0 => (by rw [hB.1.1] at h0; cases h0), fun j hj => ?_⟩
      rw [hB.1.1] at hj
      obtain rfl : j = x := by simpa using hj
      refine .inr ⟨hB.1.2, ?_⟩
      rw [if_pos rfl]
      intro b
      exact hbaseA j bs listed a w b hw hal hB.2 h
  | i :: r, k, bs, g, listed, a, w, hk, hw, hB, h => by
    simp only [planB, Bool.and_eq_true, decide_eq_true_eq] at hB
    obtain ⟨⟨⟨him, hal⟩, hE⟩, hB'⟩ := hB
    rw [List.length_cons, show r.length + 1 + (if al.isSome then 1 else 0) = (r.length + (if al.isSome then 1 else 0)) + 1 by omega]
    cases hev : es.contains i with
    | true =>
      simp only [hev, if_true] at hE hB'
      have hir : i ∈ Region.ready md l.toArray listed := by
        simp only [turnB, Bool.or_eq_true, decide_eq_true_eq] at hE
        rcases hE with hE | hE
        · rw [hE]; simp
        · split at hE
          · split at hE
            · simp only [Bool.and_eq_true] at hE; simpa using hE.1.1.1.1.2
            · cases hE
          · cases hE
      obtain ⟨_, o, ho, _⟩ := mem_ready.1 hir
      have hpk : pick l es ps (i :: r) = (o, 1) :: pick l es ps r := by
        simp only [List.getElem?_toArray] at ho
        simp only [pick, ho, kindOf, hev, if_true, List.cons_append, List.nil_append]
      rw [hpk] at h
      refine wpX_event (w := w) ho hev hal him hxm hA (Region.noSelect_spec hsel) hw (fun x hx => by simp [hx]) hE ?_
      unfold walk at h
      split
      · rename_i hwt
        rw [if_pos hwt] at h
        obtain ⟨V, h1, h2⟩ := h
        refine ⟨V, h1, fun v w1 hV hI => ?_⟩
        exact wpX_plan hsel hs hA hxm hdone hsound hQ hbase hbaseA r (k + 1) (bs ++ [w1]) g _ _ w1 (by simp [hk]) (by simp) hB' (h2 v w1 hV hI)
      · rename_i hwt
        rw [if_neg hwt] at h
        exact wpX_plan hsel hs hA hxm hdone hsound hQ hbase hbaseA r (k + 1) (bs ++ [w]) g _ _ w (by simp [hk]) (by simp) hB' h
    | false =>
      simp only [hev, Bool.false_eq_true, if_false, Bool.and_eq_true, decide_eq_true_eq] at hE hB'
      obtain ⟨⟨hr, hf⟩, hph⟩ := hE
      have hir : i ∈ Region.ready md l.toArray listed := by simpa using hr
      obtain ⟨_, o, ho, _⟩ := mem_ready.1 hir
      have ho2 := ho
      simp only [List.getElem?_toArray] at ho2
      have hbw : bs[ph i]? = some w := by
        rw [List.getLast?_eq_getElem?, hk] at hw
        rw [hph]; simpa using hw
      cases hps : ps.contains i with
      | false =>
        have hpk : pick l es ps (i :: r) = (o, 0) :: pick l es ps r := by
          simp only [pick, ho2, kindOf, hev, hps, Bool.false_eq_true, if_false, List.cons_append, List.nil_append]
        rw [hpk] at h
        have hst : cOp P l.toArray S w o (walk P l.toArray S E (pick l es ps r) w) a := h
        obtain ⟨v, hy, hK⟩ := y_of_cOp hst
        have hwt := fun (listed : Array Bool) (j : Nat) hun hj => waits (listed := listed) hs hps him hun (j := j) hj
        exact wpX_first ho hev hal him hA (Region.noSelect_spec hsel) hdone hsound (.inl hwt) _ bs g listed a hbw (Region.free_spec ho hf) hir hy (.inl hwt)
          (wpX_plan hsel hs hA hxm hdone hsound hQ hbase hbaseA r k bs g _ _ w hk hw hB' hK)
      | true =>
        have hpk : pick l es ps (i :: r) = (o, 2) :: pick l es ps r := by
          simp only [pick, ho2, kindOf, hev, hps, Bool.false_eq_true, if_false, if_true, List.cons_append, List.nil_append]
        rw [hpk] at h
        obtain ⟨v, hy, hK⟩ := h
        have hQ' : ∀ c (a : Act) w, ¬ Qn (.panic c) a w := hQ.resolve_left (fun e => by rw [e] at hps; cases hps)
        exact wpX_first ho hev hal him hA (Region.noSelect_spec hsel) hdone hsound (.inr fun c a w hh => absurd hh (hQ' _ _ _)) _ bs g listed a hbw (Region.free_spec ho hf) hir (y_of_yields hy) (.inr hy)
          (wpX_plan hsel hs hA hxm hdone hsound hQ hbase hbaseA r k bs g _ _ w hk hw hB' hK)

/-- all of one region that is asked ahead: ord the order of the walk over the first m, es the events, ps what asks no world -/
def flowPB (md : Region.Mode) (ops : Array Oper) (ord es ps : List Nat) : Bool :=
  Region.noSelect ops && decide (ord.length ≤ ops.size) && sinkB md ops ps ord.length && planB md ops (fun i => es.contains i) (phOf (fun i => es.contains i) ord) none ord.length ord 0 (Array.replicate ops.size false)

/-- what is asked of a region's normal end alone -/
def Nrm (Q : Exit → Act → World → Prop) : Exit → Act → World → Prop
  | .normal, a, w => Q .normal a w
  | _, _, _ => False
@[go_sem] theorem Nrm_normal (Q : Exit → Act → World → Prop) (a : Act) (w : World) : Nrm Q .normal a w = Q .normal a w := rfl
theorem Nrm_le (Q : Exit → Act → World → Prop) : ∀ e a w, Nrm Q e a w → Q e a w := fun e a w h => by
  cases e <;> first | exact h | exact absurd h (fun h => h)

theorem region_flow {id : Nat} {Q : Exit → Act → World → Prop} {a : Act} {w : World} {l : List Oper} (S : List Nat) (ord es ps : List Nat) (hm : P.follows .mixedOrders = true) (hB : flowPB .any l.toArray ord es ps = true) (hS : ∀ k, k ∈ S → k < w.heap.size) (hQ : ps = [] ∨ ∀ c (a : Act) w, ¬ Q (.panic c) a w)
    (h : walk P l.toArray S (fun w' a' => ∀ W, Kept w' W → wpList P l.toArray Q (l.drop ord.length) a' W) (pick l es ps ord) w a) : (Code.region id l.toArray true).wp P Q a w := by
  simp only [flowPB, Bool.and_eq_true, decide_eq_true_eq] at hB
  obtain ⟨⟨⟨hsel, hn⟩, hs⟩, hplan⟩ := hB
  have hn' : ord.length ≤ l.length := by simpa using hn
  have hdl : (l.drop ord.length).length = l.toArray.size - ord.length := by simp
  have hsd := fun (f : Nat) (bs : List World) (g : Option Nat) (listed : Array Bool) (a : Act) (W : World) => wpAny_of_X (P := P) (ops := l.toArray) (md := .any) (S := S) (n0 := w.heap.size) (obj := .cells #[] 0) (ph := phOf (fun i => es.contains i) ord) (ev := fun i => es.contains i) (al := none) (dA := none) (m := ord.length)
    (Fin := fun bs _ listed a' => ∃ w', bs.getLast? = some w' ∧ Region.seqB .any l.toArray (l.toArray.size - ord.length) ord.length listed = true ∧ ∀ W, Kept w' W → wpList P l.toArray Q (l.drop ord.length) a' W)
    (Q' := Q) (g0 := l.toArray.size - ord.length) hS (fun _ h => by cases h) (fun bs g listed a' W ⟨w', hw', h1, h2⟩ hi => by
    have := wpAny_of_seq (md := .any) (Q' := Q) (l.drop ord.length) ord.length listed a' W (fun j => by simp [List.getElem?_drop]) (by rw [hdl]; exact h1) (h2 W (hi.last w' hw'))
    rwa [hdl] at this) f bs g listed a W
  have H := wpX_plan (P := P) (md := .any) (S := S) (m := ord.length) (al := none) (dA := none) (n0 := w.heap.size) (obj := .cells #[] 0) (Qn := Q) (g0 := l.toArray.size - ord.length)
    (Fin := fun bs _ listed a' => ∃ w', bs.getLast? = some w' ∧ Region.seqB .any l.toArray (l.toArray.size - ord.length) ord.length listed = true ∧ ∀ W, Kept w' W → wpList P l.toArray Q (l.drop ord.length) a' W)
    hsel hs (fun _ h => by cases h) (fun _ h => by cases h) (fun bs g listed a ⟨_, _, h1, _⟩ => seqB_ready h1) hsd hQ (fun bs g listed a w hw _ h1 h2 => ⟨w, hw, h1, h2⟩) (fun _ _ _ _ _ _ _ h => by cases h) ord 0 [w] none _ a w rfl rfl hplan h
  refine wp_region_any hm ?_
  have := hsd _ _ _ _ _ { w with drawn := w.drawn + 1 } H ⟨fun w' hw' => by
      obtain rfl : w' = w := by simpa using hw'
      exact Into.of_below ⟨rfl, rfl, rfl, Nat.le_refl _, fun _ _ => rfl⟩, fun w' hw' => by
      obtain rfl : w' = w := by simpa using hw'.symm
      exact ⟨rfl, rfl, rfl, Nat.le_refl _, fun _ _ => rfl⟩, fun _ h => (by cases h), Nat.le_refl _⟩
  rw [show ord.length + (if (none : Option Nat).isSome then 1 else 0) + (l.toArray.size - ord.length) = l.toArray.size by simp; omega] at this
  exact this

/-- **The law**: ord a list of all places below m (its length), es those that are events; the rest follows in its order. -/
theorem wp_region_flow {id : Nat} {Q : Exit → Act → World → Prop} {a : Act} {w : World} {l : List Oper} (S : List Nat) (ord es : List Nat) (hm : P.follows .mixedOrders = true) (hB : flowPB .any l.toArray ord es [] = true) (hS : ∀ k, k ∈ S → k < w.heap.size)
    (h : walk P l.toArray S (fun w' a' => ∀ W, Kept w' W → wpList P l.toArray Q (l.drop ord.length) a' W) (pick l es [] ord) w a) : (Code.region id l.toArray true).wp P Q a w :=
  region_flow S ord es [] hm hB hS (.inl rfl) h
/-- the same where some operations that ask no world (ps) may come behind the tail's -/
theorem wp_region_flow_late {id : Nat} {Q : Exit → Act → World → Prop} {a : Act} {w : World} {l : List Oper} (S : List Nat) (ord es ps : List Nat) (hm : P.follows .mixedOrders = true) (hB : flowPB .any l.toArray ord es ps = true) (hS : ∀ k, k ∈ S → k < w.heap.size)
    (h : walk P l.toArray S (fun w' a' => ∀ W, Kept w' W → wpList P l.toArray (Nrm Q) (l.drop ord.length) a' W) (pick l es ps ord) w a) : (Code.region id l.toArray true).wp P Q a w :=
  wp_mono (region_flow S ord es ps hm hB hS (.inr fun _ _ _ h => h) h) (Nrm_le Q)

def flowAB (md : Region.Mode) (ops : Array Oper) (x : Nat) (ord es ps : List Nat) : Bool :=
  Region.noSelect ops && decide (ord.length + 1 ≤ ops.size) && decide (x < ord.length + 1) && sinkB md ops ps (ord.length + 1) && planB md ops (fun i => es.contains i) (phOf (fun i => es.contains i) ord) (some x) (ord.length + 1) ord 0 (Array.replicate ops.size false)

theorem region_flow_alloc {id : Nat} {Q : Exit → Act → World → Prop} {a : Act} {w : World} {l : List Oper} (S : List Nat) (x : Nat) (T : TypeId) (d : Tmp) (obj : Obj) (ord es ps : List Nat) (hm : P.follows .mixedOrders = true) (hB : flowAB .any l.toArray x ord es ps = true) (hS : ∀ k, k ∈ S → k < w.heap.size) (hQ : ps = [] ∨ ∀ c (a : Act) w, ¬ Q (.panic c) a w)
    (hop : (l.toArray[x]?).map (fun o => (o.op, o.guard, o.dst)) = some (.alloc T, none, some d))
    (hrun : ∀ w : World, (Instr.alloc T true (.tuple #[])).run P w = .ok (.pointer (some ⟨w.heap.size, 0, none⟩)) (w.alloc obj))
    (h : walk P l.toArray S (fun w' a' => ∀ (b : Nat) (W : World), Kept w' W → w.heap.size ≤ b → W.heap[b]? = some obj → wpList P l.toArray Q (l.drop (ord.length + 1)) (a'.put (some d) (.pointer (some ⟨b, 0, none⟩))) W) (pick l es ps ord) w a) : (Code.region id l.toArray true).wp P Q a w := by
  obtain ⟨oF, hat, hoF⟩ : ∃ oF, l.toArray[x]? = some oF ∧ (oF.op, oF.guard, oF.dst) = (Op.alloc T, none, some d) := by
    cases ho : l.toArray[x]? with
    | none => rw [ho] at hop; cases hop
    | some o => rw [ho] at hop; exact ⟨o, rfl, by simpa using hop⟩
  simp only [Prod.mk.injEq] at hoF
  obtain ⟨ho1, ho2, ho3⟩ := hoF
  have hrun' : ∀ (a : Act) (w : World), (execOp a.eval oF).run P w = .ok (.value (.pointer (some ⟨w.heap.size, 0, none⟩))) (w.alloc obj) := fun a w => by
    unfold execOp; rw [ho1]; simp [hrun, Result.andThen]
  simp only [flowAB, Bool.and_eq_true, decide_eq_true_eq] at hB
  obtain ⟨⟨⟨⟨hsel, hn⟩, hx⟩, hs⟩, hplan⟩ := hB
  have hn' : ord.length + 1 ≤ l.length := by simpa using hn
  have hdl : (l.drop (ord.length + 1)).length = l.toArray.size - (ord.length + 1) := by simp
  have hsd := fun (f : Nat) (bs : List World) (g : Option Nat) (listed : Array Bool) (a : Act) (W : World) => wpAny_of_X (P := P) (ops := l.toArray) (md := .any) (S := S) (n0 := w.heap.size) (obj := obj) (ph := phOf (fun i => es.contains i) ord) (ev := fun i => es.contains i) (al := some x) (dA := some d) (m := ord.length + 1)
    (Fin := fun bs g listed a' => ∃ w' b a0, bs.getLast? = some w' ∧ g = some b ∧ a' = Act.put a0 (some d) (.pointer (some ⟨b, 0, none⟩)) ∧ Region.seqB .any l.toArray (l.toArray.size - (ord.length + 1)) (ord.length + 1) listed = true ∧
      ∀ W, Kept w' W → w.heap.size ≤ b → W.heap[b]? = some obj → wpList P l.toArray Q (l.drop (ord.length + 1)) a' W)
    (Q' := Q) (g0 := l.toArray.size - (ord.length + 1)) hS (fun i h => ⟨oF, by cases h; exact hat, ho2, ho3, hrun'⟩) (fun bs g listed a' W ⟨w', b, a0, hw', hg, ha, h1, h2⟩ hi => by
    obtain ⟨l1, _, l3⟩ := hi.laid b hg
    have := wpAny_of_seq (md := .any) (Q' := Q) (l.drop (ord.length + 1)) (ord.length + 1) listed a' W (fun j => by simp [List.getElem?_drop]) (by rw [hdl]; exact h1) (h2 W (hi.last w' hw') l1 l3)
    rwa [hdl] at this) f bs g listed a W
  have H := wpX_plan (P := P) (md := .any) (S := S) (m := ord.length + 1) (al := some x) (dA := some d) (n0 := w.heap.size) (obj := obj) (Qn := Q) (g0 := l.toArray.size - (ord.length + 1))
    (Fin := fun bs g listed a' => ∃ w' b a0, bs.getLast? = some w' ∧ g = some b ∧ a' = Act.put a0 (some d) (.pointer (some ⟨b, 0, none⟩)) ∧ Region.seqB .any l.toArray (l.toArray.size - (ord.length + 1)) (ord.length + 1) listed = true ∧
      ∀ W, Kept w' W → w.heap.size ≤ b → W.heap[b]? = some obj → wpList P l.toArray Q (l.drop (ord.length + 1)) a' W)
    hsel hs (fun i h => ⟨oF, by cases h; exact hat, ho3⟩) (fun i h => by cases h; exact hx) (fun bs g listed a ⟨_, _, _, _, _, _, h1, _⟩ => seqB_ready h1) hsd hQ (fun _ _ _ _ _ _ h => by cases h)
    (fun x' bs listed a w' b hw hal h1 h2 => by cases hal; exact ⟨w', b, a, hw, rfl, rfl, h1, fun W hK hb hW => h2 b W hK hb hW⟩) ord 0 [w] none _ a w rfl rfl hplan h
  refine wp_region_any hm ?_
  have := hsd _ _ _ _ _ { w with drawn := w.drawn + 1 } H ⟨fun w' hw' => by
      obtain rfl : w' = w := by simpa using hw'
      exact Into.of_below ⟨rfl, rfl, rfl, Nat.le_refl _, fun _ _ => rfl⟩, fun w' hw' => by
      obtain rfl : w' = w := by simpa using hw'.symm
      exact ⟨rfl, rfl, rfl, Nat.le_refl _, fun _ _ => rfl⟩, fun _ h => (by cases h), Nat.le_refl _⟩
  rw [show ord.length + (if (some x : Option Nat).isSome then 1 else 0) + (l.toArray.size - (ord.length + 1)) = l.toArray.size by simp; omega] at this
  exact this

/-- **The law where operation x lays a block, at whatever moment**: ord all places below m but x; ps: what asks no world, and for which the tail need not wait. -/
theorem wp_region_flow_alloc {id : Nat} {Q : Exit → Act → World → Prop} {a : Act} {w : World} {l : List Oper} (S : List Nat) (x : Nat) (T : TypeId) (d : Tmp) (obj : Obj) (ord es ps : List Nat) (hm : P.follows .mixedOrders = true) (hB : flowAB .any l.toArray x ord es ps = true) (hS : ∀ k, k ∈ S → k < w.heap.size)
    (hop : (l.toArray[x]?).map (fun o => (o.op, o.guard, o.dst)) = some (.alloc T, none, some d))
    (hrun : ∀ w : World, (Instr.alloc T true (.tuple #[])).run P w = .ok (.pointer (some ⟨w.heap.size, 0, none⟩)) (w.alloc obj))
    (h : walk P l.toArray S (fun w' a' => ∀ (b : Nat) (W : World), Kept w' W → w.heap.size ≤ b → W.heap[b]? = some obj → wpList P l.toArray (Nrm Q) (l.drop (ord.length + 1)) (a'.put (some d) (.pointer (some ⟨b, 0, none⟩))) W) (pick l es ps ord) w a) : (Code.region id l.toArray true).wp P Q a w :=
  wp_mono (region_flow_alloc S x T d obj ord es ps hm hB hS (.inr fun _ _ _ h => h) hop hrun h) (Nrm_le Q)
end
attribute [go_sem] calm calmAt upon evAt evUpon
end Go.Proofs.Yteefkhgmcknbaaa.Flow
