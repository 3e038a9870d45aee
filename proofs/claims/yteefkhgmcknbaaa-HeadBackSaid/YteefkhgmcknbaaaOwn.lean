/-
  Blocks of cells that a call made itself, of whatever values: a slice from their front on reads as a list. No program.
-/
import Derived.Below
import Derived.Laws.Slices
import Derived.Laws.MakeOwn
import Derived.Deep.Draws
import Derived.Lib.Hide
import Derived.Maps.AppendAt
import Derived.Laws.OwnMore
import Derived.Deep.AppendLies
import Derived.ProofKit
import Derived.Test.YteefkhgmcknbaaaFlow
namespace Go.Proofs.Yteefkhgmcknbaaa.Mem
open Go.RowKit

/-- the slice of block g from its front on reads as vs -/
def Ow (U : TypeId) (w : World) (g cap : Nat) (vs : List Value) : Prop := w.ownsRow g U 1 (.slice (some ⟨g, 0, none⟩) vs.length cap) vs.length vs
section
variable {U : TypeId} {w w' : World} {g cap : Nat} {vs : List Value}
theorem ow_of {B n : Nat} (h : w.ownsRow B U 1 (.slice (some ⟨g, 0, none⟩) n cap) n vs) : Ow U w g cap vs ∧ B ≤ g ∧ vs.length = n := by
  obtain ⟨h1, h2⟩ := h
  have hn : vs.length = n := by omega
  subst hn
  rcases h2 with ⟨h, _⟩ | ⟨g', cap', cur, he, hB, hr⟩
  · cases h
  · obtain ⟨rfl, rfl⟩ : g = g' ∧ cap = cap' := by simpa using he
    exact ⟨⟨h1, .inr ⟨g, cap, cur, rfl, Nat.le_refl _, hr⟩⟩, hB, rfl⟩
theorem Ow.lt (h : Ow U w g cap vs) : g < w.heap.size := by
  obtain ⟨_, h2⟩ := h
  rcases h2 with ⟨h, _⟩ | ⟨g', cap', cur, he, _, hh, _⟩
  · cases h
  · obtain ⟨rfl, _⟩ : g = g' ∧ cap = cap' := by simpa using he
    exact (Array.getElem?_eq_some_iff.1 hh).1
theorem Ow.room (h : Ow U w g cap vs) : vs.length ≤ cap := by
  obtain ⟨_, h2⟩ := h
  rcases h2 with ⟨h, _⟩ | ⟨g', cap', cur, he, _, _, hle, _⟩
  · cases h
  · obtain ⟨_, rfl⟩ : g = g' ∧ cap = cap' := by simpa using he
    exact hle
theorem Ow.cell (h : Ow U w g cap vs) {i : Nat} (hi : i < vs.length) : w.cell? ⟨g, i, none⟩ = some vs[i] := by
  rw [World.ownsRow.cellAt h i (by omega)]; simp [hi]
theorem Ow.free (h : Ow U w g cap vs) (i : Nat) : w.frozen? ⟨g, i, none⟩ = false := World.ownsRow.frozenAt h i
theorem Ow.keep (h : Ow U w g cap vs) (hk : w'.heap[g]? = w.heap[g]?) : Ow U w' g cap vs := by
  obtain ⟨h1, h2⟩ := h
  refine ⟨h1, ?_⟩
  rcases h2 with h | ⟨g', cap', cur, he, hB, hh, hr⟩
  · exact .inl h
  · obtain ⟨rfl, rfl⟩ : g = g' ∧ cap = cap' := by simpa using he
    exact .inr ⟨g, cap, cur, rfl, hB, hk.trans hh, hr⟩
theorem Ow.below {B : Nat} (h : Ow U w g cap vs) (hb : Below B w w') (hg : g < B) : Ow U w' g cap vs := h.keep (hb.block g hg)
theorem Ow.kept (h : Ow U w g cap vs) (hb : Below w.heap.size w w') : Ow U w' g cap vs := h.keep (hb.block g h.lt)
theorem Ow.into {S : List Nat} (h : Ow U w g cap vs) (hb : Flow.Into S w w') (hn : g ∉ S) : Ow U w' g cap vs := h.keep (hb.block g h.lt hn)
theorem Ow.set (h : Ow U w g cap vs) (i : Nat) (u : Value) : Ow U (w.setCell ⟨g, i, none⟩ u) g cap (vs.set i u) ∧ Flow.Into [g] w (w.setCell ⟨g, i, none⟩ u) := by
  refine ⟨?_, ⟨rfl, rfl, rfl, by simp [World.setCell], fun k _ hn => Below.heap_setCell _ _ _ _ (by simpa using hn)⟩⟩
  have := (World.ownsRow.stored h i u).1
  unfold Ow
  rw [List.length_set]
  exact this
end

/-- a new slice of noughts -/
theorem run_make_ow {P : Program} {t e : TypeId} {z : Value} {by_ : Nat} (ht : P.underlying t = some (.slice e)) (hinfo : (P.info? e).map (fun i => (i.zero, i.size, i.bytes)) = some (some z, 1, by_)) (hzc : z.cells = #[z]) (hby : by_ ≤ 24) (n : Nat) (hn : n ≤ 1048576) (w : World) :
    ∃ w', (Instr.makeSlice t (.int .i64 (n : Int)) (.int .i64 (n : Int))).run P w = .ok (.slice (some ⟨w.heap.size, 0, none⟩) n n) w' ∧ Ow e w' w.heap.size n (List.replicate n z) ∧ Below w.heap.size w w' := by
  obtain ⟨i, hi, hz, hs, hb⟩ := info_parts hinfo
  obtain ⟨w', h1, h2, h3⟩ := run_make_full (P := P) (w := w) w.heap.size t e i z 1 ht hi hz hs .i64 .i64 n (by rw [hb]; have := Nat.mul_le_mul hby hn; omega) (by unfold maxLen; omega) (Nat.le_refl _)
  rw [Nat.mul_one, hzc, toList_madeCells_one] at h2
  exact ⟨w', h1, (ow_of h2).1, (Below.refl _ _).grown h3 (Nat.le_refl _) (fun k hk => by cases hk)⟩

/-- the same, the world named -/
theorem run_make_at {P : Program} {t e : TypeId} {z : Value} {by_ : Nat} (ht : P.underlying t = some (.slice e)) (hinfo : (P.info? e).map (fun i => (i.zero, i.size, i.bytes)) = some (some z, 1, by_)) (hzc : z.cells = #[z]) (hby : by_ ≤ 24) (n : Nat) (hn : n ≤ 1048576) (w : World) :
    (Instr.makeSlice t (.int .i64 (n : Int)) (.int .i64 (n : Int))).run P w = .ok (.slice (some ⟨w.heap.size, 0, none⟩) n n) (w.alloc (.cells (List.replicate n z).toArray e)) := by
  obtain ⟨i, hi, hz, hs, hb⟩ := info_parts hinfo
  have hr := run_make (P := P) w t e i z ht hi hz .i64 .i64 n n (by omega) (by omega) (by rw [hb]; have : (by_ : Int) * (n : Int) ≤ 24 * 1048576 := by have := Nat.mul_le_mul hby hn; omega
                                                                                          omega) (by omega)
  rw [hr, hs]
  simp only [Int.toNat_natCast, Nat.mul_one]
  rw [hzc, ← toList_madeCells_one z n]
theorem ow_made (e : TypeId) (w : World) (z : Value) (n : Nat) (hn : n ≤ 1048576) : Ow e (w.alloc (.cells (List.replicate n z).toArray e)) w.heap.size n (List.replicate n z) := by
  have := World.ownsRow_lit (base := w.heap.size) (e := e) (size := 1) w (List.replicate n z).toArray n (Nat.le_refl _) (by unfold maxLen; omega) (by simp)
  exact (ow_of (by simpa using this)).1

/-- append of a whole slice behind an empty one of the call's own -/
theorem wpList_append_ow {P : Program} {w : World} {ops : Array Oper} {rest : List Oper} {o : Oper} {a : Act} {Q : Exit → Act → World → Prop} (hgd : o.guard = none) (s x : Operand) (t : TypeId)
    (ho : o.op = .call { callee := .builtin .append, args := #[s, x], argTypes := #[t, t] }) (U : TypeId) (ht : P.underlying t = some (.slice U)) (z : Value) (by_ : Nat) (hinfo : (P.info? U).map (fun i => (i.zero, i.size, i.bytes)) = some (some z, 1, by_)) (hzc : z.cells = #[z]) (hby : by_ ≤ 24)
    (w0 : World) (hw : w = w0.alloc (.cells #[] U)) (hs : a.eval s = .slice (some ⟨w0.heap.size, 0, none⟩) 0 0) (b m c : Nat) (vs : List Value) (hx : a.eval x = .slice (some ⟨b, 0, none⟩) m c) (hl : vs.length = m) (hv : Ow U w0 b c vs)
    (h1 : ∀ u ∈ vs, u.oneCell' = true) (hp : 0 < m) (hm : m ≤ 1048576)
    (h : ∀ g cap w', Hid (Ow U w' g cap vs) → Hid (w0.heap.size ≤ g) → Hid (Below w0.heap.size w0 w') → wpList P ops Q rest (a.put o.dst (.slice (some ⟨g, 0, none⟩) m cap)) w') : wpList P ops Q (o :: rest) a w := by
  obtain ⟨i, hi, hz, hs1, hb1⟩ := info_parts hinfo
  refine wpList_plain hgd fun K hK => ?_
  have hown : w.ownsRow w0.heap.size U 1 (.slice (some ⟨w0.heap.size, 0, none⟩) 0 0) 0 [] := by
    subst hw
    exact World.ownsRow_lit (base := w0.heap.size) (e := U) (size := 1) w0 #[] 0 (Nat.le_refl _) (Nat.zero_le _) (by simp)
  have hv1 : Ow U w b c vs := hv.below (B := w0.heap.size) (by subst hw; exact (Below.refl _ _).alloc (Nat.le_refl _) _) hv.lt
  have hmb : m * by_ ≤ 25165824 := Nat.mul_le_mul hm hby
  obtain ⟨v', w', hrun, h2, h3, h4, h5⟩ := run_append_own_at (P := P) (w := w) w0.heap.size t o.type U i z 1 by_ ht hi hz hs1 hb1 (by rw [hzc]; rfl) (by decide) (.slice (some ⟨w0.heap.size, 0, none⟩) 0 0) 0 [] hown ⟨b, 0, none⟩ m c vs (by omega) (fun j u hj => by
    have hjl : j < vs.length := by
      rcases Nat.lt_or_ge j vs.length with h' | h'
      · exact h'
      · rw [List.getElem?_eq_none h'] at hj; cases hj
    obtain rfl : u = vs[j] := by simpa [hjl] using hj.symm
    rw [← hv1.cell hjl]
    by_cases h0 : j = 0 <;> simp [Addr.add, h0]) h1 (by unfold maxLen; omega) (by rw [Nat.zero_add]; omega) (by subst hw; simp)
  simp only [Nat.zero_add, List.nil_append] at h2
  have h2' := h2
  obtain ⟨_, hc⟩ := h2'
  rcases hc with ⟨_, h0⟩ | ⟨g, cap, cur, rfl, _⟩
  · omega
  · obtain ⟨k1, k2, _⟩ := ow_of h2
    unfold Oper.wp execOp
    simp only [ho, resolve, invoke, builtin, Sem.run_bind, Sem.run_pure, Result.andThen_ok, List.map_toArray, List.map_cons, List.map_nil, hs, hx, hrun]
    refine hK _ _ (h g cap w' k1 k2 ?_)
    have hb0 : Below w0.heap.size w0 w := by subst hw; exact (Below.refl _ _).alloc (Nat.le_refl _) _
    exact hb0.grown h3 hb0.size (fun k hk => by
      obtain rfl : w0.heap.size = k := by simpa [Value.ownBlock] using hk
      exact Nat.le_refl _)
end Go.Proofs.Yteefkhgmcknbaaa.Mem
