/-
  Own, Vals, RowK, RowC, RowA, Ints. Put together by pack.py.
-/
import Derived.Below
import Derived.Laws.Slices
import Derived.Laws.MakeOwn
import Derived.Deep.Draws
import Derived.Lib.Hide
import Derived.Maps.AppendAt
import Derived.Laws.OwnMore
import Derived.Deep.AppendLies
import Derived.ProofKit
import Derived.Test.YtlabbmfiecbigaaFlow
import Derived.Test.YtlabbmfiecbigaaPkAA

namespace Go.Proofs.Ytlabbmfiecbigaa.Mem
open Go.RowKit

/-- the slice of block g from its front on reads as vs -/
def Ow (U : TypeId) (w : World) (g cap : Nat) (vs : List Value) : Prop := w.ownsRow g U 1 (.slice (some ⟨g, 0, none⟩) vs.length cap) vs.length vs
section
variable {U : TypeId} {w w' : World} {g cap : Nat} {vs : List Value}
theorem ow_of {B n : Nat} (h : w.ownsRow B U 1 (.slice (some ⟨g, 0, none⟩) n cap) n vs) : Ow U w g cap vs ∧ B ≤ g ∧ vs.length = n := by
  obtain ⟨h1, h2⟩ := h
  have hn : vs.length = n := by omega
  subst hn
  rcases h2 with ⟨h, _⟩ | ⟨g', cap', cur, he, hB, hr⟩
  · cases h
  · obtain ⟨rfl, rfl⟩ : g = g' ∧ cap = cap' := by simpa using he
    exact ⟨⟨h1, .inr ⟨g, cap, cur, rfl, Nat.le_refl _, hr⟩⟩, hB, rfl⟩
theorem Ow.lt (h : Ow U w g cap vs) : g < w.heap.size := by
  obtain ⟨_, h2⟩ := h
  rcases h2 with ⟨h, _⟩ | ⟨g', cap', cur, he, _, hh, _⟩
  · cases h
  · obtain ⟨rfl, _⟩ : g = g' ∧ cap = cap' := by simpa using he
    exact (Array.getElem?_eq_some_iff.1 hh).1
theorem Ow.room (h : Ow U w g cap vs) : vs.length ≤ cap := by
  obtain ⟨_, h2⟩ := h
  rcases h2 with ⟨h, _⟩ | ⟨g', cap', cur, he, _, _, hle, _⟩
  · cases h
  · obtain ⟨_, rfl⟩ : g = g' ∧ cap = cap' := by simpa using he
    exact hle
theorem Ow.cell (h : Ow U w g cap vs) {i : Nat} (hi : i < vs.length) : w.cell? ⟨g, i, none⟩ = some vs[i] := by
  rw [World.ownsRow.cellAt h i (by omega)]; simp [hi]
theorem Ow.free (h : Ow U w g cap vs) (i : Nat) : w.frozen? ⟨g, i, none⟩ = false := World.ownsRow.frozenAt h i
theorem Ow.keep (h : Ow U w g cap vs) (hk : w'.heap[g]? = w.heap[g]?) : Ow U w' g cap vs := by
  obtain ⟨h1, h2⟩ := h
  refine ⟨h1, ?_⟩
  rcases h2 with h | ⟨g', cap', cur, he, hB, hh, hr⟩
  · exact .inl h
  · obtain ⟨rfl, rfl⟩ : g = g' ∧ cap = cap' := by simpa using he
    exact .inr ⟨g, cap, cur, rfl, hB, hk.trans hh, hr⟩
theorem Ow.below {B : Nat} (h : Ow U w g cap vs) (hb : Below B w w') (hg : g < B) : Ow U w' g cap vs := h.keep (hb.block g hg)
theorem Ow.kept (h : Ow U w g cap vs) (hb : Below w.heap.size w w') : Ow U w' g cap vs := h.keep (hb.block g h.lt)
theorem Ow.into {S : List Nat} (h : Ow U w g cap vs) (hb : Flow.Into S w w') (hn : g ∉ S) : Ow U w' g cap vs := h.keep (hb.block g h.lt hn)
theorem Ow.set (h : Ow U w g cap vs) (i : Nat) (u : Value) : Ow U (w.setCell ⟨g, i, none⟩ u) g cap (vs.set i u) ∧ Flow.Into [g] w (w.setCell ⟨g, i, none⟩ u) := by
  refine ⟨?_, ⟨rfl, rfl, rfl, by simp [World.setCell], fun k _ hn => Below.heap_setCell _ _ _ _ (by simpa using hn)⟩⟩
  have := (World.ownsRow.stored h i u).1
  unfold Ow
  rw [List.length_set]
  exact this
end

/-- a new slice of noughts -/
theorem run_make_ow {P : Program} {t e : TypeId} {z : Value} {by_ : Nat} (ht : P.underlying t = some (.slice e)) (hinfo : (P.info? e).map (fun i => (i.zero, i.size, i.bytes)) = some (some z, 1, by_)) (hzc : z.cells = #[z]) (hby : by_ ≤ 24) (n : Nat) (hn : n ≤ 1048576) (w : World) :
    ∃ w', (Instr.makeSlice t (.int .i64 (n : Int)) (.int .i64 (n : Int))).run P w = .ok (.slice (some ⟨w.heap.size, 0, none⟩) n n) w' ∧ Ow e w' w.heap.size n (List.replicate n z) ∧ Below w.heap.size w w' := by
  obtain ⟨i, hi, hz, hs, hb⟩ := info_parts hinfo
  obtain ⟨w', h1, h2, h3⟩ := run_make_full (P := P) (w := w) w.heap.size t e i z 1 ht hi hz hs .i64 .i64 n (by rw [hb]; have := Nat.mul_le_mul hby hn; omega) (by unfold maxLen; omega) (Nat.le_refl _)
  rw [Nat.mul_one, hzc, toList_madeCells_one] at h2
  exact ⟨w', h1, (ow_of h2).1, (Below.refl _ _).grown h3 (Nat.le_refl _) (fun k hk => by cases hk)⟩

/-- the same, the world named -/
theorem run_make_at {P : Program} {t e : TypeId} {z : Value} {by_ : Nat} (ht : P.underlying t = some (.slice e)) (hinfo : (P.info? e).map (fun i => (i.zero, i.size, i.bytes)) = some (some z, 1, by_)) (hzc : z.cells = #[z]) (hby : by_ ≤ 24) (n : Nat) (hn : n ≤ 1048576) (w : World) :
    (Instr.makeSlice t (.int .i64 (n : Int)) (.int .i64 (n : Int))).run P w = .ok (.slice (some ⟨w.heap.size, 0, none⟩) n n) (w.alloc (.cells (List.replicate n z).toArray e)) := by
  obtain ⟨i, hi, hz, hs, hb⟩ := info_parts hinfo
  have hr := run_make (P := P) w t e i z ht hi hz .i64 .i64 n n (by omega) (by omega) (by rw [hb]; have : (by_ : Int) * (n : Int) ≤ 24 * 1048576 := by have := Nat.mul_le_mul hby hn; omega
                                                                                          omega) (by omega)
  rw [hr, hs]
  simp only [Int.toNat_natCast, Nat.mul_one]
  rw [hzc, ← toList_madeCells_one z n]
theorem ow_made (e : TypeId) (w : World) (z : Value) (n : Nat) (hn : n ≤ 1048576) : Ow e (w.alloc (.cells (List.replicate n z).toArray e)) w.heap.size n (List.replicate n z) := by
  have := World.ownsRow_lit (base := w.heap.size) (e := e) (size := 1) w (List.replicate n z).toArray n (Nat.le_refl _) (by unfold maxLen; omega) (by simp)
  exact (ow_of (by simpa using this)).1

/-- append of a whole slice behind an empty one of the call's own -/
theorem wpList_append_ow {P : Program} {w : World} {ops : Array Oper} {rest : List Oper} {o : Oper} {a : Act} {Q : Exit → Act → World → Prop} (hgd : o.guard = none) (s x : Operand) (t : TypeId)
    (ho : o.op = .call { callee := .builtin .append, args := #[s, x], argTypes := #[t, t] }) (U : TypeId) (ht : P.underlying t = some (.slice U)) (z : Value) (by_ : Nat) (hinfo : (P.info? U).map (fun i => (i.zero, i.size, i.bytes)) = some (some z, 1, by_)) (hzc : z.cells = #[z]) (hby : by_ ≤ 24)
    (w0 : World) (hw : w = w0.alloc (.cells #[] U)) (hs : a.eval s = .slice (some ⟨w0.heap.size, 0, none⟩) 0 0) (b m c : Nat) (vs : List Value) (hx : a.eval x = .slice (some ⟨b, 0, none⟩) m c) (hl : vs.length = m) (hv : Ow U w0 b c vs)
    (h1 : ∀ u ∈ vs, u.oneCell' = true) (hp : 0 < m) (hm : m ≤ 1048576)
    (h : ∀ g cap w', Hid (Ow U w' g cap vs) → Hid (w0.heap.size ≤ g) → Hid (Below w0.heap.size w0 w') → wpList P ops Q rest (a.put o.dst (.slice (some ⟨g, 0, none⟩) m cap)) w') : wpList P ops Q (o :: rest) a w := by
  obtain ⟨i, hi, hz, hs1, hb1⟩ := info_parts hinfo
  refine wpList_plain hgd fun K hK => ?_
  have hown : w.ownsRow w0.heap.size U 1 (.slice (some ⟨w0.heap.size, 0, none⟩) 0 0) 0 [] := by
    subst hw
    exact World.ownsRow_lit (base := w0.heap.size) (e := U) (size := 1) w0 #[] 0 (Nat.le_refl _) (Nat.zero_le _) (by simp)
  have hv1 : Ow U w b c vs := hv.below (B := w0.heap.size) (by subst hw; exact (Below.refl _ _).alloc (Nat.le_refl _) _) hv.lt
  have hmb : m * by_ ≤ 25165824 := Nat.mul_le_mul hm hby
  obtain ⟨v', w', hrun, h2, h3, h4, h5⟩ := run_append_own_at (P := P) (w := w) w0.heap.size t o.type U i z 1 by_ ht hi hz hs1 hb1 (by rw [hzc]; rfl) (by decide) (.slice (some ⟨w0.heap.size, 0, none⟩) 0 0) 0 [] hown ⟨b, 0, none⟩ m c vs (by omega) (fun j u hj => by
    have hjl : j < vs.length := by
      rcases Nat.lt_or_ge j vs.length with h' | h'
      · exact h'
      · rw [List.getElem?_eq_none h'] at hj; cases hj
    obtain rfl : u = vs[j] := by simpa [hjl] using hj.symm
    rw [← hv1.cell hjl]
    by_cases h0 : j = 0 <;> simp [Addr.add, h0]) h1 (by unfold maxLen; omega) (by rw [Nat.zero_add]; omega) (by subst hw; simp)
  simp only [Nat.zero_add, List.nil_append] at h2
  have h2' := h2
  obtain ⟨_, hc⟩ := h2'
  rcases hc with ⟨_, h0⟩ | ⟨g, cap, cur, rfl, _⟩
  · omega
  · obtain ⟨k1, k2, _⟩ := ow_of h2
    unfold Oper.wp execOp
    simp only [ho, resolve, invoke, builtin, Sem.run_bind, Sem.run_pure, Result.andThen_ok, List.map_toArray, List.map_cons, List.map_nil, hs, hx, hrun]
    refine hK _ _ (h g cap w' k1 k2 ?_)
    have hb0 : Below w0.heap.size w0 w := by subst hw; exact (Below.refl _ _).alloc (Nat.le_refl _) _
    exact hb0.grown h3 hb0.size (fun k hk => by
      obtain rfl : w0.heap.size = k := by simpa [Value.ownBlock] using hk
      exact Nat.le_refl _)
end Go.Proofs.Ytlabbmfiecbigaa.Mem

namespace Go.Proofs.Ytlabbmfiecbigaa.Mem
open Go.RowKit

/-- a slice of the call's own (its row lies from block B on) that reads as the values vs -/
def VO (U : TypeId) (w : World) (B : Nat) (A : Option Addr) (c : Nat) (vs : List Value) : Prop := w.ownsRow B U 1 (.slice A vs.length c) vs.length vs
section
variable {U : TypeId} {w w' : World} {B c : Nat} {A : Option Addr} {vs : List Value}
theorem VO.nil (U : TypeId) (w : World) (B : Nat) : VO U w B none 0 [] := World.ownsRow_nil w B U 1
theorem VO.at_ (h : VO U w B A c vs) : ∀ a, A = some a → B ≤ a.block ∧ a.block < w.heap.size := by
  obtain ⟨_, h2⟩ := h
  rintro a rfl
  rcases h2 with ⟨h', _⟩ | ⟨g, cap, cur, he, hB, hh, _⟩
  · cases h'
  · obtain ⟨rfl, _⟩ : a = ⟨g, 0, none⟩ ∧ c = cap := by simpa using he
    exact ⟨hB, (Array.getElem?_eq_some_iff.1 hh).1⟩
theorem VO.keep (h : VO U w B A c vs) (hk : ∀ a, A = some a → w'.heap[a.block]? = w.heap[a.block]?) : VO U w' B A c vs := by
  obtain ⟨h1, h2⟩ := h
  refine ⟨h1, ?_⟩
  rcases h2 with h | ⟨g, cap, cur, he, hB, hh, hr⟩
  · exact .inl h
  · obtain ⟨rfl, rfl⟩ : A = some ⟨g, 0, none⟩ ∧ c = cap := by simpa using he
    exact .inr ⟨g, c, cur, rfl, hB, (hk _ rfl).trans hh, hr⟩
theorem VO.kept (h : VO U w B A c vs) (hb : Below w.heap.size w w') : VO U w' B A c vs := h.keep fun a ha => hb.block _ (h.at_ a ha).2
theorem VO.into {S : List Nat} (h : VO U w B A c vs) (hb : Flow.Into S w w') (hn : ∀ a, A = some a → a.block ∉ S) : VO U w' B A c vs := h.keep fun a ha => hb.block _ (h.at_ a ha).2 (hn a ha)
theorem VO.ow (h : VO U w B A c vs) (h0 : 0 < vs.length) : ∃ g, A = some ⟨g, 0, none⟩ ∧ B ≤ g ∧ Ow U w g c vs := by
  have h' := h
  obtain ⟨_, h2⟩ := h'
  rcases h2 with ⟨_, h'⟩ | ⟨g, cap, cur, he, hB, _⟩
  · omega
  · obtain ⟨rfl, rfl⟩ : A = some ⟨g, 0, none⟩ ∧ c = cap := by simpa using he
    exact ⟨g, rfl, hB, (ow_of h).1⟩
end
/-- what an append of one value leaves -/
structure Appd (U : TypeId) (B : Nat) (w w' : World) (A A' : Option Addr) (c' : Nat) (vs : List Value) : Prop where
  vo : VO U w' B A' c' vs
  block : ∀ k, k < w.heap.size → (∀ a, A = some a → a.block ≠ k) → w'.heap[k]? = w.heap[k]?
  below : Below B w w'
  row : ∀ a', A' = some a' → (∃ a, A = some a ∧ a'.block = a.block) ∨ a'.block = w.heap.size
theorem run_append_one {P : Program} {U : TypeId} {z : Value} {by_ : Nat} (t ty : TypeId) (ht : P.underlying t = some (.slice U)) (hinfo : (P.info? U).map (fun i => (i.zero, i.size, i.bytes)) = some (some z, 1, by_)) (hzc : z.cells = #[z]) (hby : by_ ≤ 24)
    {w : World} {B : Nat} {A : Option Addr} {c : Nat} {vs : List Value} (h : VO U w B A c vs) (xb cx : Nat) (u : Value) (hu : w.cell? ⟨xb, 0, none⟩ = some u) (h1 : u.oneCell' = true) (hn : vs.length + 1 ≤ 1048576) (hB : B ≤ w.heap.size) :
    ∃ A' c' w', (Builtin.append_ #[t, t] ty #[.slice A vs.length c, .slice (some ⟨xb, 0, none⟩) 1 cx]).run P w = .ok (.slice A' (vs.length + 1) c') w' ∧ Appd U B w w' A A' c' (vs ++ [u]) := by
  obtain ⟨i, hi, hz, hs1, hb1⟩ := info_parts hinfo
  have hmb : (vs.length + 1) * by_ ≤ 25165824 := Nat.mul_le_mul hn hby
  obtain ⟨v', w', hrun, h2, h3, _, h5⟩ := run_append_own_at (P := P) w B t ty U i z 1 by_ ht hi hz hs1 hb1 (by rw [hzc]; rfl) (by decide) (.slice A vs.length c) vs.length vs h ⟨xb, 0, none⟩ 1 cx [u] rfl (fun j x hj => by
    have hj0 : j = 0 := by
      rcases Nat.lt_or_ge j 1 with h' | h'
      · omega
      · rw [List.getElem?_eq_none (by simpa using h')] at hj; cases hj
    subst hj0
    obtain rfl : u = x := by simpa using hj
    simpa [Addr.add] using hu) (by intro x hx; obtain rfl : x = u := by simpa using hx
                                   exact h1) (by unfold maxLen; omega) (by omega) hB
  have hv' : ∃ A' c', v' = .slice A' (vs.length + 1) c' := by
    rcases h2.2 with ⟨_, h0⟩ | ⟨g, cap, cur, rfl, _⟩
    · omega
    · exact ⟨_, _, rfl⟩
  obtain ⟨A', c', rfl⟩ := hv'
  refine ⟨A', c', w', hrun, ⟨?_, ?_, (Below.refl _ _).grown h3 hB fun k hk => ?_, ?_⟩⟩
  · unfold VO
    rw [List.length_append]
    exact h2
  · intro k hk hne
    refine h3.block k hk ?_
    rcases A with _ | a
    · simp [Value.ownBlock]
    · have := hne a rfl
      simp only [Value.ownBlock, ne_eq, Option.some.injEq]
      exact fun e => this e.symm
  · rcases A with _ | a
    · cases hk
    · obtain rfl : a.block = k := by simpa [Value.ownBlock] using hk
      exact (h.at_ _ rfl).1
  · rintro a' rfl
    rcases h5 with h5 | h5
    · rcases A with _ | a
      · simp [Value.ownBlock] at h5
      · left; exact ⟨a, rfl, by simpa [Value.ownBlock] using h5⟩
    · right; simpa [Value.ownBlock] using h5
/-- append of one value, as an arm of the walk -/
theorem wpList_append_one {P : Program} {w : World} {ops : Array Oper} {rest : List Oper} {o : Oper} {a : Act} {Q : Exit → Act → World → Prop} (hgd : o.guard = none) (s x : Operand) (t : TypeId)
    (ho : o.op = .call { callee := .builtin .append, args := #[s, x], argTypes := #[t, t] }) (U : TypeId) (ht : P.underlying t = some (.slice U)) (z : Value) (by_ : Nat) (hinfo : (P.info? U).map (fun i => (i.zero, i.size, i.bytes)) = some (some z, 1, by_)) (hzc : z.cells = #[z]) (hby : by_ ≤ 24)
    (B : Nat) (A : Option Addr) (n c : Nat) (vs : List Value) (hs : a.eval s = .slice A n c) (hvn : vs.length = n) (h : VO U w B A c vs) (xb cx : Nat) (u : Value) (hx : a.eval x = .slice (some ⟨xb, 0, none⟩) 1 cx) (hu : w.cell? ⟨xb, 0, none⟩ = some u) (h1 : u.oneCell' = true) (hn : n + 1 ≤ 1048576) (hB : B ≤ w.heap.size)
    (hh : ∀ A' c' w', Hid (Appd U B w w' A A' c' (vs ++ [u])) → wpList P ops Q rest (a.put o.dst (.slice A' (n + 1) c')) w') : wpList P ops Q (o :: rest) a w := by
  subst hvn
  refine wpList_plain hgd fun K hK => ?_
  obtain ⟨A', c', w', hrun, hd⟩ := run_append_one t o.type ht hinfo hzc hby h xb cx u hu h1 hn hB
  unfold Oper.wp execOp
  simp only [ho, resolve, invoke, builtin, Sem.run_bind, Sem.run_pure, Result.andThen_ok, List.map_toArray, List.map_cons, List.map_nil, hs, hx, hrun]
  exact hK _ _ (hh A' c' w' hd)
/-- the same as an event of a region that draws its order -/
theorem evAt_append_one {P : Program} {S : List Nat} {w : World} {o : Oper} {a : Act} {V : Value → World → Prop} (s x : Operand) (t : TypeId)
    (ho : o.op = .call { callee := .builtin .append, args := #[s, x], argTypes := #[t, t] }) (U : TypeId) (ht : P.underlying t = some (.slice U)) (z : Value) (by_ : Nat) (hinfo : (P.info? U).map (fun i => (i.zero, i.size, i.bytes)) = some (some z, 1, by_)) (hzc : z.cells = #[z]) (hby : by_ ≤ 24)
    (B : Nat) (A : Option Addr) (n c : Nat) (vs : List Value) (hs : a.eval s = .slice A n c) (hvn : vs.length = n) (h : VO U w B A c vs) (xb cx : Nat) (u : Value) (hx : a.eval x = .slice (some ⟨xb, 0, none⟩) 1 cx) (hu : w.cell? ⟨xb, 0, none⟩ = some u) (h1 : u.oneCell' = true) (hn : n + 1 ≤ 1048576) (hB : B ≤ w.heap.size)
    (hS : ∀ a, A = some a → a.block ∈ S) (hh : ∀ A' c' w', Appd U B w w' A A' c' (vs ++ [u]) → V (.slice A' (n + 1) c') w') : Flow.evAt P S o a w V := by
  subst hvn
  obtain ⟨A', c', w', hrun, hd⟩ := run_append_one t o.type ht hinfo hzc hby h xb cx u hu h1 hn hB
  unfold Flow.evAt execOp
  simp only [ho, resolve, invoke, builtin, Sem.run_bind, Sem.run_pure, Result.andThen_ok, List.map_toArray, List.map_cons, List.map_nil, hs, hx, hrun]
  exact ⟨hh A' c' w' hd, hd.below.os, hd.below.tape, hd.below.output, hd.below.size, fun k hk hn => hd.block k hk fun a ha hak => hn (hak ▸ hS a ha)⟩
/-! ### made, and read -/
section
variable {U : TypeId} {w w' : World} {B c : Nat} {A : Option Addr} {vs : List Value}
theorem VO.mono {B' : Nat} (h : VO U w B A c vs) (hb : B' ≤ B) : VO U w B' A c vs := by
  obtain ⟨h1, h2⟩ := h
  refine ⟨h1, ?_⟩
  rcases h2 with h | ⟨g, cap, cur, he, hB, hr⟩
  · exact .inl h
  · exact .inr ⟨g, cap, cur, he, Nat.le_trans hb hB, hr⟩
theorem VO.of_ow {g : Nat} (h : Ow U w g c vs) (hB : B ≤ g) : VO U w B (some ⟨g, 0, none⟩) c vs := VO.mono (B := g) h hB
theorem VO.cell (h : VO U w B A c vs) (h0 : 0 < vs.length) : ∃ g, A = some ⟨g, 0, none⟩ ∧ ∀ i (hi : i < vs.length), w.cell? ⟨g, i, none⟩ = some vs[i] := by
  obtain ⟨g, rfl, _, ho⟩ := h.ow h0
  exact ⟨g, rfl, fun i hi => ho.cell hi⟩
end
theorem VO.none_ (U : TypeId) (w : World) (B : Nat) (hB : B ≤ w.heap.size) : VO U (w.alloc (.cells #[] U)) B (some ⟨w.heap.size, 0, none⟩) 0 [] :=
  World.ownsRow_lit (base := B) (e := U) (size := 1) w #[] 0 hB (Nat.zero_le _) (by simp)
theorem VO.made (U : TypeId) (w : World) (B : Nat) (z : Value) (n : Nat) (hB : B ≤ w.heap.size) (hn : n ≤ 1048576) : VO U (w.alloc (.cells (List.replicate n z).toArray U)) B (some ⟨w.heap.size, 0, none⟩) n [] :=
  World.ownsRow_made w _ n hB (by unfold maxLen; omega) (by simp)
/-- a new slice with room for n values, of which none is there -/
theorem run_make_empty {P : Program} {t e : TypeId} {z : Value} {by_ : Nat} (ht : P.underlying t = some (.slice e)) (hinfo : (P.info? e).map (fun i => (i.zero, i.size, i.bytes)) = some (some z, 1, by_)) (hzc : z.cells = #[z]) (hby : by_ ≤ 24) (n : Nat) (hn : n ≤ 1048576) (w : World) :
    (Instr.makeSlice t (.int .i64 0) (.int .i64 (n : Int))).run P w = .ok (.slice (some ⟨w.heap.size, 0, none⟩) 0 n) (w.alloc (.cells (List.replicate n z).toArray e)) := by
  obtain ⟨i, hi, hz, hs, hb⟩ := info_parts hinfo
  have hr := run_make (P := P) w t e i z ht hi hz .i64 .i64 0 n (by omega) (by omega) (by rw [hb]; have : (by_ : Int) * (n : Int) ≤ 24 * 1048576 := by have := Nat.mul_le_mul hby hn; omega
                                                                                          omega) (by omega)
  rw [hr, hs]
  simp only [Int.toNat_natCast, Nat.mul_one, Int.toNat_zero]
  rw [hzc, ← toList_madeCells_one z n]
end Go.Proofs.Ytlabbmfiecbigaa.Mem

namespace Go.Proofs.Ytlabbmfiecbigaa
open Go.RowKit
namespace Mem

/-- how a struct lies: its type, its cells -/
structure Kind (α : Type) where
  T : TypeId
  k : Nat
  cs : α → List Value
  len : ∀ x, (cs x).length = k
  one : ∀ x u, u ∈ cs x → u.oneCell' = true
section
variable {α : Type} (K : Kind α)
theorem Kind.all_one (L : List α) : ∀ u ∈ L.flatMap K.cs, u.oneCell' = true := fun u hu => by
  rw [List.mem_flatMap] at hu
  obtain ⟨x, _, hu⟩ := hu
  exact K.one x u hu
theorem Kind.all_len (L : List α) : (L.flatMap K.cs).length = L.length * K.k := by
  induction L with
  | nil => simp
  | cons x L ih => rw [List.flatMap_cons, List.length_append, ih, K.len, List.length_cons, Nat.succ_mul, Nat.add_comm]
theorem Kind.at_ {L : List α} {i : Nat} {x : α} (h : L[i]? = some x) {j : Nat} (hj : j < K.k) : (L.flatMap K.cs)[i * K.k + j]? = (K.cs x)[j]? := by
  induction L generalizing i with
  | nil => simp at h
  | cons y L ih =>
    rw [List.flatMap_cons]
    cases i with
    | zero =>
      obtain rfl : y = x := by simpa using h
      rw [Nat.zero_mul, Nat.zero_add, List.getElem?_append_left (by rw [K.len]; exact hj)]
    | succ i =>
      have e : (i + 1) * K.k + j = K.k + (i * K.k + j) := by rw [Nat.succ_mul]; omega
      rw [List.getElem?_append_right (by rw [K.len, e]; omega), K.len, e, Nat.add_sub_cancel_left]
      exact ih (by simpa using h)
/-- a slice that reads as L -/
def RdK (w : World) (A : Option Addr) (L : List α) : Prop := 0 < L.length → ∃ b o, A = some ⟨b, o, none⟩ ∧ b < w.heap.size ∧ ∀ (i : Nat) (x : α), L[i]? = some x → ∀ (j : Nat) (u : Value), (K.cs x)[j]? = some u → w.cell? ⟨b, o + (i * K.k + j), none⟩ = some u
/-- a slice of the call's own -/
def VK (w : World) (B : Nat) (A : Option Addr) (c : Nat) (L : List α) : Prop := w.ownsRow B K.T K.k (.slice A L.length c) L.length (L.flatMap K.cs)
variable {K} {w w' : World} {B c : Nat} {A : Option Addr} {L : List α}
theorem RdK.keep (h : RdK K w A L) (hs : w.heap.size ≤ w'.heap.size) (hk : ∀ a, A = some a → w'.heap[a.block]? = w.heap[a.block]?) : RdK K w' A L := fun h0 => by
  obtain ⟨b, o, rfl, hl, hc⟩ := h h0
  refine ⟨b, o, rfl, Nat.lt_of_lt_of_le hl hs, fun i x hx j u hu => ?_⟩
  rw [← hc i x hx j u hu]
  exact World.cell?_of_block (w := w) (a := ⟨b, o + (i * K.k + j), none⟩) (hk ⟨b, o, none⟩ rfl)
theorem RdK.below {B : Nat} (h : RdK K w A L) (hb : Below B w w') (hB : w.heap.size ≤ B) : RdK K w' A L := fun h0 => by
  obtain ⟨b, o, rfl, hl, hc⟩ := h h0
  refine ⟨b, o, rfl, Nat.lt_of_lt_of_le hl hb.size, fun i x hx j u hu => ?_⟩
  rw [← hc i x hx j u hu]
  exact World.cell?_of_block (w := w) (a := ⟨b, o + (i * K.k + j), none⟩) (hb.block b (by omega))
theorem RdK.kept (h : RdK K w A L) (hb : Below w.heap.size w w') : RdK K w' A L := h.below hb (Nat.le_refl _)
theorem RdK.nil (w : World) (A : Option Addr) : RdK K w A [] := fun h => absurd h (by simp)
/-- its front -/
theorem RdK.take (h : RdK K w A L) (n : Nat) : RdK K w A (L.take n) := fun h0 => by
  obtain ⟨b, o, e, hl, hc⟩ := h (by rw [List.length_take] at h0; omega)
  refine ⟨b, o, e, hl, fun i x hx => hc i x ?_⟩
  rw [List.getElem?_take] at hx
  split at hx
  · exact hx
  · cases hx
/-- what is behind its first n -/
theorem RdK.drop (h : RdK K w A L) {n : Nat} (hn : n < L.length) : ∃ b o, A = some ⟨b, o, none⟩ ∧ RdK K w (some ⟨b, o + n * K.k, none⟩) (L.drop n) := by
  obtain ⟨b, o, e, hl, hc⟩ := h (by omega)
  refine ⟨b, o, e, fun _ => ⟨b, o + n * K.k, rfl, hl, fun i x hx j u hu => ?_⟩⟩
  rw [List.getElem?_drop] at hx
  have := hc (n + i) x hx j u hu
  rw [Nat.add_mul] at this
  rw [show o + n * K.k + (i * K.k + j) = o + (n * K.k + i * K.k + j) by omega]
  exact this
theorem VK.nil (w : World) (B : Nat) : VK K w B none 0 [] := World.ownsRow_nil w B _ _
theorem VK.at_ (h : VK K w B A c L) : ∀ a, A = some a → B ≤ a.block ∧ a.block < w.heap.size := by
  obtain ⟨_, h2⟩ := h
  rintro a rfl
  rcases h2 with ⟨h', _⟩ | ⟨g, cap, cur, he, hB, hh, _⟩
  · cases h'
  · obtain ⟨rfl, _⟩ : a = ⟨g, 0, none⟩ ∧ c = cap := by simpa using he
    exact ⟨hB, (Array.getElem?_eq_some_iff.1 hh).1⟩
theorem VK.keep (h : VK K w B A c L) (hk : ∀ a, A = some a → w'.heap[a.block]? = w.heap[a.block]?) : VK K w' B A c L := by
  obtain ⟨h1, h2⟩ := h
  refine ⟨h1, ?_⟩
  rcases h2 with h | ⟨g, cap, cur, he, hB, hh, hr⟩
  · exact .inl h
  · obtain ⟨rfl, rfl⟩ : A = some ⟨g, 0, none⟩ ∧ c = cap := by simpa using he
    exact .inr ⟨g, c, cur, rfl, hB, (hk _ rfl).trans hh, hr⟩
theorem VK.kept (h : VK K w B A c L) (hb : Below w.heap.size w w') : VK K w' B A c L := h.keep fun a ha => hb.block _ (h.at_ a ha).2
theorem VK.into {T : List Nat} (h : VK K w B A c L) (hi : Flow.Into T w w') (hn : ∀ a, A = some a → a.block ∉ T) : VK K w' B A c L := h.keep fun a ha => hi.block _ (h.at_ a ha).2 (hn a ha)
theorem VK.mono {B' : Nat} (h : VK K w B A c L) (hB' : B' ≤ B) : VK K w B' A c L := by
  obtain ⟨h1, h2⟩ := h
  refine ⟨h1, ?_⟩
  rcases h2 with h | ⟨g, cap, cur, he, hB, hr⟩
  · exact .inl h
  · exact .inr ⟨g, cap, cur, he, Nat.le_trans hB' hB, hr⟩
theorem VK.lit (w : World) (B : Nat) (hB : B ≤ w.heap.size) : VK K (w.alloc (.cells #[] K.T)) B (some ⟨w.heap.size, 0, none⟩) 0 [] := by
  have := World.ownsRow_lit (base := B) (e := K.T) (size := K.k) w #[] 0 hB (Nat.zero_le _) (by simp)
  simpa [VK] using this
theorem VK.cell (h : VK K w B A c L) {i : Nat} {x : α} (hx : L[i]? = some x) : ∃ g, A = some ⟨g, 0, none⟩ ∧ ∀ (j : Nat) (u : Value), (K.cs x)[j]? = some u → w.cell? ⟨g, i * K.k + j, none⟩ = some u := by
  have hi : i < L.length := (List.getElem?_eq_some_iff.1 hx).1
  have h' := h
  obtain ⟨_, h2⟩ := h'
  rcases h2 with ⟨_, h'⟩ | ⟨g, cap, cur, he, _⟩
  · omega
  · obtain ⟨rfl, rfl⟩ : A = some ⟨g, 0, none⟩ ∧ c = cap := by simpa using he
    refine ⟨g, rfl, fun j u hu => ?_⟩
    have hj : j < K.k := by rw [← K.len x]; exact (List.getElem?_eq_some_iff.1 hu).1
    have hlt : i * K.k + j < L.length * K.k := by
      have := Nat.mul_le_mul_right K.k (show i + 1 ≤ L.length by omega)
      rw [Nat.succ_mul] at this
      omega
    rw [World.ownsRow.cellAt h (i * K.k + j) hlt, K.at_ hx hj]
    exact hu
theorem VK.rd (h : VK K w B A c L) : RdK K w A L := fun h0 => by
  obtain ⟨g, rfl, _⟩ := h.cell (i := 0) (List.getElem?_eq_getElem h0)
  refine ⟨g, 0, rfl, (h.at_ _ rfl).2, fun i x hx j u hu => ?_⟩
  obtain ⟨g', e, hc⟩ := h.cell hx
  obtain rfl : g = g' := by simpa using e
  rw [Nat.zero_add]
  exact hc j u hu
/-- what an append of one struct leaves -/
structure AppdK (K : Kind α) (B : Nat) (w w' : World) (A A' : Option Addr) (c' : Nat) (L : List α) : Prop where
  vo : VK K w' B A' c' L
  below : Below B w w'
  block : ∀ k, k < w.heap.size → (∀ a, A = some a → a.block ≠ k) → w'.heap[k]? = w.heap[k]?
  row : ∀ a', A' = some a' → (∃ a, A = some a ∧ a'.block = a.block) ∨ a'.block = w.heap.size
end
section
variable {α : Type} {K : Kind α} {P : Program}
theorem run_appendK {S : TypeId} {z : Value} {by_ : Nat} (hS : P.underlying S = some (.slice K.T)) (hinfo : (P.info? K.T).map (fun i => (i.zero, i.size, i.bytes)) = some (some z, K.k, by_)) (hz : z.cells.size = K.k) (hby : by_ ≤ 64) (ty : TypeId) {w : World} {B : Nat} {A : Option Addr} {c : Nat} {L : List α} (h : VK K w B A c L) (xb cx : Nat) (x : α) (hx : w.heap[xb]? = some (.cells (K.cs x).toArray K.T (0, 0))) (hn : L.length + 1 ≤ 1048576) (hk : 0 < K.k) (hB : B ≤ w.heap.size) :
    ∃ A' c' w', (Builtin.append_ #[S, S] ty #[.slice A L.length c, .slice (some ⟨xb, 0, none⟩) 1 cx]).run P w = .ok (.slice A' (L.length + 1) c') w' ∧ AppdK K B w w' A A' c' (L ++ [x]) := by
  obtain ⟨i, hi, hz1, hs1, hb1⟩ := info_parts hinfo
  obtain ⟨v', w', hrun, h2, h3, _, h5⟩ := run_append_own_at (P := P) w B S ty K.T i z K.k by_ hS hi hz1 hs1 hb1 hz hk (.slice A L.length c) L.length (L.flatMap K.cs) h ⟨xb, 0, none⟩ 1 cx (K.cs x) (by rw [K.len, Nat.one_mul]) (fun j u hj => by
    have : (⟨xb, 0, none⟩ : Addr).add j = ⟨xb, j, none⟩ := by by_cases h0 : j = 0 <;> simp [Addr.add, h0]
    rw [this]
    simp only [World.cell?, hx]
    simpa using hj) (fun u hu => K.one x u hu) (by unfold maxLen; omega) (Nat.le_trans (Nat.mul_le_mul hn hby) (by decide)) hB
  have hv' : ∃ A' c', v' = .slice A' (L.length + 1) c' := by
    rcases h2.2 with ⟨_, h0⟩ | ⟨g, cap, cur, rfl, _⟩
    · omega
    · exact ⟨_, _, rfl⟩
  obtain ⟨A', c', rfl⟩ := hv'
  refine ⟨A', c', w', hrun, ⟨?_, (Below.refl _ _).grown h3 hB fun k hk => ?_, ?_, ?_⟩⟩
  · unfold VK
    rw [List.length_append, List.flatMap_append]
    simpa using h2
  · rcases A with _ | a
    · cases hk
    · obtain rfl : a.block = k := by simpa [Value.ownBlock] using hk
      exact (h.at_ _ rfl).1
  · intro k hk hne
    refine h3.block k hk ?_
    rcases A with _ | a
    · simp [Value.ownBlock]
    · have := hne a rfl
      simp only [Value.ownBlock, ne_eq, Option.some.injEq]
      exact fun e => this e.symm
  · rintro a' rfl
    rcases h5 with h5 | h5
    · rcases A with _ | a
      · simp [Value.ownBlock] at h5
      · left; exact ⟨a, rfl, by simpa [Value.ownBlock] using h5⟩
    · right; simpa [Value.ownBlock] using h5
/-- the same, as an arm of the walk -/
theorem wpList_appendK {S : TypeId} {z : Value} {by_ : Nat} (hS : P.underlying S = some (.slice K.T)) (hinfo : (P.info? K.T).map (fun i => (i.zero, i.size, i.bytes)) = some (some z, K.k, by_)) (hz : z.cells.size = K.k) (hby : by_ ≤ 64) (hk : 0 < K.k)
    {w : World} {ops : Array Oper} {rest : List Oper} {o : Oper} {a : Act} {Q : Exit → Act → World → Prop} (hgd : o.guard = none) (s x : Operand)
    (ho : o.op = .call { callee := .builtin .append, args := #[s, x], argTypes := #[S, S] })
    (B : Nat) (A : Option Addr) (n c : Nat) (L : List α) (hs : a.eval s = .slice A n c) (hvn : L.length = n) (h : VK K w B A c L) (xb cx : Nat) (y : α) (hx : a.eval x = .slice (some ⟨xb, 0, none⟩) 1 cx) (hu : w.heap[xb]? = some (.cells (K.cs y).toArray K.T (0, 0))) (hn : n + 1 ≤ 1048576) (hB : B ≤ w.heap.size)
    (hh : ∀ A' c' w', Hid (AppdK K B w w' A A' c' (L ++ [y])) → wpList P ops Q rest (a.put o.dst (.slice A' (n + 1) c')) w') : wpList P ops Q (o :: rest) a w := by
  subst hvn
  refine wpList_plain hgd fun C hC => ?_
  obtain ⟨A', c', w', hrun, hd⟩ := run_appendK hS hinfo hz hby o.type h xb cx y hu hn hk hB
  unfold Oper.wp execOp
  simp only [ho, resolve, invoke, builtin, Sem.run_bind, Sem.run_pure, Result.andThen_ok, List.map_toArray, List.map_cons, List.map_nil, hs, hx, hrun]
  exact hC _ _ (hh A' c' w' hd)
/-- append of a whole slice -/
theorem run_append_allK {S : TypeId} {z : Value} {by_ : Nat} (hS : P.underlying S = some (.slice K.T)) (hinfo : (P.info? K.T).map (fun i => (i.zero, i.size, i.bytes)) = some (some z, K.k, by_)) (hz : z.cells.size = K.k) (hby : by_ ≤ 64) (ty : TypeId) {w : World} {B : Nat} {A : Option Addr} {c : Nat} {L : List α} (h : VK K w B A c L) {A2 : Option Addr} (c2 : Nat) {M : List α} (hM : RdK K w A2 M) (hn : L.length + M.length ≤ 1048576) (hk : 0 < K.k) (hB : B ≤ w.heap.size) :
    ∃ A' c' w', (Builtin.append_ #[S, S] ty #[.slice A L.length c, .slice A2 M.length c2]).run P w = .ok (.slice A' (L.length + M.length) c') w' ∧ VK K w' B A' c' (L ++ M) ∧ Below B w w' := by
  obtain ⟨i, hi, hz1, hs1, hb1⟩ := info_parts hinfo
  cases A2 with
  | none =>
    have h0 : M = [] := by
      cases M with
      | nil => rfl
      | cons y l => obtain ⟨_, _, e, _⟩ := hM (by simp); cases e
    subst h0
    refine ⟨A, c, w, ?_, by simpa using h, Below.refl _ _⟩
    rcases h.2 with ⟨h', _⟩ | ⟨g, cap, cur, h', _, _, hnc, _⟩
    · rw [h']
      obtain ⟨rfl, this, rfl⟩ : A = none ∧ L.length = 0 ∧ c = 0 := by simpa using h'
      simp [Builtin.append_, run_underlying hS, sizeOf, typeInfo, hi, Builtin.lenOf, Builtin.firstCells, this]
    · obtain ⟨rfl, rfl⟩ : A = some ⟨g, 0, none⟩ ∧ c = cap := by simpa using h'
      simp [Builtin.append_, run_underlying hS, sizeOf, typeInfo, hi, Builtin.lenOf, Builtin.firstCells, hnc, storeCells]
  | some ad =>
    obtain ⟨v', w', hrun, h2, h3, _, h5⟩ := run_append_own_at (P := P) w B S ty K.T i z K.k by_ hS hi hz1 hs1 hb1 hz hk (.slice A L.length c) L.length (L.flatMap K.cs) h ad M.length c2 (M.flatMap K.cs) (K.all_len M) (fun j u hj => by
      have hjl : j < M.length * K.k := by
        have := (List.getElem?_eq_some_iff.1 hj).1
        rw [K.all_len] at this
        exact this
      have hM0 : 0 < M.length := by
        rcases Nat.eq_zero_or_pos M.length with h0 | h0
        · rw [h0, Nat.zero_mul] at hjl
          exact absurd hjl (Nat.not_lt_zero _)
        · exact h0
      obtain ⟨b, o, e, _, hc⟩ := hM hM0
      obtain rfl : ad = ⟨b, o, none⟩ := by simpa using e
      have hq : j / K.k < M.length := Nat.div_lt_of_lt_mul (by rw [Nat.mul_comm]; exact hjl)
      have hr : j % K.k < K.k := Nat.mod_lt _ hk
      have hjj : j / K.k * K.k + j % K.k = j := Nat.div_add_mod' j K.k
      have hx := List.getElem?_eq_getElem hq
      have := K.at_ hx hr
      rw [hjj, hj] at this
      have := hc _ _ hx _ u this.symm
      rw [hjj] at this
      rw [← this]
      by_cases h0 : j = 0 <;> simp [Addr.add, h0]) (fun u hu => K.all_one M u hu) (by unfold maxLen; omega) (Nat.le_trans (Nat.mul_le_mul hn hby) (by decide)) hB
    have hv' : ∃ A' c', v' = .slice A' (L.length + M.length) c' := by
      rcases h2.2 with ⟨rfl, h0⟩ | ⟨g, cap, cur, rfl, _⟩
      · exact ⟨none, 0, by rw [h0]⟩
      · exact ⟨_, _, rfl⟩
    obtain ⟨A', c', rfl⟩ := hv'
    refine ⟨A', c', w', hrun, ?_, (Below.refl _ _).grown h3 hB fun k hk => ?_⟩
    · unfold VK
      rw [List.length_append, List.flatMap_append]
      exact h2
    · rcases A with _ | a
      · cases hk
      · obtain rfl : a.block = k := by simpa [Value.ownBlock] using hk
        exact (h.at_ _ rfl).1
theorem wpList_append_allK {S : TypeId} {z : Value} {by_ : Nat} (hS : P.underlying S = some (.slice K.T)) (hinfo : (P.info? K.T).map (fun i => (i.zero, i.size, i.bytes)) = some (some z, K.k, by_)) (hz : z.cells.size = K.k) (hby : by_ ≤ 64) (hk : 0 < K.k)
    {w : World} {ops : Array Oper} {rest : List Oper} {o : Oper} {a : Act} {Q : Exit → Act → World → Prop} (hgd : o.guard = none) (s x : Operand)
    (ho : o.op = .call { callee := .builtin .append, args := #[s, x], argTypes := #[S, S] })
    (B : Nat) (A : Option Addr) (n c : Nat) (L : List α) (hs : a.eval s = .slice A n c) (hvn : L.length = n) (h : VK K w B A c L) (A2 : Option Addr) (m c2 : Nat) (M : List α) (hx : a.eval x = .slice A2 m c2) (hM : M.length = m) (hb : RdK K w A2 M) (hn : n + m ≤ 1048576) (hB : B ≤ w.heap.size)
    (hh : ∀ A' c' w', Hid (VK K w' B A' c' (L ++ M)) → Hid (Below B w w') → wpList P ops Q rest (a.put o.dst (.slice A' (n + m) c')) w') : wpList P ops Q (o :: rest) a w := by
  subst hvn hM
  refine wpList_plain hgd fun C hC => ?_
  obtain ⟨A', c', w', hrun, hd, he⟩ := run_append_allK hS hinfo hz hby o.type h c2 hb hn hk hB
  unfold Oper.wp execOp
  simp only [ho, resolve, invoke, builtin, Sem.run_bind, Sem.run_pure, Result.andThen_ok, List.map_toArray, List.map_cons, List.map_nil, hs, hx, hrun]
  exact hC _ _ (hh A' c' w' hd he)
end
end Mem
end Go.Proofs.Ytlabbmfiecbigaa

namespace Go.Proofs.Ytlabbmfiecbigaa
open Go.RowKit
namespace Mem
section
variable {α : Type} {K : Kind α} {w w' : World} {B c : Nat} {A : Option Addr} {L : List α}
/-- a slice that reads as L, and has room for it -/
def RC (K : Kind α) (w : World) (A : Option Addr) (c : Nat) (L : List α) : Prop := RdK K w A L ∧ L.length ≤ c
theorem RC.kept (h : RC K w A c L) (hb : Below w.heap.size w w') : RC K w' A c L := ⟨h.1.kept hb, h.2⟩
theorem RC.nil (w : World) (A : Option Addr) (c : Nat) : RC K w A c [] := ⟨RdK.nil w A, Nat.zero_le _⟩
theorem VK.rc (h : VK K w B A c L) : RC K w A c L := by
  refine ⟨h.rd, ?_⟩
  rcases h.2 with ⟨_, h1⟩ | ⟨g, cap, cur, h1, _, _, hn, _⟩
  · omega
  · obtain ⟨_, rfl⟩ : A = some ⟨g, 0, none⟩ ∧ c = cap := by simpa using h1
    exact hn
/-- where what is behind the first n lies -/
def cutK (k : Nat) (A : Option Addr) (c n : Nat) : Option Addr := if c = n then A else A.map (·.add (n * k))
theorem RC.cut (h : RC K w A c L) (n : Nat) : RC K w (cutK K.k A c n) (c - n) (L.drop n) := by
  refine ⟨?_, by rw [List.length_drop]; have := h.2; omega⟩
  rcases Nat.lt_or_ge n L.length with hk | hk
  · obtain ⟨b, o, e, hd⟩ := h.1.drop hk
    subst e
    have hc := h.2
    unfold cutK
    rw [if_neg (by omega)]
    have : (⟨b, o, none⟩ : Addr).add (n * K.k) = ⟨b, o + n * K.k, none⟩ := by by_cases h0 : n * K.k = 0 <;> simp [Addr.add, h0]
    rw [Option.map_some, this]
    exact hd
  · rw [List.drop_eq_nil_of_le hk]
    exact RdK.nil _ _
theorem RC.upTo (h : RC K w A c L) (n : Nat) : RC K w A c (L.take n) :=
  ⟨h.1.take n, by rw [List.length_take]; have := h.2; omega⟩
theorem RdK.none_ (h : RdK K w none L) : L = [] := by
  cases L with
  | nil => rfl
  | cons y l => obtain ⟨_, _, e, _⟩ := h (by simp); cases e
end
section
variable {P : Program} {t e : TypeId} {z : Value} {k by_ : Nat}
theorem run_cutK (ht : P.underlying t = some (.slice e)) (hinfo : (P.info? e).map (fun i => (i.zero, i.size, i.bytes)) = some (some z, k, by_)) (A : Option Addr) (n c m : Nat) (hk : m ≤ n) (w : World) :
    (Instr.slice t (.slice A n c) (some (.int .i64 (m : Int))) none none).run P w = .ok (.slice (cutK k A c m) (n - m) (c - m)) w := by
  obtain ⟨i, hi, -, hs, -⟩ := info_parts hinfo
  have he : P.elem t = e := by simp [Program.elem, ht]
  rw [run_slice_l w t A n c (by rw [he]; exact ht) .i64 (m : Int) (by omega) (by omega), he]
  simp [sizeOf, typeInfo, hi, hs, sliced, cutK, Result.andThen]
theorem run_upToK (ht : P.underlying t = some (.slice e)) (hinfo : (P.info? e).map (fun i => (i.zero, i.size, i.bytes)) = some (some z, k, by_)) (A : Option Addr) (n c m : Nat) (hk : m ≤ c) (w : World) :
    (Instr.slice t (.slice A n c) none (some (.int .i64 (m : Int))) none).run P w = .ok (.slice A m c) w := by
  obtain ⟨i, hi, -, hs, -⟩ := info_parts hinfo
  exact run_upTo ht hi A n c m hk w
theorem run_midK (ht : P.underlying t = some (.slice e)) (hinfo : (P.info? e).map (fun i => (i.zero, i.size, i.bytes)) = some (some z, k, by_)) (A : Option Addr) (n c p q : Nat) (hp : p ≤ q) (hq : q ≤ c) (w : World) :
    (Instr.slice t (.slice A n c) (some (.int .i64 (p : Int))) (some (.int .i64 (q : Int))) none).run P w = .ok (.slice (cutK k A c p) (q - p) (c - p)) w := by
  obtain ⟨i, hi, -, hs, -⟩ := info_parts hinfo
  have he : P.elem t = e := by simp [Program.elem, ht]
  rw [run_slice_lh w t A n c (by rw [he]; exact ht) .i64 .i64 (p : Int) (q : Int) (by omega) (by omega) (by omega), he]
  simp [sizeOf, typeInfo, hi, hs, sliced, cutK, Result.andThen]
end
end Mem
end Go.Proofs.Ytlabbmfiecbigaa

namespace Go.Proofs.Ytlabbmfiecbigaa
open Go.RowKit
namespace Mem
section
variable {α : Type} {K : Kind α} {P : Program}
theorem run_makeK {t e : TypeId} {z : Value} {k by_ : Nat} (ht : P.underlying t = some (.slice e)) (hinfo : (P.info? e).map (fun i => (i.zero, i.size, i.bytes)) = some (some z, k, by_)) (hby : by_ ≤ 64) (n : Nat) (hn : n ≤ 1048576) (w : World) :
    (Instr.makeSlice t (.int .i64 0) (.int .i64 (n : Int))).run P w = .ok (.slice (some ⟨w.heap.size, 0, none⟩) 0 n) (w.alloc (.cells (madeCells z.cells (n * k)) e)) := by
  obtain ⟨i, hi, hz, hs, hb⟩ := info_parts hinfo
  have hr := run_make (P := P) w t e i z ht hi hz .i64 .i64 0 n (by omega) (by omega) (by rw [hb]; have : (by_ : Int) * (n : Int) ≤ 64 * 1048576 := by have := Nat.mul_le_mul hby hn; omega
                                                                                          omega) (by omega)
  rw [hr, hs]
  simp only [Int.toNat_natCast, Int.toNat_zero]
theorem VK.made (w : World) (B n : Nat) (z : Array Value) (hB : B ≤ w.heap.size) (hn : n ≤ 1048576) : VK K (w.alloc (.cells (madeCells z (n * K.k)) K.T)) B (some ⟨w.heap.size, 0, none⟩) n [] :=
  World.ownsRow_made w _ n hB (by unfold maxLen; omega) (size_madeCells _ _)
theorem run_append_allA {S : TypeId} {z : Value} {by_ : Nat} (hS : P.underlying S = some (.slice K.T)) (hinfo : (P.info? K.T).map (fun i => (i.zero, i.size, i.bytes)) = some (some z, K.k, by_)) (hz : z.cells.size = K.k) (hby : by_ ≤ 64) (ty : TypeId) {w : World} {B : Nat} {A : Option Addr} {c : Nat} {L : List α} (h : VK K w B A c L) {A2 : Option Addr} (c2 : Nat) {M : List α} (hM : RdK K w A2 M) (hn : L.length + M.length ≤ 1048576) (hk : 0 < K.k) (hB : B ≤ w.heap.size) :
    ∃ A' c' w', (Builtin.append_ #[S, S] ty #[.slice A L.length c, .slice A2 M.length c2]).run P w = .ok (.slice A' (L.length + M.length) c') w' ∧ AppdK K B w w' A A' c' (L ++ M) := by
  obtain ⟨i, hi, hz1, hs1, hb1⟩ := info_parts hinfo
  cases A2 with
  | none =>
    have h0 : M = [] := RdK.none_ hM
    subst h0
    refine ⟨A, c, w, ?_, ⟨by simpa using h, Below.refl _ _, fun _ _ _ => rfl, fun a' ha => .inl ⟨a', ha, rfl⟩⟩⟩
    rcases h.2 with ⟨h', _⟩ | ⟨g, cap, cur, h', _, _, hnc, _⟩
    · rw [h']
      obtain ⟨rfl, this, rfl⟩ : A = none ∧ L.length = 0 ∧ c = 0 := by simpa using h'
      simp [Builtin.append_, run_underlying hS, sizeOf, typeInfo, hi, Builtin.lenOf, Builtin.firstCells, this]
    · obtain ⟨rfl, rfl⟩ : A = some ⟨g, 0, none⟩ ∧ c = cap := by simpa using h'
      simp [Builtin.append_, run_underlying hS, sizeOf, typeInfo, hi, Builtin.lenOf, Builtin.firstCells, hnc, storeCells]
  | some ad =>
    obtain ⟨v', w', hrun, h2, h3, _, h5⟩ := run_append_own_at (P := P) w B S ty K.T i z K.k by_ hS hi hz1 hs1 hb1 hz hk (.slice A L.length c) L.length (L.flatMap K.cs) h ad M.length c2 (M.flatMap K.cs) (K.all_len M) (fun j u hj => by
      have hjl : j < M.length * K.k := by
        have := (List.getElem?_eq_some_iff.1 hj).1
        rw [K.all_len] at this
        exact this
      have hM0 : 0 < M.length := by
        rcases Nat.eq_zero_or_pos M.length with h0 | h0
        · rw [h0, Nat.zero_mul] at hjl
          exact absurd hjl (Nat.not_lt_zero _)
        · exact h0
      obtain ⟨b, o, e, _, hc⟩ := hM hM0
      obtain rfl : ad = ⟨b, o, none⟩ := by simpa using e
      have hq : j / K.k < M.length := Nat.div_lt_of_lt_mul (by rw [Nat.mul_comm]; exact hjl)
      have hr : j % K.k < K.k := Nat.mod_lt _ hk
      have hjj : j / K.k * K.k + j % K.k = j := Nat.div_add_mod' j K.k
      have hx := List.getElem?_eq_getElem hq
      have := K.at_ hx hr
      rw [hjj, hj] at this
      have := hc _ _ hx _ u this.symm
      rw [hjj] at this
      rw [← this]
      by_cases h0 : j = 0 <;> simp [Addr.add, h0]) (fun u hu => K.all_one M u hu) (by unfold maxLen; omega) (Nat.le_trans (Nat.mul_le_mul hn hby) (by decide)) hB
    have hv' : ∃ A' c', v' = .slice A' (L.length + M.length) c' := by
      rcases h2.2 with ⟨rfl, h0⟩ | ⟨g, cap, cur, rfl, _⟩
      · exact ⟨none, 0, by rw [h0]⟩
      · exact ⟨_, _, rfl⟩
    obtain ⟨A', c', rfl⟩ := hv'
    refine ⟨A', c', w', hrun, ⟨?_, (Below.refl _ _).grown h3 hB fun k hk => ?_, ?_, ?_⟩⟩
    · unfold VK
      rw [List.length_append, List.flatMap_append]
      exact h2
    · rcases A with _ | a
      · cases hk
      · obtain rfl : a.block = k := by simpa [Value.ownBlock] using hk
        exact (h.at_ _ rfl).1
    · intro k hk hne
      refine h3.block k hk ?_
      rcases A with _ | a
      · simp [Value.ownBlock]
      · have := hne a rfl
        simp only [Value.ownBlock, ne_eq, Option.some.injEq]
        exact fun e => this e.symm
    · rintro a' rfl
      rcases h5 with h5 | h5
      · rcases A with _ | a
        · simp [Value.ownBlock] at h5
        · left; exact ⟨a, rfl, by simpa [Value.ownBlock] using h5⟩
      · right; simpa [Value.ownBlock] using h5
/-- the same, as an arm of the walk -/
theorem wpList_append_allA {S : TypeId} {z : Value} {by_ : Nat} (hS : P.underlying S = some (.slice K.T)) (hinfo : (P.info? K.T).map (fun i => (i.zero, i.size, i.bytes)) = some (some z, K.k, by_)) (hz : z.cells.size = K.k) (hby : by_ ≤ 64) (hk : 0 < K.k)
    {w : World} {ops : Array Oper} {rest : List Oper} {o : Oper} {a : Act} {Q : Exit → Act → World → Prop} (hgd : o.guard = none) (s x : Operand)
    (ho : o.op = .call { callee := .builtin .append, args := #[s, x], argTypes := #[S, S] })
    (B : Nat) (A : Option Addr) (n c : Nat) (L : List α) (hs : a.eval s = .slice A n c) (hvn : L.length = n) (h : VK K w B A c L) (A2 : Option Addr) (m c2 : Nat) (M : List α) (hx : a.eval x = .slice A2 m c2) (hM : M.length = m) (hb : RdK K w A2 M) (hn : n + m ≤ 1048576) (hB : B ≤ w.heap.size)
    (hh : ∀ A' c' w', Hid (AppdK K B w w' A A' c' (L ++ M)) → wpList P ops Q rest (a.put o.dst (.slice A' (n + m) c')) w') : wpList P ops Q (o :: rest) a w := by
  subst hvn hM
  refine wpList_plain hgd fun C hC => ?_
  obtain ⟨A', c', w', hrun, hd⟩ := run_append_allA hS hinfo hz hby o.type h c2 hb hn hk hB
  unfold Oper.wp execOp
  simp only [ho, resolve, invoke, builtin, Sem.run_bind, Sem.run_pure, Result.andThen_ok, List.map_toArray, List.map_cons, List.map_nil, hs, hx, hrun]
  exact hC _ _ (hh A' c' w' hd)
end
end Mem
end Go.Proofs.Ytlabbmfiecbigaa

namespace Go.Proofs.Ytlabbmfiecbigaa.Mem
open Go.RowKit

def intV (x : Int) : Value := .int .i64 x
def intsV (l : List Int) : List Value := l.map intV
@[simp] theorem intsV_length (l : List Int) : (intsV l).length = l.length := by simp [intsV]
/-- the slice at p reads as the ints l (nil and empty ones let in) -/
def IL (w : World) (p : Option Addr) (l : List Int) : Prop :=
  0 < l.length → ∃ b o, p = some ⟨b, o, none⟩ ∧ ∀ i (h : i < l.length), w.cell? ⟨b, o + i, none⟩ = some (intV l[i])
theorem IL.nil (w : World) (p : Option Addr) : IL w p [] := fun h => absurd h (by simp)
theorem IL.at_ {w : World} {p : Option Addr} {l : List Int} (h : IL w p l) {i : Nat} (hi : i < l.length) : ∃ b o, p = some ⟨b, o, none⟩ ∧ w.cell? ⟨b, o + i, none⟩ = some (.int .i64 l[i]) := by
  obtain ⟨b, o, e, hc⟩ := h (by omega)
  exact ⟨b, o, e, hc i hi⟩
theorem IL.lt {w : World} {p : Option Addr} {l : List Int} (h : IL w p l) (hl : 0 < l.length) : ∀ a, p = some a → a.block < w.heap.size := by
  rintro a rfl
  obtain ⟨b, o, e, hc⟩ := h hl
  obtain rfl : a = ⟨b, o, none⟩ := by simpa using e
  have h0 := hc 0 hl
  rcases Nat.lt_or_ge b w.heap.size with h' | h'
  · exact h'
  · simp [World.cell?, Array.getElem?_eq_none h'] at h0
theorem IL.keep {w w' : World} {p : Option Addr} {l : List Int} (h : IL w p l) (hk : 0 < l.length → ∀ a, p = some a → w'.heap[a.block]? = w.heap[a.block]?) : IL w' p l := fun hl => by
  obtain ⟨b, o, rfl, hc⟩ := h hl
  refine ⟨b, o, rfl, fun i hi => ?_⟩
  rw [← hc i hi]
  exact World.cell?_of_block (w := w) (a := ⟨b, o + i, none⟩) (show w'.heap[b]? = w.heap[b]? from hk hl ⟨b, o, none⟩ rfl)
theorem IL.below {w w' : World} {p : Option Addr} {l : List Int} (h : IL w p l) (hb : Below w.heap.size w w') : IL w' p l := h.keep fun hl a ha => hb.block _ (h.lt hl a ha)
theorem IL.into {S : List Nat} {w w' : World} {p : Option Addr} {l : List Int} (h : IL w p l) (hb : Flow.Into S w w') (hn : ∀ a, p = some a → a.block ∉ S) : IL w' p l := h.keep fun hl a ha => hb.block _ (h.lt hl a ha) (hn a ha)

/-- a slice of the call's own (its row lies from block B on) that reads as the ints l -/
def Iow (U : TypeId) (w : World) (B : Nat) (A : Option Addr) (c : Nat) (l : List Int) : Prop := w.ownsRow B U 1 (.slice A l.length c) l.length (intsV l)
section
variable {U : TypeId} {w w' : World} {B c : Nat} {A : Option Addr} {l : List Int}
theorem Iow.nil (U : TypeId) (w : World) (B : Nat) : Iow U w B none 0 [] := World.ownsRow_nil w B U 1
theorem Iow.from_ (h : Iow U w B A c l) : ∀ a, A = some a → B ≤ a.block := by
  obtain ⟨_, h2⟩ := h
  rintro a rfl
  rcases h2 with ⟨h', _⟩ | ⟨g, cap, cur, he, hB, _⟩
  · cases h'
  · obtain ⟨rfl, _⟩ : a = ⟨g, 0, none⟩ ∧ c = cap := by simpa using he
    exact hB
theorem Iow.room (h : Iow U w B A c l) : l.length ≤ c := by
  obtain ⟨_, h2⟩ := h
  rcases h2 with ⟨h', h0⟩ | ⟨g, cap, cur, he, _, _, hle, _⟩
  · omega
  · obtain ⟨_, rfl⟩ : A = some ⟨g, 0, none⟩ ∧ c = cap := by simpa using he
    exact hle
theorem Iow.il (h : Iow U w B A c l) : IL w A l := by
  intro hl
  obtain ⟨_, h2⟩ := h
  rcases h2 with ⟨h', h0⟩ | ⟨g, cap, cur, he, _, hh, _, _, _, htake⟩
  · omega
  · obtain ⟨rfl, rfl⟩ : A = some ⟨g, 0, none⟩ ∧ c = cap := by simpa using he
    refine ⟨g, 0, rfl, fun i hi => ?_⟩
    have h3 : cur.toList[i]? = some (intV l[i]) := by
      have := congrArg (·[i]?) htake
      simp only [Nat.mul_one, List.getElem?_take, if_pos hi] at this
      rw [this]; simp [intsV, hi]
    simp only [World.cell?, Nat.zero_add, hh]
    simpa using h3
theorem Iow.keep (h : Iow U w B A c l) (hk : ∀ a, A = some a → w'.heap[a.block]? = w.heap[a.block]?) : Iow U w' B A c l := by
  obtain ⟨h1, h2⟩ := h
  refine ⟨h1, ?_⟩
  rcases h2 with h | ⟨g, cap, cur, he, hB, hh, hr⟩
  · exact .inl h
  · obtain ⟨rfl, rfl⟩ : A = some ⟨g, 0, none⟩ ∧ c = cap := by simpa using he
    exact .inr ⟨g, c, cur, rfl, hB, (hk _ rfl).trans hh, hr⟩
theorem Iow.lt (h : Iow U w B A c l) : ∀ a, A = some a → a.block < w.heap.size := by
  obtain ⟨_, h2⟩ := h
  rintro a rfl
  rcases h2 with ⟨h', _⟩ | ⟨g, cap, cur, he, hB, hh, _⟩
  · cases h'
  · obtain ⟨rfl, _⟩ : a = ⟨g, 0, none⟩ ∧ c = cap := by simpa using he
    exact (Array.getElem?_eq_some_iff.1 hh).1
theorem Iow.kept (h : Iow U w B A c l) (hb : Below w.heap.size w w') : Iow U w' B A c l := h.keep fun a ha => hb.block _ (h.lt a ha)
theorem Iow.into {S : List Nat} (h : Iow U w B A c l) (hb : Flow.Into S w w') (hn : ∀ a, A = some a → a.block ∉ S) : Iow U w' B A c l := h.keep fun a ha => hb.block _ (h.lt a ha) (hn a ha)
theorem Iow.mono {B' : Nat} (h : Iow U w B A c l) (hb : B' ≤ B) : Iow U w B' A c l := by
  obtain ⟨h1, h2⟩ := h
  refine ⟨h1, ?_⟩
  rcases h2 with h | ⟨g, cap, cur, he, hB, hr⟩
  · exact .inl h
  · exact .inr ⟨g, cap, cur, he, Nat.le_trans hb hB, hr⟩
end
theorem Iow.lit (U : TypeId) (w : World) (B : Nat) (l : List Int) (hB : B ≤ w.heap.size) (hl : l.length ≤ maxLen) : Iow U (w.alloc (.cells (intsV l).toArray U)) B (some ⟨w.heap.size, 0, none⟩) l.length l := by
  have := World.ownsRow_lit (base := B) (e := U) (size := 1) w (intsV l).toArray l.length hB hl (by simp)
  exact this
theorem IL.lit (U : TypeId) (w : World) (l : List Int) (hl : l.length ≤ maxLen) : IL (w.alloc (.cells (intsV l).toArray U)) (some ⟨w.heap.size, 0, none⟩) l := (Iow.lit U w 0 l (Nat.zero_le _) hl).il
theorem IL.one (U : TypeId) (w : World) (x : Int) : IL (w.alloc (.cells #[.int .i64 x] U)) (some ⟨w.heap.size, 0, none⟩) [x] := IL.lit U w [x] (by simp [maxLen])
theorem Iow.one (U : TypeId) (w : World) (B : Nat) (x : Int) (hB : B ≤ w.heap.size) : Iow U (w.alloc (.cells #[.int .i64 x] U)) B (some ⟨w.heap.size, 0, none⟩) 1 [x] := Iow.lit U w B [x] hB (by simp [maxLen])
theorem Iow.none_ (U : TypeId) (w : World) (B : Nat) (hB : B ≤ w.heap.size) : Iow U (w.alloc (.cells #[] U)) B (some ⟨w.heap.size, 0, none⟩) 0 [] := Iow.lit U w B [] hB (by decide)
theorem IL.alloc {w : World} {p : Option Addr} {l : List Int} (h : IL w p l) (o : Obj) : IL (w.alloc o) p l := h.below ((Below.refl _ _).alloc (Nat.le_refl _) _)
theorem Iow.alloc {U : TypeId} {w : World} {B c : Nat} {A : Option Addr} {l : List Int} (h : Iow U w B A c l) (o : Obj) : Iow U (w.alloc o) B A c l := h.kept ((Below.refl _ _).alloc (Nat.le_refl _) _)
theorem intsV_one (l : List Int) : ∀ v ∈ intsV l, v.oneCell' = true := by
  intro v hv
  obtain ⟨x, _, rfl⟩ := List.mem_map.1 hv
  rfl
/-- a new slice of the call's own with room for n ints, of which none is there -/
theorem run_make_room {P : Program} {t e : TypeId} {by_ : Nat} (ht : P.underlying t = some (.slice e)) (hinfo : (P.info? e).map (fun i => (i.zero, i.size, i.bytes)) = some (some (.int .i64 0), 1, by_)) (hby : by_ ≤ 8) (n : Nat) (hn : n ≤ 1048576) (w : World) :
    (Instr.makeSlice t (.int .i64 0) (.int .i64 (n : Int))).run P w = .ok (.slice (some ⟨w.heap.size, 0, none⟩) 0 n) (w.alloc (.cells (List.replicate n (.int .i64 0)).toArray e)) := by
  obtain ⟨i, hi, hz, hs, hb⟩ := info_parts hinfo
  have hr := run_make (P := P) w t e i _ ht hi hz .i64 .i64 0 n (by omega) (by omega) (by rw [hb]; have : (by_ : Int) * (n : Int) ≤ 8 * 1048576 := by have := Nat.mul_le_mul hby hn; omega
                                                                                          omega) (by omega)
  rw [hr, hs]
  simp only [Int.toNat_natCast, Nat.mul_one, Int.toNat_zero]
  rw [show (Value.int .i64 0).cells = #[.int .i64 0] from rfl, ← toList_madeCells_one (.int .i64 0) n]
theorem Iow.made (U : TypeId) (w : World) (B n : Nat) (hB : B ≤ w.heap.size) (hn : n ≤ 1048576) : Iow U (w.alloc (.cells (List.replicate n (.int .i64 0)).toArray U)) B (some ⟨w.heap.size, 0, none⟩) n [] :=
  World.ownsRow_made w _ n hB (by unfold maxLen; omega) (by simp)
/-- append of ints to a slice of the call's own -/
theorem wpList_append_ints {P : Program} {w : World} {ops : Array Oper} {rest : List Oper} {o : Oper} {a : Act} {Q : Exit → Act → World → Prop} (hgd : o.guard = none) (s x : Operand) (t : TypeId)
    (ho : o.op = .call { callee := .builtin .append, args := #[s, x], argTypes := #[t, t] }) (B : Nat) (U : TypeId) (ht : P.underlying t = some (.slice U)) (hinfo : (P.info? U).map (fun i => (i.zero, i.size, i.bytes)) = some (some (.int .i64 0), 1, 8))
    (S : Option Addr) (n0 c0 : Nat) (xs : List Int) (hs : a.eval s = .slice S n0 c0) (hn0 : xs.length = n0) (hown : Iow U w B S c0 xs) (A : Option Addr) (m c : Nat) (l : List Int) (hx : a.eval x = .slice A m c) (hl : l.length = m) (hb : IL w A l)
    (hsz : n0 + m ≤ 17592186044416) (hB : B ≤ w.heap.size) (w0 : World) (hw0 : Below B w0 w)
    (h : ∀ S' c' w', Hid (Iow U w' B S' c' (xs ++ l)) → Hid (Below B w0 w') → wpList P ops Q rest (a.put o.dst (.slice S' (n0 + m) c')) w') : wpList P ops Q (o :: rest) a w := by
  subst hl hn0
  obtain ⟨i, hi, hz, hs1, hb1⟩ := info_parts hinfo
  refine wpList_plain hgd fun K hK => ?_
  obtain ⟨S', c', w', hrun, h2, h3⟩ : ∃ S' c' w', (Builtin.append_ #[t, t] o.type #[.slice S xs.length c0, .slice A l.length c]).run P w = .ok (.slice S' (xs.length + l.length) c') w' ∧ w'.ownsRow B U 1 (.slice S' (xs.length + l.length) c') (xs.length + l.length) (intsV xs ++ intsV l) ∧ Below B w w' := by
    cases A with
    | none =>
      have h0 : l = [] := by
        cases l with
        | nil => rfl
        | cons y l => obtain ⟨_, _, e, _⟩ := hb (by simp); cases e
      subst h0
      refine ⟨S, c0, w, ?_, by simpa [intsV, Iow] using hown, Below.refl _ _⟩
      have hr := Iow.room hown
      rcases hown.2 with ⟨h', _⟩ | ⟨g, cap, cur, h', _, _, hnc, _⟩
      · rw [h']
        obtain ⟨rfl, this, rfl⟩ : S = none ∧ xs.length = 0 ∧ c0 = 0 := by simpa using h'
        simp [Builtin.append_, run_underlying ht, sizeOf, typeInfo, hi, Builtin.lenOf, Builtin.firstCells, this]
      · obtain ⟨rfl, rfl⟩ : S = some ⟨g, 0, none⟩ ∧ c0 = cap := by simpa using h'
        simp [Builtin.append_, run_underlying ht, sizeOf, typeInfo, hi, Builtin.lenOf, Builtin.firstCells, hr, storeCells]
    | some ad =>
      obtain ⟨v', w', h1, h2, h3, _, h5⟩ := run_append_own_at (P := P) w B t o.type U i (.int .i64 0) 1 8 ht hi hz hs1 hb1 rfl (by decide) (.slice S xs.length c0) xs.length (intsV xs) hown ad l.length c (intsV l) (by simp) (fun j u hj => by
        have hjl : j < l.length := by
          rcases Nat.lt_or_ge j l.length with h' | h'
          · exact h'
          · rw [List.getElem?_eq_none (by simpa using h')] at hj; cases hj
        obtain ⟨b, o, e, hc⟩ := hb (by omega)
        obtain rfl : ad = ⟨b, o, none⟩ := by simpa using e
        have hv : u = intV l[j] := by simpa [intsV, hjl] using hj.symm
        rw [hv, ← hc j hjl]
        by_cases h0 : j = 0 <;> simp [Addr.add, h0]) (intsV_one l) (by unfold maxLen; omega) (by omega) hB
      have hv' : ∃ S' c', v' = .slice S' (xs.length + l.length) c' := by
        rcases h2.2 with ⟨rfl, h0⟩ | ⟨g, cap, cur, rfl, _⟩
        · exact ⟨none, 0, by rw [h0]⟩
        · exact ⟨_, _, rfl⟩
      obtain ⟨S', c', rfl⟩ := hv'
      refine ⟨S', c', w', h1, h2, (Below.refl _ _).grown h3 hB fun k hk => ?_⟩
      rcases S with _ | a
      · cases hk
      · obtain rfl : a.block = k := by simpa [Value.ownBlock] using hk
        exact hown.from_ _ rfl
  unfold Oper.wp execOp
  simp only [ho, resolve, invoke, builtin, Sem.run_bind, Sem.run_pure, Result.andThen_ok, List.map_toArray, List.map_cons, List.map_nil, hs, hx, hrun]
  refine hK _ _ (h S' c' w' ?_ (hw0.trans h3))
  show w'.ownsRow B U 1 (.slice S' (xs ++ l).length c') (xs ++ l).length (intsV (xs ++ l))
  rw [List.length_append, show intsV (xs ++ l) = intsV xs ++ intsV l by simp [intsV]]
  exact h2
end Go.Proofs.Ytlabbmfiecbigaa.Mem
