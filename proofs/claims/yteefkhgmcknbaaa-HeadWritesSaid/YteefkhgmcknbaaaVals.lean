/-
  Slices of one-cell values of the call's own (nil let in), and append of one value to them. No program.
-/
import Derived.Test.YteefkhgmcknbaaaOwn
namespace Go.Proofs.Yteefkhgmcknbaaa.Mem
open Go.RowKit

/-- a slice of the call's own (its row lies from block B on) that reads as the values vs -/
def VO (U : TypeId) (w : World) (B : Nat) (A : Option Addr) (c : Nat) (vs : List Value) : Prop := w.ownsRow B U 1 (.slice A vs.length c) vs.length vs
section
variable {U : TypeId} {w w' : World} {B c : Nat} {A : Option Addr} {vs : List Value}
theorem VO.nil (U : TypeId) (w : World) (B : Nat) : VO U w B none 0 [] := World.ownsRow_nil w B U 1
theorem VO.at_ (h : VO U w B A c vs) : ∀ a, A = some a → B ≤ a.block ∧ a.block < w.heap.size := by
  obtain ⟨_, h2⟩ := h
  rintro a rfl
  rcases h2 with ⟨h', _⟩ | ⟨g, cap, cur, he, hB, hh, _⟩
  · cases h'
  · obtain ⟨rfl, _⟩ : a = ⟨g, 0, none⟩ ∧ c = cap := by simpa using he
    exact ⟨hB, (Array.getElem?_eq_some_iff.1 hh).1⟩
theorem VO.keep (h : VO U w B A c vs) (hk : ∀ a, A = some a → w'.heap[a.block]? = w.heap[a.block]?) : VO U w' B A c vs := by
  obtain ⟨h1, h2⟩ := h
  refine ⟨h1, ?_⟩
  rcases h2 with h | ⟨g, cap, cur, he, hB, hh, hr⟩
  · exact .inl h
  · obtain ⟨rfl, rfl⟩ : A = some ⟨g, 0, none⟩ ∧ c = cap := by simpa using he
    exact .inr ⟨g, c, cur, rfl, hB, (hk _ rfl).trans hh, hr⟩
theorem VO.kept (h : VO U w B A c vs) (hb : Below w.heap.size w w') : VO U w' B A c vs := h.keep fun a ha => hb.block _ (h.at_ a ha).2
theorem VO.into {S : List Nat} (h : VO U w B A c vs) (hb : Flow.Into S w w') (hn : ∀ a, A = some a → a.block ∉ S) : VO U w' B A c vs := h.keep fun a ha => hb.block _ (h.at_ a ha).2 (hn a ha)
theorem VO.ow (h : VO U w B A c vs) (h0 : 0 < vs.length) : ∃ g, A = some ⟨g, 0, none⟩ ∧ B ≤ g ∧ Ow U w g c vs := by
  have h' := h
  obtain ⟨_, h2⟩ := h'
  rcases h2 with ⟨_, h'⟩ | ⟨g, cap, cur, he, hB, _⟩
  · omega
  · obtain ⟨rfl, rfl⟩ : A = some ⟨g, 0, none⟩ ∧ c = cap := by simpa using he
    exact ⟨g, rfl, hB, (ow_of h).1⟩
end
/-- what an append of one value leaves -/
structure Appd (U : TypeId) (B : Nat) (w w' : World) (A A' : Option Addr) (c' : Nat) (vs : List Value) : Prop where
  vo : VO U w' B A' c' vs
  block : ∀ k, k < w.heap.size → (∀ a, A = some a → a.block ≠ k) → w'.heap[k]? = w.heap[k]?
  below : Below B w w'
  row : ∀ a', A' = some a' → (∃ a, A = some a ∧ a'.block = a.block) ∨ a'.block = w.heap.size
theorem run_append_one {P : Program} {U : TypeId} {z : Value} {by_ : Nat} (t ty : TypeId) (ht : P.underlying t = some (.slice U)) (hinfo : (P.info? U).map (fun i => (i.zero, i.size, i.bytes)) = some (some z, 1, by_)) (hzc : z.cells = #[z]) (hby : by_ ≤ 24)
    {w : World} {B : Nat} {A : Option Addr} {c : Nat} {vs : List Value} (h : VO U w B A c vs) (xb cx : Nat) (u : Value) (hu : w.cell? ⟨xb, 0, none⟩ = some u) (h1 : u.oneCell' = true) (hn : vs.length + 1 ≤ 1048576) (hB : B ≤ w.heap.size) :
    ∃ A' c' w', (Builtin.append_ #[t, t] ty #[.slice A vs.length c, .slice (some ⟨xb, 0, none⟩) 1 cx]).run P w = .ok (.slice A' (vs.length + 1) c') w' ∧ Appd U B w w' A A' c' (vs ++ [u]) := by
  obtain ⟨i, hi, hz, hs1, hb1⟩ := info_parts hinfo
  have hmb : (vs.length + 1) * by_ ≤ 25165824 := Nat.mul_le_mul hn hby
  obtain ⟨v', w', hrun, h2, h3, _, h5⟩ := run_append_own_at (P := P) w B t ty U i z 1 by_ ht hi hz hs1 hb1 (by rw [hzc]; rfl) (by decide) (.slice A vs.length c) vs.length vs h ⟨xb, 0, none⟩ 1 cx [u] rfl (fun j x hj => by
    have hj0 : j = 0 := by
      rcases Nat.lt_or_ge j 1 with h' | h'
      · omega
      · rw [List.getElem?_eq_none (by simpa using h')] at hj; cases hj
    subst hj0
    obtain rfl : u = x := by simpa using hj
    simpa [Addr.add] using hu) (by intro x hx; obtain rfl : x = u := by simpa using hx
                                   exact h1) (by unfold maxLen; omega) (by omega) hB
  have hv' : ∃ A' c', v' = .slice A' (vs.length + 1) c' := by
    rcases h2.2 with ⟨_, h0⟩ | ⟨g, cap, cur, rfl, _⟩
    · omega
    · exact ⟨_, _, rfl⟩
  obtain ⟨A', c', rfl⟩ := hv'
  refine ⟨A', c', w', hrun, ⟨?_, ?_, (Below.refl _ _).grown h3 hB fun k hk => ?_, ?_⟩⟩
  · unfold VO
    rw [List.length_append]
    exact h2
  · intro k hk hne
    refine h3.block k hk ?_
    rcases A with _ | a
    · simp [Value.ownBlock]
    · have := hne a rfl
      simp only [Value.ownBlock, ne_eq, Option.some.injEq]
      exact fun e => this e.symm
  · rcases A with _ | a
    · cases hk
    · obtain rfl : a.block = k := by simpa [Value.ownBlock] using hk
      exact (h.at_ _ rfl).1
  · rintro a' rfl
    rcases h5 with h5 | h5
    · rcases A with _ | a
      · simp [Value.ownBlock] at h5
      · left; exact ⟨a, rfl, by simpa [Value.ownBlock] using h5⟩
    · right; simpa [Value.ownBlock] using h5
/-- append of one value, as an arm of the walk -/
theorem wpList_append_one {P : Program} {w : World} {ops : Array Oper} {rest : List Oper} {o : Oper} {a : Act} {Q : Exit → Act → World → Prop} (hgd : o.guard = none) (s x : Operand) (t : TypeId)
    (ho : o.op = .call { callee := .builtin .append, args := #[s, x], argTypes := #[t, t] }) (U : TypeId) (ht : P.underlying t = some (.slice U)) (z : Value) (by_ : Nat) (hinfo : (P.info? U).map (fun i => (i.zero, i.size, i.bytes)) = some (some z, 1, by_)) (hzc : z.cells = #[z]) (hby : by_ ≤ 24)
    (B : Nat) (A : Option Addr) (n c : Nat) (vs : List Value) (hs : a.eval s = .slice A n c) (hvn : vs.length = n) (h : VO U w B A c vs) (xb cx : Nat) (u : Value) (hx : a.eval x = .slice (some ⟨xb, 0, none⟩) 1 cx) (hu : w.cell? ⟨xb, 0, none⟩ = some u) (h1 : u.oneCell' = true) (hn : n + 1 ≤ 1048576) (hB : B ≤ w.heap.size)
    (hh : ∀ A' c' w', Hid (Appd U B w w' A A' c' (vs ++ [u])) → wpList P ops Q rest (a.put o.dst (.slice A' (n + 1) c')) w') : wpList P ops Q (o :: rest) a w := by
  subst hvn
  refine wpList_plain hgd fun K hK => ?_
  obtain ⟨A', c', w', hrun, hd⟩ := run_append_one t o.type ht hinfo hzc hby h xb cx u hu h1 hn hB
  unfold Oper.wp execOp
  simp only [ho, resolve, invoke, builtin, Sem.run_bind, Sem.run_pure, Result.andThen_ok, List.map_toArray, List.map_cons, List.map_nil, hs, hx, hrun]
  exact hK _ _ (hh A' c' w' hd)
/-- the same as an event of a region that draws its order -/
theorem evAt_append_one {P : Program} {S : List Nat} {w : World} {o : Oper} {a : Act} {V : Value → World → Prop} (s x : Operand) (t : TypeId)
    (ho : o.op = .call { callee := .builtin .append, args := #[s, x], argTypes := #[t, t] }) (U : TypeId) (ht : P.underlying t = some (.slice U)) (z : Value) (by_ : Nat) (hinfo : (P.info? U).map (fun i => (i.zero, i.size, i.bytes)) = some (some z, 1, by_)) (hzc : z.cells = #[z]) (hby : by_ ≤ 24)
    (B : Nat) (A : Option Addr) (n c : Nat) (vs : List Value) (hs : a.eval s = .slice A n c) (hvn : vs.length = n) (h : VO U w B A c vs) (xb cx : Nat) (u : Value) (hx : a.eval x = .slice (some ⟨xb, 0, none⟩) 1 cx) (hu : w.cell? ⟨xb, 0, none⟩ = some u) (h1 : u.oneCell' = true) (hn : n + 1 ≤ 1048576) (hB : B ≤ w.heap.size)
    (hS : ∀ a, A = some a → a.block ∈ S) (hh : ∀ A' c' w', Appd U B w w' A A' c' (vs ++ [u]) → V (.slice A' (n + 1) c') w') : Flow.evAt P S o a w V := by
  subst hvn
  obtain ⟨A', c', w', hrun, hd⟩ := run_append_one t o.type ht hinfo hzc hby h xb cx u hu h1 hn hB
  unfold Flow.evAt execOp
  simp only [ho, resolve, invoke, builtin, Sem.run_bind, Sem.run_pure, Result.andThen_ok, List.map_toArray, List.map_cons, List.map_nil, hs, hx, hrun]
  exact ⟨hh A' c' w' hd, hd.below.os, hd.below.tape, hd.below.output, hd.below.size, fun k hk hn => hd.block k hk fun a ha hak => hn (hak ▸ hS a ha)⟩
/-! ### made, and read -/
section
variable {U : TypeId} {w w' : World} {B c : Nat} {A : Option Addr} {vs : List Value}
theorem VO.mono {B' : Nat} (h : VO U w B A c vs) (hb : B' ≤ B) : VO U w B' A c vs := by
  obtain ⟨h1, h2⟩ := h
  refine ⟨h1, ?_⟩
  rcases h2 with h | ⟨g, cap, cur, he, hB, hr⟩
  · exact .inl h
  · exact .inr ⟨g, cap, cur, he, Nat.le_trans hb hB, hr⟩
theorem VO.of_ow {g : Nat} (h : Ow U w g c vs) (hB : B ≤ g) : VO U w B (some ⟨g, 0, none⟩) c vs := VO.mono (B := g) h hB
theorem VO.cell (h : VO U w B A c vs) (h0 : 0 < vs.length) : ∃ g, A = some ⟨g, 0, none⟩ ∧ ∀ i (hi : i < vs.length), w.cell? ⟨g, i, none⟩ = some vs[i] := by
  obtain ⟨g, rfl, _, ho⟩ := h.ow h0
  exact ⟨g, rfl, fun i hi => ho.cell hi⟩
end
theorem VO.none_ (U : TypeId) (w : World) (B : Nat) (hB : B ≤ w.heap.size) : VO U (w.alloc (.cells #[] U)) B (some ⟨w.heap.size, 0, none⟩) 0 [] :=
  World.ownsRow_lit (base := B) (e := U) (size := 1) w #[] 0 hB (Nat.zero_le _) (by simp)
theorem VO.made (U : TypeId) (w : World) (B : Nat) (z : Value) (n : Nat) (hB : B ≤ w.heap.size) (hn : n ≤ 1048576) : VO U (w.alloc (.cells (List.replicate n z).toArray U)) B (some ⟨w.heap.size, 0, none⟩) n [] :=
  World.ownsRow_made w _ n hB (by unfold maxLen; omega) (by simp)
/-- a new slice with room for n values, of which none is there -/
theorem run_make_empty {P : Program} {t e : TypeId} {z : Value} {by_ : Nat} (ht : P.underlying t = some (.slice e)) (hinfo : (P.info? e).map (fun i => (i.zero, i.size, i.bytes)) = some (some z, 1, by_)) (hzc : z.cells = #[z]) (hby : by_ ≤ 24) (n : Nat) (hn : n ≤ 1048576) (w : World) :
    (Instr.makeSlice t (.int .i64 0) (.int .i64 (n : Int))).run P w = .ok (.slice (some ⟨w.heap.size, 0, none⟩) 0 n) (w.alloc (.cells (List.replicate n z).toArray e)) := by
  obtain ⟨i, hi, hz, hs, hb⟩ := info_parts hinfo
  have hr := run_make (P := P) w t e i z ht hi hz .i64 .i64 0 n (by omega) (by omega) (by rw [hb]; have : (by_ : Int) * (n : Int) ≤ 24 * 1048576 := by have := Nat.mul_le_mul hby hn; omega
                                                                                          omega) (by omega)
  rw [hr, hs]
  simp only [Int.toNat_natCast, Nat.mul_one, Int.toNat_zero]
  rw [hzc, ← toList_madeCells_one z n]
end Go.Proofs.Yteefkhgmcknbaaa.Mem
