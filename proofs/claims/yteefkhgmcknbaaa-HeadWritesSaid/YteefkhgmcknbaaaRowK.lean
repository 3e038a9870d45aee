/-
  Slices of structs of k cells each: one of the call's own (its row from block B on), and one that is only read. No program.
-/
import Derived.Test.YteefkhgmcknbaaaVals
namespace Go.Proofs.Yteefkhgmcknbaaa
open Go.RowKit
namespace Mem

/-- how a struct lies: its type, its cells -/
structure Kind (α : Type) where
  T : TypeId
  k : Nat
  cs : α → List Value
  len : ∀ x, (cs x).length = k
  one : ∀ x u, u ∈ cs x → u.oneCell' = true
section
variable {α : Type} (K : Kind α)
theorem Kind.all_one (L : List α) : ∀ u ∈ L.flatMap K.cs, u.oneCell' = true := fun u hu => by
  rw [List.mem_flatMap] at hu
  obtain ⟨x, _, hu⟩ := hu
  exact K.one x u hu
theorem Kind.all_len (L : List α) : (L.flatMap K.cs).length = L.length * K.k := by
  induction L with
  | nil => simp
  | cons x L ih => rw [List.flatMap_cons, List.length_append, ih, K.len, List.length_cons, Nat.succ_mul, Nat.add_comm]
theorem Kind.at_ {L : List α} {i : Nat} {x : α} (h : L[i]? = some x) {j : Nat} (hj : j < K.k) : (L.flatMap K.cs)[i * K.k + j]? = (K.cs x)[j]? := by
  induction L generalizing i with
  | nil => simp at h
  | cons y L ih =>
    rw [List.flatMap_cons]
    cases i with
    | zero =>
      obtain rfl : y = x := by simpa using h
      rw [Nat.zero_mul, Nat.zero_add, List.getElem?_append_left (by rw [K.len]; exact hj)]
    | succ i =>
      have e : (i + 1) * K.k + j = K.k + (i * K.k + j) := by rw [Nat.succ_mul]; omega
      rw [List.getElem?_append_right (by rw [K.len, e]; omega), K.len, e, Nat.add_sub_cancel_left]
      exact ih (by simpa using h)
/-- a slice that reads as L -/
def RdK (w : World) (A : Option Addr) (L : List α) : Prop := 0 < L.length → ∃ b o, A = some ⟨b, o, none⟩ ∧ b < w.heap.size ∧ ∀ (i : Nat) (x : α), L[i]? = some x → ∀ (j : Nat) (u : Value), (K.cs x)[j]? = some u → w.cell? ⟨b, o + (i * K.k + j), none⟩ = some u
/-- a slice of the call's own -/
def VK (w : World) (B : Nat) (A : Option Addr) (c : Nat) (L : List α) : Prop := w.ownsRow B K.T K.k (.slice A L.length c) L.length (L.flatMap K.cs)
variable {K} {w w' : World} {B c : Nat} {A : Option Addr} {L : List α}
theorem RdK.keep (h : RdK K w A L) (hs : w.heap.size ≤ w'.heap.size) (hk : ∀ a, A = some a → w'.heap[a.block]? = w.heap[a.block]?) : RdK K w' A L := fun h0 => by
  obtain ⟨b, o, rfl, hl, hc⟩ := h h0
  refine ⟨b, o, rfl, Nat.lt_of_lt_of_le hl hs, fun i x hx j u hu => ?_⟩
  rw [← hc i x hx j u hu]
  exact World.cell?_of_block (w := w) (a := ⟨b, o + (i * K.k + j), none⟩) (hk ⟨b, o, none⟩ rfl)
theorem RdK.below {B : Nat} (h : RdK K w A L) (hb : Below B w w') (hB : w.heap.size ≤ B) : RdK K w' A L := fun h0 => by
  obtain ⟨b, o, rfl, hl, hc⟩ := h h0
  refine ⟨b, o, rfl, Nat.lt_of_lt_of_le hl hb.size, fun i x hx j u hu => ?_⟩
  rw [← hc i x hx j u hu]
  exact World.cell?_of_block (w := w) (a := ⟨b, o + (i * K.k + j), none⟩) (hb.block b (by omega))
theorem RdK.kept (h : RdK K w A L) (hb : Below w.heap.size w w') : RdK K w' A L := h.below hb (Nat.le_refl _)
theorem RdK.nil (w : World) (A : Option Addr) : RdK K w A [] := fun h => absurd h (by simp)
/-- its front -/
theorem RdK.take (h : RdK K w A L) (n : Nat) : RdK K w A (L.take n) := fun h0 => by
  obtain ⟨b, o, e, hl, hc⟩ := h (by rw [List.length_take] at h0; omega)
  refine ⟨b, o, e, hl, fun i x hx => hc i x ?_⟩
  rw [List.getElem?_take] at hx
  split at hx
  · exact hx
  · cases hx
/-- what is behind its first n -/
theorem RdK.drop (h : RdK K w A L) {n : Nat} (hn : n < L.length) : ∃ b o, A = some ⟨b, o, none⟩ ∧ RdK K w (some ⟨b, o + n * K.k, none⟩) (L.drop n) := by
  obtain ⟨b, o, e, hl, hc⟩ := h (by omega)
  refine ⟨b, o, e, fun _ => ⟨b, o + n * K.k, rfl, hl, fun i x hx j u hu => ?_⟩⟩
  rw [List.getElem?_drop] at hx
  have := hc (n + i) x hx j u hu
  rw [Nat.add_mul] at this
  rw [show o + n * K.k + (i * K.k + j) = o + (n * K.k + i * K.k + j) by omega]
  exact this
theorem VK.nil (w : World) (B : Nat) : VK K w B none 0 [] := World.ownsRow_nil w B _ _
theorem VK.at_ (h : VK K w B A c L) : ∀ a, A = some a → B ≤ a.block ∧ a.block < w.heap.size := by
  obtain ⟨_, h2⟩ := h
  rintro a rfl
  rcases h2 with ⟨h', _⟩ | ⟨g, cap, cur, he, hB, hh, _⟩
  · cases h'
  · obtain ⟨rfl, _⟩ : a = ⟨g, 0, none⟩ ∧ c = cap := by simpa using he
    exact ⟨hB, (Array.getElem?_eq_some_iff.1 hh).1⟩
theorem VK.keep (h : VK K w B A c L) (hk : ∀ a, A = some a → w'.heap[a.block]? = w.heap[a.block]?) : VK K w' B A c L := by
  obtain ⟨h1, h2⟩ := h
  refine ⟨h1, ?_⟩
  rcases h2 with h | ⟨g, cap, cur, he, hB, hh, hr⟩
  · exact .inl h
  · obtain ⟨rfl, rfl⟩ : A = some ⟨g, 0, none⟩ ∧ c = cap := by simpa using he
    exact .inr ⟨g, c, cur, rfl, hB, (hk _ rfl).trans hh, hr⟩
theorem VK.kept (h : VK K w B A c L) (hb : Below w.heap.size w w') : VK K w' B A c L := h.keep fun a ha => hb.block _ (h.at_ a ha).2
theorem VK.into {T : List Nat} (h : VK K w B A c L) (hi : Flow.Into T w w') (hn : ∀ a, A = some a → a.block ∉ T) : VK K w' B A c L := h.keep fun a ha => hi.block _ (h.at_ a ha).2 (hn a ha)
theorem VK.mono {B' : Nat} (h : VK K w B A c L) (hB' : B' ≤ B) : VK K w B' A c L := by
  obtain ⟨h1, h2⟩ := h
  refine ⟨h1, ?_⟩
  rcases h2 with h | ⟨g, cap, cur, he, hB, hr⟩
  · exact .inl h
  · exact .inr ⟨g, cap, cur, he, Nat.le_trans hB' hB, hr⟩
theorem VK.lit (w : World) (B : Nat) (hB : B ≤ w.heap.size) : VK K (w.alloc (.cells #[] K.T)) B (some ⟨w.heap.size, 0, none⟩) 0 [] := by
  have := World.ownsRow_lit (base := B) (e := K.T) (size := K.k) w #[] 0 hB (Nat.zero_le _) (by simp)
  simpa [VK] using this
theorem VK.cell (h : VK K w B A c L) {i : Nat} {x : α} (hx : L[i]? = some x) : ∃ g, A = some ⟨g, 0, none⟩ ∧ ∀ (j : Nat) (u : Value), (K.cs x)[j]? = some u → w.cell? ⟨g, i * K.k + j, none⟩ = some u := by
  have hi : i < L.length := (List.getElem?_eq_some_iff.1 hx).1
  have h' := h
  obtain ⟨_, h2⟩ := h'
  rcases h2 with ⟨_, h'⟩ | ⟨g, cap, cur, he, _⟩
  · omega
  · obtain ⟨rfl, rfl⟩ : A = some ⟨g, 0, none⟩ ∧ c = cap := by simpa using he
    refine ⟨g, rfl, fun j u hu => ?_⟩
    have hj : j < K.k := by rw [← K.len x]; exact (List.getElem?_eq_some_iff.1 hu).1
    have hlt : i * K.k + j < L.length * K.k := by
      have := Nat.mul_le_mul_right K.k (show i + 1 ≤ L.length by omega)
      rw [Nat.succ_mul] at this
      omega
    rw [World.ownsRow.cellAt h (i * K.k + j) hlt, K.at_ hx hj]
    exact hu
theorem VK.rd (h : VK K w B A c L) : RdK K w A L := fun h0 => by
  obtain ⟨g, rfl, _⟩ := h.cell (i := 0) (List.getElem?_eq_getElem h0)
  refine ⟨g, 0, rfl, (h.at_ _ rfl).2, fun i x hx j u hu => ?_⟩
  obtain ⟨g', e, hc⟩ := h.cell hx
  obtain rfl : g = g' := by simpa using e
  rw [Nat.zero_add]
  exact hc j u hu
/-- what an append of one struct leaves -/
structure AppdK (K : Kind α) (B : Nat) (w w' : World) (A A' : Option Addr) (c' : Nat) (L : List α) : Prop where
  vo : VK K w' B A' c' L
  below : Below B w w'
  block : ∀ k, k < w.heap.size → (∀ a, A = some a → a.block ≠ k) → w'.heap[k]? = w.heap[k]?
  row : ∀ a', A' = some a' → (∃ a, A = some a ∧ a'.block = a.block) ∨ a'.block = w.heap.size
end
section
variable {α : Type} {K : Kind α} {P : Program}
theorem run_appendK {S : TypeId} {z : Value} {by_ : Nat} (hS : P.underlying S = some (.slice K.T)) (hinfo : (P.info? K.T).map (fun i => (i.zero, i.size, i.bytes)) = some (some z, K.k, by_)) (hz : z.cells.size = K.k) (hby : by_ ≤ 4096) (ty : TypeId) {w : World} {B : Nat} {A : Option Addr} {c : Nat} {L : List α} (h : VK K w B A c L) (xb cx : Nat) (x : α) (hx : w.heap[xb]? = some (.cells (K.cs x).toArray K.T (0, 0))) (hn : L.length + 1 ≤ 1048576) (hk : 0 < K.k) (hB : B ≤ w.heap.size) :
    ∃ A' c' w', (Builtin.append_ #[S, S] ty #[.slice A L.length c, .slice (some ⟨xb, 0, none⟩) 1 cx]).run P w = .ok (.slice A' (L.length + 1) c') w' ∧ AppdK K B w w' A A' c' (L ++ [x]) := by
  obtain ⟨i, hi, hz1, hs1, hb1⟩ := info_parts hinfo
  obtain ⟨v', w', hrun, h2, h3, _, h5⟩ := run_append_own_at (P := P) w B S ty K.T i z K.k by_ hS hi hz1 hs1 hb1 hz hk (.slice A L.length c) L.length (L.flatMap K.cs) h ⟨xb, 0, none⟩ 1 cx (K.cs x) (by rw [K.len, Nat.one_mul]) (fun j u hj => by
    have : (⟨xb, 0, none⟩ : Addr).add j = ⟨xb, j, none⟩ := by by_cases h0 : j = 0 <;> simp [Addr.add, h0]
    rw [this]
    simp only [World.cell?, hx]
    simpa using hj) (fun u hu => K.one x u hu) (by unfold maxLen; omega) (Nat.le_trans (Nat.mul_le_mul hn hby) (by decide)) hB
  have hv' : ∃ A' c', v' = .slice A' (L.length + 1) c' := by
    rcases h2.2 with ⟨_, h0⟩ | ⟨g, cap, cur, rfl, _⟩
    · omega
    · exact ⟨_, _, rfl⟩
  obtain ⟨A', c', rfl⟩ := hv'
  refine ⟨A', c', w', hrun, ⟨?_, (Below.refl _ _).grown h3 hB fun k hk => ?_, ?_, ?_⟩⟩
  · unfold VK
    rw [List.length_append, List.flatMap_append]
    simpa using h2
  · rcases A with _ | a
    · cases hk
    · obtain rfl : a.block = k := by simpa [Value.ownBlock] using hk
      exact (h.at_ _ rfl).1
  · intro k hk hne
    refine h3.block k hk ?_
    rcases A with _ | a
    · simp [Value.ownBlock]
    · have := hne a rfl
      simp only [Value.ownBlock, ne_eq, Option.some.injEq]
      exact fun e => this e.symm
  · rintro a' rfl
    rcases h5 with h5 | h5
    · rcases A with _ | a
      · simp [Value.ownBlock] at h5
      · left; exact ⟨a, rfl, by simpa [Value.ownBlock] using h5⟩
    · right; simpa [Value.ownBlock] using h5
/-- the same, as an arm of the walk -/
theorem wpList_appendK {S : TypeId} {z : Value} {by_ : Nat} (hS : P.underlying S = some (.slice K.T)) (hinfo : (P.info? K.T).map (fun i => (i.zero, i.size, i.bytes)) = some (some z, K.k, by_)) (hz : z.cells.size = K.k) (hby : by_ ≤ 4096) (hk : 0 < K.k)
    {w : World} {ops : Array Oper} {rest : List Oper} {o : Oper} {a : Act} {Q : Exit → Act → World → Prop} (hgd : o.guard = none) (s x : Operand)
    (ho : o.op = .call { callee := .builtin .append, args := #[s, x], argTypes := #[S, S] })
    (B : Nat) (A : Option Addr) (n c : Nat) (L : List α) (hs : a.eval s = .slice A n c) (hvn : L.length = n) (h : VK K w B A c L) (xb cx : Nat) (y : α) (hx : a.eval x = .slice (some ⟨xb, 0, none⟩) 1 cx) (hu : w.heap[xb]? = some (.cells (K.cs y).toArray K.T (0, 0))) (hn : n + 1 ≤ 1048576) (hB : B ≤ w.heap.size)
    (hh : ∀ A' c' w', Hid (AppdK K B w w' A A' c' (L ++ [y])) → wpList P ops Q rest (a.put o.dst (.slice A' (n + 1) c')) w') : wpList P ops Q (o :: rest) a w := by
  subst hvn
  refine wpList_plain hgd fun C hC => ?_
  obtain ⟨A', c', w', hrun, hd⟩ := run_appendK hS hinfo hz hby o.type h xb cx y hu hn hk hB
  unfold Oper.wp execOp
  simp only [ho, resolve, invoke, builtin, Sem.run_bind, Sem.run_pure, Result.andThen_ok, List.map_toArray, List.map_cons, List.map_nil, hs, hx, hrun]
  exact hC _ _ (hh A' c' w' hd)
/-- append of a whole slice -/
theorem run_append_allK {S : TypeId} {z : Value} {by_ : Nat} (hS : P.underlying S = some (.slice K.T)) (hinfo : (P.info? K.T).map (fun i => (i.zero, i.size, i.bytes)) = some (some z, K.k, by_)) (hz : z.cells.size = K.k) (hby : by_ ≤ 4096) (ty : TypeId) {w : World} {B : Nat} {A : Option Addr} {c : Nat} {L : List α} (h : VK K w B A c L) {A2 : Option Addr} (c2 : Nat) {M : List α} (hM : RdK K w A2 M) (hn : L.length + M.length ≤ 1048576) (hk : 0 < K.k) (hB : B ≤ w.heap.size) :
    ∃ A' c' w', (Builtin.append_ #[S, S] ty #[.slice A L.length c, .slice A2 M.length c2]).run P w = .ok (.slice A' (L.length + M.length) c') w' ∧ VK K w' B A' c' (L ++ M) ∧ Below B w w' := by
  obtain ⟨i, hi, hz1, hs1, hb1⟩ := info_parts hinfo
  cases A2 with
  | none =>
    have h0 : M = [] := by
      cases M with
      | nil => rfl
      | cons y l => obtain ⟨_, _, e, _⟩ := hM (by simp); cases e
    subst h0
    refine ⟨A, c, w, ?_, by simpa using h, Below.refl _ _⟩
    rcases h.2 with ⟨h', _⟩ | ⟨g, cap, cur, h', _, _, hnc, _⟩
    · rw [h']
      obtain ⟨rfl, this, rfl⟩ : A = none ∧ L.length = 0 ∧ c = 0 := by simpa using h'
      simp [Builtin.append_, run_underlying hS, sizeOf, typeInfo, hi, Builtin.lenOf, Builtin.firstCells, this]
    · obtain ⟨rfl, rfl⟩ : A = some ⟨g, 0, none⟩ ∧ c = cap := by simpa using h'
      simp [Builtin.append_, run_underlying hS, sizeOf, typeInfo, hi, Builtin.lenOf, Builtin.firstCells, hnc, storeCells]
  | some ad =>
    obtain ⟨v', w', hrun, h2, h3, _, h5⟩ := run_append_own_at (P := P) w B S ty K.T i z K.k by_ hS hi hz1 hs1 hb1 hz hk (.slice A L.length c) L.length (L.flatMap K.cs) h ad M.length c2 (M.flatMap K.cs) (K.all_len M) (fun j u hj => by
      have hjl : j < M.length * K.k := by
        have := (List.getElem?_eq_some_iff.1 hj).1
        rw [K.all_len] at this
        exact this
      have hM0 : 0 < M.length := by
        rcases Nat.eq_zero_or_pos M.length with h0 | h0
        · rw [h0, Nat.zero_mul] at hjl
          exact absurd hjl (Nat.not_lt_zero _)
        · exact h0
      obtain ⟨b, o, e, _, hc⟩ := hM hM0
      obtain rfl : ad = ⟨b, o, none⟩ := by simpa using e
      have hq : j / K.k < M.length := Nat.div_lt_of_lt_mul (by rw [Nat.mul_comm]; exact hjl)
      have hr : j % K.k < K.k := Nat.mod_lt _ hk
      have hjj : j / K.k * K.k + j % K.k = j := Nat.div_add_mod' j K.k
      have hx := List.getElem?_eq_getElem hq
      have := K.at_ hx hr
      rw [hjj, hj] at this
      have := hc _ _ hx _ u this.symm
      rw [hjj] at this
      rw [← this]
      by_cases h0 : j = 0 <;> simp [Addr.add, h0]) (fun u hu => K.all_one M u hu) (by unfold maxLen; omega) (Nat.le_trans (Nat.mul_le_mul hn hby) (by decide)) hB
    have hv' : ∃ A' c', v' = .slice A' (L.length + M.length) c' := by
      rcases h2.2 with ⟨rfl, h0⟩ | ⟨g, cap, cur, rfl, _⟩
      · exact ⟨none, 0, by rw [h0]⟩
      · exact ⟨_, _, rfl⟩
    obtain ⟨A', c', rfl⟩ := hv'
    refine ⟨A', c', w', hrun, ?_, (Below.refl _ _).grown h3 hB fun k hk => ?_⟩
    · unfold VK
      rw [List.length_append, List.flatMap_append]
      exact h2
    · rcases A with _ | a
      · cases hk
      · obtain rfl : a.block = k := by simpa [Value.ownBlock] using hk
        exact (h.at_ _ rfl).1
theorem wpList_append_allK {S : TypeId} {z : Value} {by_ : Nat} (hS : P.underlying S = some (.slice K.T)) (hinfo : (P.info? K.T).map (fun i => (i.zero, i.size, i.bytes)) = some (some z, K.k, by_)) (hz : z.cells.size = K.k) (hby : by_ ≤ 4096) (hk : 0 < K.k)
    {w : World} {ops : Array Oper} {rest : List Oper} {o : Oper} {a : Act} {Q : Exit → Act → World → Prop} (hgd : o.guard = none) (s x : Operand)
    (ho : o.op = .call { callee := .builtin .append, args := #[s, x], argTypes := #[S, S] })
    (B : Nat) (A : Option Addr) (n c : Nat) (L : List α) (hs : a.eval s = .slice A n c) (hvn : L.length = n) (h : VK K w B A c L) (A2 : Option Addr) (m c2 : Nat) (M : List α) (hx : a.eval x = .slice A2 m c2) (hM : M.length = m) (hb : RdK K w A2 M) (hn : n + m ≤ 1048576) (hB : B ≤ w.heap.size)
    (hh : ∀ A' c' w', Hid (VK K w' B A' c' (L ++ M)) → Hid (Below B w w') → wpList P ops Q rest (a.put o.dst (.slice A' (n + m) c')) w') : wpList P ops Q (o :: rest) a w := by
  subst hvn hM
  refine wpList_plain hgd fun C hC => ?_
  obtain ⟨A', c', w', hrun, hd, he⟩ := run_append_allK hS hinfo hz hby o.type h c2 hb hn hk hB
  unfold Oper.wp execOp
  simp only [ho, resolve, invoke, builtin, Sem.run_bind, Sem.run_pure, Result.andThen_ok, List.map_toArray, List.map_cons, List.map_nil, hs, hx, hrun]
  exact hC _ _ (hh A' c' w' hd he)
end
end Mem
end Go.Proofs.Yteefkhgmcknbaaa
