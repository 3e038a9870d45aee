/-
  Slices of ints that read as a list; slices of ints of the call's own, and append to them. No program.
-/
import Derived.Below
import Derived.Laws.Slices
import Derived.Laws.MakeOwn
import Derived.Deep.Draws
import Derived.Lib.Hide
import Derived.Maps.AppendAt
import Derived.Laws.OwnMore
import Derived.Deep.AppendLies
import Derived.ProofKit
import Derived.Test.YtlcdjbleeanpbaaFlow
namespace Go.Proofs.Ytlcdjbleeanpbaa.Mem
open Go.RowKit

def intV (x : Int) : Value := .int .i64 x
def intsV (l : List Int) : List Value := l.map intV
@[simp] theorem intsV_length (l : List Int) : (intsV l).length = l.length := by simp [intsV]
/-- the slice at p reads as the ints l (nil and empty ones let in) -/
def IL (w : World) (p : Option Addr) (l : List Int) : Prop :=
  0 < l.length → ∃ b o, p = some ⟨b, o, none⟩ ∧ ∀ i (h : i < l.length), w.cell? ⟨b, o + i, none⟩ = some (intV l[i])
theorem IL.nil (w : World) (p : Option Addr) : IL w p [] := fun h => absurd h (by simp)
theorem IL.at_ {w : World} {p : Option Addr} {l : List Int} (h : IL w p l) {i : Nat} (hi : i < l.length) : ∃ b o, p = some ⟨b, o, none⟩ ∧ w.cell? ⟨b, o + i, none⟩ = some (.int .i64 l[i]) := by
  obtain ⟨b, o, e, hc⟩ := h (by omega)
  exact ⟨b, o, e, hc i hi⟩
theorem IL.lt {w : World} {p : Option Addr} {l : List Int} (h : IL w p l) (hl : 0 < l.length) : ∀ a, p = some a → a.block < w.heap.size := by
  rintro a rfl
  obtain ⟨b, o, e, hc⟩ := h hl
  obtain rfl : a = ⟨b, o, none⟩ := by simpa using e
  have h0 := hc 0 hl
  rcases Nat.lt_or_ge b w.heap.size with h' | h'
  · exact h'
  · simp [World.cell?, Array.getElem?_eq_none h'] at h0
theorem IL.keep {w w' : World} {p : Option Addr} {l : List Int} (h : IL w p l) (hk : 0 < l.length → ∀ a, p = some a → w'.heap[a.block]? = w.heap[a.block]?) : IL w' p l := fun hl => by
  obtain ⟨b, o, rfl, hc⟩ := h hl
  refine ⟨b, o, rfl, fun i hi => ?_⟩
  rw [← hc i hi]
  exact World.cell?_of_block (w := w) (a := ⟨b, o + i, none⟩) (show w'.heap[b]? = w.heap[b]? from hk hl ⟨b, o, none⟩ rfl)
theorem IL.below {w w' : World} {p : Option Addr} {l : List Int} (h : IL w p l) (hb : Below w.heap.size w w') : IL w' p l := h.keep fun hl a ha => hb.block _ (h.lt hl a ha)
theorem IL.into {S : List Nat} {w w' : World} {p : Option Addr} {l : List Int} (h : IL w p l) (hb : Flow.Into S w w') (hn : ∀ a, p = some a → a.block ∉ S) : IL w' p l := h.keep fun hl a ha => hb.block _ (h.lt hl a ha) (hn a ha)

/-- a slice of the call's own (its row lies from block B on) that reads as the ints l -/
def Iow (U : TypeId) (w : World) (B : Nat) (A : Option Addr) (c : Nat) (l : List Int) : Prop := w.ownsRow B U 1 (.slice A l.length c) l.length (intsV l)
section
variable {U : TypeId} {w w' : World} {B c : Nat} {A : Option Addr} {l : List Int}
theorem Iow.nil (U : TypeId) (w : World) (B : Nat) : Iow U w B none 0 [] := World.ownsRow_nil w B U 1
theorem Iow.from_ (h : Iow U w B A c l) : ∀ a, A = some a → B ≤ a.block := by
  obtain ⟨_, h2⟩ := h
  rintro a rfl
  rcases h2 with ⟨h', _⟩ | ⟨g, cap, cur, he, hB, _⟩
  · cases h'
  · obtain ⟨rfl, _⟩ : a = ⟨g, 0, none⟩ ∧ c = cap := by simpa using he
    exact hB
theorem Iow.room (h : Iow U w B A c l) : l.length ≤ c := by
  obtain ⟨_, h2⟩ := h
  rcases h2 with ⟨h', h0⟩ | ⟨g, cap, cur, he, _, _, hle, _⟩
  · omega
  · obtain ⟨_, rfl⟩ : A = some ⟨g, 0, none⟩ ∧ c = cap := by simpa using he
    exact hle
theorem Iow.il (h : Iow U w B A c l) : IL w A l := by
  intro hl
  obtain ⟨_, h2⟩ := h
  rcases h2 with ⟨h', h0⟩ | ⟨g, cap, cur, he, _, hh, _, _, _, htake⟩
  · omega
  · obtain ⟨rfl, rfl⟩ : A = some ⟨g, 0, none⟩ ∧ c = cap := by simpa using he
    refine ⟨g, 0, rfl, fun i hi => ?_⟩
    have h3 : cur.toList[i]? = some (intV l[i]) := by
      have := congrArg (·[i]?) htake
      simp only [Nat.mul_one, List.getElem?_take, if_pos hi] at this
      rw [this]; simp [intsV, hi]
    simp only [World.cell?, Nat.zero_add, hh]
    simpa using h3
theorem Iow.keep (h : Iow U w B A c l) (hk : ∀ a, A = some a → w'.heap[a.block]? = w.heap[a.block]?) : Iow U w' B A c l := by
  obtain ⟨h1, h2⟩ := h
  refine ⟨h1, ?_⟩
  rcases h2 with h | ⟨g, cap, cur, he, hB, hh, hr⟩
  · exact .inl h
  · obtain ⟨rfl, rfl⟩ : A = some ⟨g, 0, none⟩ ∧ c = cap := by simpa using he
    exact .inr ⟨g, c, cur, rfl, hB, (hk _ rfl).trans hh, hr⟩
theorem Iow.lt (h : Iow U w B A c l) : ∀ a, A = some a → a.block < w.heap.size := by
  obtain ⟨_, h2⟩ := h
  rintro a rfl
  rcases h2 with ⟨h', _⟩ | ⟨g, cap, cur, he, hB, hh, _⟩
  · cases h'
  · obtain ⟨rfl, _⟩ : a = ⟨g, 0, none⟩ ∧ c = cap := by simpa using he
    exact (Array.getElem?_eq_some_iff.1 hh).1
theorem Iow.kept (h : Iow U w B A c l) (hb : Below w.heap.size w w') : Iow U w' B A c l := h.keep fun a ha => hb.block _ (h.lt a ha)
theorem Iow.into {S : List Nat} (h : Iow U w B A c l) (hb : Flow.Into S w w') (hn : ∀ a, A = some a → a.block ∉ S) : Iow U w' B A c l := h.keep fun a ha => hb.block _ (h.lt a ha) (hn a ha)
theorem Iow.mono {B' : Nat} (h : Iow U w B A c l) (hb : B' ≤ B) : Iow U w B' A c l := by
  obtain ⟨h1, h2⟩ := h
  refine ⟨h1, ?_⟩
  rcases h2 with h | ⟨g, cap, cur, he, hB, hr⟩
  · exact .inl h
  · exact .inr ⟨g, cap, cur, he, Nat.le_trans hb hB, hr⟩
end
theorem Iow.lit (U : TypeId) (w : World) (B : Nat) (l : List Int) (hB : B ≤ w.heap.size) (hl : l.length ≤ maxLen) : Iow U (w.alloc (.cells (intsV l).toArray U)) B (some ⟨w.heap.size, 0, none⟩) l.length l := by
  have := World.ownsRow_lit (base := B) (e := U) (size := 1) w (intsV l).toArray l.length hB hl (by simp)
  exact this
theorem IL.lit (U : TypeId) (w : World) (l : List Int) (hl : l.length ≤ maxLen) : IL (w.alloc (.cells (intsV l).toArray U)) (some ⟨w.heap.size, 0, none⟩) l := (Iow.lit U w 0 l (Nat.zero_le _) hl).il
theorem IL.one (U : TypeId) (w : World) (x : Int) : IL (w.alloc (.cells #[.int .i64 x] U)) (some ⟨w.heap.size, 0, none⟩) [x] := IL.lit U w [x] (by simp [maxLen])
theorem Iow.one (U : TypeId) (w : World) (B : Nat) (x : Int) (hB : B ≤ w.heap.size) : Iow U (w.alloc (.cells #[.int .i64 x] U)) B (some ⟨w.heap.size, 0, none⟩) 1 [x] := Iow.lit U w B [x] hB (by simp [maxLen])
theorem Iow.none_ (U : TypeId) (w : World) (B : Nat) (hB : B ≤ w.heap.size) : Iow U (w.alloc (.cells #[] U)) B (some ⟨w.heap.size, 0, none⟩) 0 [] := Iow.lit U w B [] hB (by decide)
theorem IL.alloc {w : World} {p : Option Addr} {l : List Int} (h : IL w p l) (o : Obj) : IL (w.alloc o) p l := h.below ((Below.refl _ _).alloc (Nat.le_refl _) _)
theorem Iow.alloc {U : TypeId} {w : World} {B c : Nat} {A : Option Addr} {l : List Int} (h : Iow U w B A c l) (o : Obj) : Iow U (w.alloc o) B A c l := h.kept ((Below.refl _ _).alloc (Nat.le_refl _) _)
theorem intsV_one (l : List Int) : ∀ v ∈ intsV l, v.oneCell' = true := by
  intro v hv
  obtain ⟨x, _, rfl⟩ := List.mem_map.1 hv
  rfl
/-- a new slice of the call's own with room for n ints, of which none is there -/
theorem run_make_room {P : Program} {t e : TypeId} {by_ : Nat} (ht : P.underlying t = some (.slice e)) (hinfo : (P.info? e).map (fun i => (i.zero, i.size, i.bytes)) = some (some (.int .i64 0), 1, by_)) (hby : by_ ≤ 8) (n : Nat) (hn : n ≤ 1048576) (w : World) :
    (Instr.makeSlice t (.int .i64 0) (.int .i64 (n : Int))).run P w = .ok (.slice (some ⟨w.heap.size, 0, none⟩) 0 n) (w.alloc (.cells (List.replicate n (.int .i64 0)).toArray e)) := by
  obtain ⟨i, hi, hz, hs, hb⟩ := info_parts hinfo
  have hr := run_make (P := P) w t e i _ ht hi hz .i64 .i64 0 n (by omega) (by omega) (by rw [hb]; have : (by_ : Int) * (n : Int) ≤ 8 * 1048576 := by have := Nat.mul_le_mul hby hn; omega
                                                                                          omega) (by omega)
  rw [hr, hs]
  simp only [Int.toNat_natCast, Nat.mul_one, Int.toNat_zero]
  rw [show (Value.int .i64 0).cells = #[.int .i64 0] from rfl, ← toList_madeCells_one (.int .i64 0) n]
theorem Iow.made (U : TypeId) (w : World) (B n : Nat) (hB : B ≤ w.heap.size) (hn : n ≤ 1048576) : Iow U (w.alloc (.cells (List.replicate n (.int .i64 0)).toArray U)) B (some ⟨w.heap.size, 0, none⟩) n [] :=
  World.ownsRow_made w _ n hB (by unfold maxLen; omega) (by simp)
/-- append of ints to a slice of the call's own -/
theorem wpList_append_ints {P : Program} {w : World} {ops : Array Oper} {rest : List Oper} {o : Oper} {a : Act} {Q : Exit → Act → World → Prop} (hgd : o.guard = none) (s x : Operand) (t : TypeId)
    (ho : o.op = .call { callee := .builtin .append, args := #[s, x], argTypes := #[t, t] }) (B : Nat) (U : TypeId) (ht : P.underlying t = some (.slice U)) (hinfo : (P.info? U).map (fun i => (i.zero, i.size, i.bytes)) = some (some (.int .i64 0), 1, 8))
    (S : Option Addr) (n0 c0 : Nat) (xs : List Int) (hs : a.eval s = .slice S n0 c0) (hn0 : xs.length = n0) (hown : Iow U w B S c0 xs) (A : Option Addr) (m c : Nat) (l : List Int) (hx : a.eval x = .slice A m c) (hl : l.length = m) (hb : IL w A l)
    (hsz : n0 + m ≤ 17592186044416) (hB : B ≤ w.heap.size) (w0 : World) (hw0 : Below B w0 w)
    (h : ∀ S' c' w', Hid (Iow U w' B S' c' (xs ++ l)) → Hid (Below B w0 w') → wpList P ops Q rest (a.put o.dst (.slice S' (n0 + m) c')) w') : wpList P ops Q (o :: rest) a w := by
  subst hl hn0
  obtain ⟨i, hi, hz, hs1, hb1⟩ := info_parts hinfo
  refine wpList_plain hgd fun K hK => ?_
  obtain ⟨S', c', w', hrun, h2, h3⟩ : ∃ S' c' w', (Builtin.append_ #[t, t] o.type #[.slice S xs.length c0, .slice A l.length c]).run P w = .ok (.slice S' (xs.length + l.length) c') w' ∧ w'.ownsRow B U 1 (.slice S' (xs.length + l.length) c') (xs.length + l.length) (intsV xs ++ intsV l) ∧ Below B w w' := by
    cases A with
    | none =>
      have h0 : l = [] := by
        cases l with
        | nil => rfl
        | cons y l => obtain ⟨_, _, e, _⟩ := hb (by simp); cases e
      subst h0
      refine ⟨S, c0, w, ?_, by simpa [intsV, Iow] using hown, Below.refl _ _⟩
      have hr := Iow.room hown
      rcases hown.2 with ⟨h', _⟩ | ⟨g, cap, cur, h', _, _, hnc, _⟩
      · rw [h']
        obtain ⟨rfl, this, rfl⟩ : S = none ∧ xs.length = 0 ∧ c0 = 0 := by simpa using h'
        simp [Builtin.append_, run_underlying ht, sizeOf, typeInfo, hi, Builtin.lenOf, Builtin.firstCells, this]
      · obtain ⟨rfl, rfl⟩ : S = some ⟨g, 0, none⟩ ∧ c0 = cap := by simpa using h'
        simp [Builtin.append_, run_underlying ht, sizeOf, typeInfo, hi, Builtin.lenOf, Builtin.firstCells, hr, storeCells]
    | some ad =>
      obtain ⟨v', w', h1, h2, h3, _, h5⟩ := run_append_own_at (P := P) w B t o.type U i (.int .i64 0) 1 8 ht hi hz hs1 hb1 rfl (by decide) (.slice S xs.length c0) xs.length (intsV xs) hown ad l.length c (intsV l) (by simp) (fun j u hj => by
        have hjl : j < l.length := by
          rcases Nat.lt_or_ge j l.length with h' | h'
          · exact h'
          · rw [List.getElem?_eq_none (by simpa using h')] at hj; cases hj
        obtain ⟨b, o, e, hc⟩ := hb (by omega)
        obtain rfl : ad = ⟨b, o, none⟩ := by simpa using e
        have hv : u = intV l[j] := by simpa [intsV, hjl] using hj.symm
        rw [hv, ← hc j hjl]
        by_cases h0 : j = 0 <;> simp [Addr.add, h0]) (intsV_one l) (by unfold maxLen; omega) (by omega) hB
      have hv' : ∃ S' c', v' = .slice S' (xs.length + l.length) c' := by
        rcases h2.2 with ⟨rfl, h0⟩ | ⟨g, cap, cur, rfl, _⟩
        · exact ⟨none, 0, by rw [h0]⟩
        · exact ⟨_, _, rfl⟩
      obtain ⟨S', c', rfl⟩ := hv'
      refine ⟨S', c', w', h1, h2, (Below.refl _ _).grown h3 hB fun k hk => ?_⟩
      rcases S with _ | a
      · cases hk
      · obtain rfl : a.block = k := by simpa [Value.ownBlock] using hk
        exact hown.from_ _ rfl
  unfold Oper.wp execOp
  simp only [ho, resolve, invoke, builtin, Sem.run_bind, Sem.run_pure, Result.andThen_ok, List.map_toArray, List.map_cons, List.map_nil, hs, hx, hrun]
  refine hK _ _ (h S' c' w' ?_ (hw0.trans h3))
  show w'.ownsRow B U 1 (.slice S' (xs ++ l).length c') (xs ++ l).length (intsV (xs ++ l))
  rw [List.length_append, show intsV (xs ++ l) = intsV xs ++ intsV l by simp [intsV]]
  exact h2
end Go.Proofs.Ytlcdjbleeanpbaa.Mem
