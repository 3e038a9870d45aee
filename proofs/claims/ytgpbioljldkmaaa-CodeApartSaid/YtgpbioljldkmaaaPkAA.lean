/-
  Bytes, CodeC0, Flow, Own, Vals, RowK. Put together by pack.py.
-/
import Derived.Below
import Derived.Laws.Slices
import Derived.Laws.BytesArg
import Derived.Laws.MakeOwn
import Derived.Laws.CopyOwn
import Derived.Deep.Draws
import Derived.Lib.Hide
import Derived.Maps.AppendAt
import Derived.Laws.OwnMore
import Derived.Deep.AppendLies
import Derived.ProofKit
import Derived.Lib.AppendStr
import Derived.Lib.AppendZeros
import Derived.Lib.QuietBelow
import Derived.StillTail
import Derived.WalkKit

namespace Go.Proofs.Ytgpbioljldkmaaa.Mem
open Go.RowKit

/-- a byte as a cell -/
def byteV (x : UInt8) : Value := .int .u8 (x.toNat : Int)
def bytesV (l : List UInt8) : List Value := l.map byteV
@[simp] theorem bytesV_length (l : List UInt8) : (bytesV l).length = l.length := by simp [bytesV]

/-- the slice at p reads as the bytes l (nil and empty ones let in) -/
def BL (w : World) (p : Option Addr) (l : List UInt8) : Prop :=
  0 < l.length → ∃ b o, p = some ⟨b, o, none⟩ ∧ ∀ i (h : i < l.length), w.cell? ⟨b, o + i, none⟩ = some (byteV l[i])
theorem BL.nil (w : World) (p : Option Addr) : BL w p [] := fun h => absurd h (by simp)
theorem BL.at_ {w : World} {p : Option Addr} {l : List UInt8} (h : BL w p l) {i : Nat} (hi : i < l.length) : ∃ b o, p = some ⟨b, o, none⟩ ∧ w.cell? ⟨b, o + i, none⟩ = some (.int .u8 (l[i].toNat : Int)) := by
  obtain ⟨b, o, e, hc⟩ := h (by omega)
  exact ⟨b, o, e, hc i hi⟩
theorem BL.lt {w : World} {p : Option Addr} {l : List UInt8} (h : BL w p l) (hl : 0 < l.length) : ∀ a, p = some a → a.block < w.heap.size := by
  rintro a rfl
  obtain ⟨b, o, e, hc⟩ := h hl
  obtain rfl : a = ⟨b, o, none⟩ := by simpa using e
  have h0 := hc 0 hl
  rcases Nat.lt_or_ge b w.heap.size with h' | h'
  · exact h'
  · simp [World.cell?, Array.getElem?_eq_none h'] at h0
theorem BL.keep {w w' : World} {p : Option Addr} {l : List UInt8} (h : BL w p l) (hk : 0 < l.length → ∀ a, p = some a → w'.heap[a.block]? = w.heap[a.block]?) : BL w' p l := fun hl => by
  obtain ⟨b, o, rfl, hc⟩ := h hl
  refine ⟨b, o, rfl, fun i hi => ?_⟩
  rw [← hc i hi]
  exact World.cell?_of_block (w := w) (a := ⟨b, o + i, none⟩) (show w'.heap[b]? = w.heap[b]? from hk hl ⟨b, o, none⟩ rfl)
theorem BL.below {w w' : World} {p : Option Addr} {l : List UInt8} (h : BL w p l) (hb : Below w.heap.size w w') : BL w' p l := h.keep fun hl a ha => hb.block _ (h.lt hl a ha)
theorem BL.grown {w w' : World} {p : Option Addr} {l : List UInt8} {row : Option Nat} (h : BL w p l) (hb : w.grownBy w' row) (hn : 0 < l.length → ∀ a, p = some a → some a.block ≠ row) : BL w' p l :=
  h.keep fun hl a ha => hb.block _ (h.lt hl a ha) (hn hl a ha)
theorem BL.drewN {w : World} {p : Option Addr} {l : List UInt8} (h : BL w p l) (n : Nat) : BL (w.drewN n) p l := h
theorem BL.take {w : World} {p : Option Addr} {l : List UInt8} (h : BL w p l) (k : Nat) : BL w p (l.take k) := fun hl => by
  simp only [List.length_take] at hl
  obtain ⟨b, o, e, hc⟩ := h (by omega)
  refine ⟨b, o, e, fun i hi => ?_⟩
  simp only [List.length_take] at hi
  rw [hc i (by omega), List.getElem_take]

/-- where a slice of so much room lies behind its first k -/
def cutA (A : Option Addr) (c k : Nat) : Option Addr := if c = k then A else A.map (·.add k)
theorem BL.cut {w : World} {p : Option Addr} {l : List UInt8} (h : BL w p l) {k c : Nat} (hc : l.length ≤ c) : BL w (cutA p c k) (l.drop k) := fun hl => by
  simp only [List.length_drop] at hl
  obtain ⟨b, o, rfl, hcell⟩ := h (by omega)
  unfold cutA
  rw [if_neg (by omega)]
  refine ⟨b, o + k, by by_cases hk : k = 0 <;> simp [Addr.add, hk], fun i hi => ?_⟩
  simp only [List.length_drop] at hi
  rw [Nat.add_assoc, hcell (k + i) (by omega), List.getElem_drop]
theorem run_cut {P : Program} {t e : TypeId} {i : TypeInfo} (ht : P.underlying t = some (.slice e)) (hi : P.info? e = some i) (hs : i.size = 1) (A : Option Addr) (n c k : Nat) (hk : k ≤ n) (w : World) :
    (Instr.slice t (.slice A n c) (some (.int .i64 (k : Int))) none none).run P w = .ok (.slice (cutA A c k) (n - k) (c - k)) w := by
  have he : P.elem t = e := by simp [Program.elem, ht]
  rw [run_slice_l w t A n c (by rw [he]; exact ht) .i64 (k : Int) (by omega) (by omega), he]
  simp [sizeOf, typeInfo, hi, hs, sliced, cutA, Result.andThen]
theorem run_upTo {P : Program} {t e : TypeId} {i : TypeInfo} (ht : P.underlying t = some (.slice e)) (hi : P.info? e = some i) (A : Option Addr) (n c k : Nat) (hk : k ≤ c) (w : World) :
    (Instr.slice t (.slice A n c) none (some (.int .i64 (k : Int))) none).run P w = .ok (.slice A k c) w := by
  have he : P.elem t = e := by simp [Program.elem, ht]
  rw [run_slice_h w t A n c (by rw [he]; exact ht) .i64 (k : Int) (by omega) (by omega), he]
  by_cases hc : c = 0
  · simp [sizeOf, typeInfo, hi, sliced, Result.andThen, hc]
  · simp [sizeOf, typeInfo, hi, sliced, Result.andThen, hc, Addr.add]

/-- the text of bytes -/
def strOf (l : List UInt8) : ByteArray := ⟨l.toArray⟩
theorem strOf_toList (l : List UInt8) : (strOf l).data.toList = l := rfl
theorem strOf_size (l : List UInt8) : (strOf l).size = l.length := rfl
theorem run_text {P : Program} {src dst e : TypeId} (hs : P.underlying src = some (.slice e)) (he : P.underlying e = some (.int .u8)) (hd : P.underlying dst = some .string) {w : World} {p : Option Addr} {l : List UInt8} (h : BL w p l) (c : Nat) :
    (convert src dst (.slice p l.length c)).run P w = .ok (.string (strOf l)) w := by
  have hnat : ∀ x : UInt8, UInt8.ofNat ((x.toNat : Int)).toNat = x := fun x => by simp
  by_cases h0 : l.length = 0
  · obtain rfl : l = [] := List.eq_nil_of_length_eq_zero h0
    rw [run_convert_bytes_string w src dst e _ _ c hs he hd]
    cases p with
    | none => simp [Conv.bytesToString, strOf, ByteArray.empty, ByteArray.emptyWithCapacity]; rfl
    | some a =>
      rw [show ([] : List UInt8).length = 0 from rfl, run_bytesToString w a 0 c [] (by simpa using run_loadCells_list (P := P) w a [] (fun j v hj => by simp at hj))]
      simp [strOf, ByteArray.empty, ByteArray.emptyWithCapacity]; rfl
  · obtain ⟨b, o, rfl, hc⟩ := h (by omega)
    have := run_convert_bytes_arg (P := P) w src e hs he b o l.length c (l.map fun x => (x.toNat : Int)) (by simp) (fun i hi => by
      rw [hc i hi]; simp [byteV, hi]) dst hd
    rw [this]
    simp [strOfNums, strOf, Function.comp_def]

theorem run_text_n {P : Program} {src dst e : TypeId} (hs : P.underlying src = some (.slice e)) (he : P.underlying e = some (.int .u8)) (hd : P.underlying dst = some .string) {w : World} {p : Option Addr} {l : List UInt8} (h : BL w p l) {n : Nat} (hn : l.length = n) (c : Nat) :
    (convert src dst (.slice p n c)).run P w = .ok (.string (strOf l)) w := by subst hn; exact run_text hs he hd h c

/-- a block of bytes that is known whole (U: the bytes' type) -/
def Row (U : TypeId) (w : World) (g : Nat) (l : List UInt8) : Prop := w.heap[g]? = some (.cells (bytesV l).toArray U (0, 0))
section
variable {U : TypeId} {w w' : World} {g : Nat} {l : List UInt8}
theorem Row.lt (h : Row U w g l) : g < w.heap.size := (Array.getElem?_eq_some_iff.1 h).1
theorem Row.bl (h : Row U w g l) : BL w (some ⟨g, 0, none⟩) l := fun _ => ⟨g, 0, rfl, fun i hi => by
  unfold Row at h
  simp [World.cell?, h, bytesV, hi]⟩
theorem Row.cell (h : Row U w g l) {i : Nat} (hi : i < l.length) : w.cell? ⟨g, i, none⟩ = some (.int .u8 (l[i].toNat : Int)) := by
  unfold Row at h
  simp [World.cell?, h, bytesV, hi, byteV]
theorem Row.free (h : Row U w g l) (i : Nat) : w.frozen? ⟨g, i, none⟩ = false := by
  unfold Row at h
  simp [World.frozen?, h]
theorem Row.below {B : Nat} (h : Row U w g l) (hb : Below B w w') (hg : g < B) : Row U w' g l := (hb.block g hg).trans h
theorem Row.kept (h : Row U w g l) (hb : Below w.heap.size w w') : Row U w' g l := (hb.block g h.lt).trans h
theorem Row.set (h : Row U w g l) {i : Nat} (hi : i < l.length) (x : UInt8) {z : Int} (hz : z = (x.toNat : Int)) : Row U (w.setCell ⟨g, i, none⟩ (.int .u8 z)) g (l.set i x) := by
  subst hz
  have hb : bytesV (l.set i x) = (bytesV l).set i (byteV x) := by simp [bytesV, List.map_set]
  unfold Row at h ⊢
  rw [hb]
  have : i < (bytesV l).length := by simpa using hi
  simp [World.setCell, Array.getElem?_modify, h, byteV]
theorem Row.drewN (h : Row U w g l) (n : Nat) : Row U (w.drewN n) g l := h
end

/-- the bytes of a new block -/
theorem madeCells_bytes {z : Array Value} (hz : z = #[.int .u8 0]) (n : Nat) : (madeCells z n).toList = bytesV (List.replicate n 0) := by
  subst hz
  apply List.ext_getElem
  · simp [madeCells]
  · intro i h1 h2
    simp [madeCells, bytesV, byteV, Nat.mod_one]

theorem bytesV_one (l : List UInt8) : ∀ v ∈ bytesV l, v.oneCell' = true := by
  intro v hv
  obtain ⟨x, _, rfl⟩ := List.mem_map.1 hv
  rfl
theorem splice_front (l L : List UInt8) : splice (bytesV L) 0 (bytesV l) = bytesV (l ++ L.drop l.length) := by
  simp [splice, bytesV]
/-- copy of bytes to the front of a row of the call's own -/
theorem wpList_copy_bytes {P : Program} {w : World} {ops : Array Oper} {rest : List Oper} {o : Oper} {a : Act} {Q : Exit → Act → World → Prop} (hgd : o.guard = none) (d s : Operand) (dT sT : TypeId)
    (ho : o.op = .call { callee := .builtin .copy, args := #[d, s], argTypes := #[dT, sT] }) (U : TypeId) (hu : P.underlying dT = some (.slice U)) (hsz : (P.info? U).map (·.size) = some 1)
    (g n c1 m c2 : Nat) (sp : Option Addr) (hd : a.eval d = .slice (some ⟨g, 0, none⟩) n c1) (hs : a.eval s = .slice sp m c2)
    (L l : List UInt8) (hg : Row U w g L) (hl : l.length = m) (hb : BL w sp l) (hmn : m ≤ n) (hn : n ≤ L.length) (B : Nat) (w0 : World) (hB : Below B w0 w) (hBg : B ≤ g)
    (h : ∀ w', Hid (Row U w' g (l ++ L.drop l.length)) → Below B w0 w' → wpList P ops Q rest (a.put o.dst (goInt m)) w') : wpList P ops Q (o :: rest) a w := by
  subst hl
  have hlen : (bytesV l).length = l.length := by simp
  refine wpList_copy_splice hgd d s dT sT ho U hu hsz (some ⟨g, 0, none⟩) sp n c1 l.length c2 hd hs g 0 (bytesV L) U hg (bytesV l) (by rw [hlen]; exact (Nat.min_eq_left hmn).symm) (fun hp => ⟨rfl, ?_⟩) (by rw [hlen, bytesV_length]; omega) (bytesV_one l) B w0 hB hBg ?_
  · obtain ⟨b, o, rfl, hc⟩ := hb (by simpa using hp)
    refine ⟨_, rfl, fun j v hj => ?_⟩
    have hjl : j < l.length := by
      rcases Nat.lt_or_ge j l.length with h' | h'
      · exact h'
      · rw [List.getElem?_eq_none (by simpa using h')] at hj; cases hj
    have hv : v = byteV l[j] := by simpa [bytesV, hjl] using hj.symm
    rw [hv, ← hc j hjl]
    by_cases h0 : j = 0 <;> simp [Addr.add, h0]
  · intro w' h1 h2
    rw [splice_front, hlen] at *
    exact h w' h1 h2
/-- a slice of the call's own (its row lies from block B on) that reads as the bytes l -/
def Own (U : TypeId) (w : World) (B : Nat) (v : Value) (l : List UInt8) : Prop := w.ownsRow B U 1 v l.length (bytesV l)
theorem Own.slice {U : TypeId} {w : World} {B : Nat} {v : Value} {l : List UInt8} (h : Own U w B v l) : ∃ A c, v = .slice A l.length c ∧ BL w A l ∧ l.length ≤ c := by
  obtain ⟨_, h2⟩ := h
  rcases h2 with ⟨rfl, h0⟩ | ⟨g, cap, cur, rfl, _, hh, hle, _, hsz, htake⟩
  · exact ⟨none, 0, by rw [h0], by rw [List.eq_nil_of_length_eq_zero h0]; exact BL.nil _ _, by omega⟩
  · refine ⟨some ⟨g, 0, none⟩, cap, rfl, fun _ => ⟨g, 0, rfl, fun i hi => ?_⟩, hle⟩
    have h3 : cur.toList[i]? = some (byteV l[i]) := by
      have := congrArg (·[i]?) htake
      simp only [Nat.mul_one, List.getElem?_take, if_pos hi] at this
      rw [this]; simp [bytesV, hi]
    simp only [World.cell?, Nat.zero_add, hh]
    simpa using h3
theorem Own.lit (U : TypeId) (w : World) (B : Nat) (l : List UInt8) (hB : B ≤ w.heap.size) (hl : l.length ≤ maxLen) : Own U (w.alloc (.cells (bytesV l).toArray U)) B (.slice (some ⟨w.heap.size, 0, none⟩) l.length l.length) l := by
  have := World.ownsRow_lit (base := B) (e := U) (size := 1) w (bytesV l).toArray l.length hB hl (by simp)
  exact this
/-- append of bytes to a slice of the call's own -/
theorem wpList_append_bytes {P : Program} {w : World} {ops : Array Oper} {rest : List Oper} {o : Oper} {a : Act} {Q : Exit → Act → World → Prop} (hgd : o.guard = none) (s x : Operand) (t : TypeId)
    (ho : o.op = .call { callee := .builtin .append, args := #[s, x], argTypes := #[t, t] }) (B : Nat) (U : TypeId) (ht : P.underlying t = some (.slice U)) (hinfo : (P.info? U).map (fun i => (i.zero, i.size, i.bytes)) = some (some (.int .u8 0), 1, 1))
    (v : Value) (xs : List UInt8) (hs : a.eval s = v) (hown : Own U w B v xs) (A : Option Addr) (m c : Nat) (l : List UInt8) (hx : a.eval x = .slice A m c) (hl : l.length = m) (hb : BL w A l)
    (hsz : xs.length + m ≤ 140737488355328) (hB : B ≤ w.heap.size)
    (h : ∀ v' w', Hid (Own U w' B v' (xs ++ l)) → w.grownBy w' v.ownBlock → (v'.ownBlock = v.ownBlock ∨ v'.ownBlock = some w.heap.size) → wpList P ops Q rest (a.put o.dst v') w') : wpList P ops Q (o :: rest) a w := by
  subst hl
  obtain ⟨i, hi, hz, hs1, hb1⟩ := info_parts hinfo
  refine wpList_plain hgd fun K hK => ?_
  obtain ⟨v', w', hrun, h2, h3, h4⟩ : ∃ v' w', (Builtin.append_ #[t, t] o.type #[v, .slice A l.length c]).run P w = .ok v' w' ∧ w'.ownsRow B U 1 v' (xs.length + l.length) (bytesV xs ++ bytesV l) ∧ w.grownBy w' v.ownBlock ∧ (v'.ownBlock = v.ownBlock ∨ v'.ownBlock = some w.heap.size) := by
    cases A with
    | none =>
      have h0 : l = [] := by
        cases l with
        | nil => rfl
        | cons y l => obtain ⟨_, _, e, _⟩ := hb (by simp); cases e
      subst h0
      refine ⟨v, w, ?_, by simpa [bytesV, Own] using hown, World.grownBy.refl w _, .inl rfl⟩
      rcases hown.2 with ⟨rfl, _⟩ | ⟨g, cap, cur, rfl, _, _, hnc, _⟩
      · simp [Builtin.append_, run_underlying ht, sizeOf, typeInfo, hi, Builtin.lenOf, Builtin.firstCells]
      · simp [Builtin.append_, run_underlying ht, sizeOf, typeInfo, hi, Builtin.lenOf, Builtin.firstCells, hnc, storeCells]
    | some ad =>
      obtain ⟨v', w', h1, h2, h3, _, h5⟩ := run_append_own_at (P := P) w B t o.type U i (.int .u8 0) 1 1 ht hi hz hs1 hb1 rfl (by decide) v xs.length (bytesV xs) hown ad l.length c (bytesV l) (by simp) (fun j u hj => by
        have hjl : j < l.length := by
          rcases Nat.lt_or_ge j l.length with h' | h'
          · exact h'
          · rw [List.getElem?_eq_none (by simpa using h')] at hj; cases hj
        obtain ⟨b, o, e, hc⟩ := hb (by omega)
        obtain rfl : ad = ⟨b, o, none⟩ := by simpa using e
        have hv : u = byteV l[j] := by simpa [bytesV, hjl] using hj.symm
        rw [hv, ← hc j hjl]
        by_cases h0 : j = 0 <;> simp [Addr.add, h0]) (bytesV_one l) (by unfold maxLen; omega) (by omega) hB
      exact ⟨v', w', h1, h2, h3, h5⟩
  unfold Oper.wp execOp
  simp only [ho, resolve, invoke, builtin, Sem.run_bind, Sem.run_pure, Result.andThen_ok, List.map_toArray, List.map_cons, List.map_nil, hs, hx, hrun]
  refine hK _ _ (h v' w' ?_ h3 h4)
  show w'.ownsRow B U 1 v' (xs ++ l).length (bytesV (xs ++ l))
  rw [List.length_append, show bytesV (xs ++ l) = bytesV xs ++ bytesV l by simp [bytesV]]
  exact h2
theorem Row.new (U : TypeId) (w : World) (l : List UInt8) : Row U (w.alloc (.cells (bytesV l).toArray U)) w.heap.size l := heap_alloc_new w _
theorem BL.alloc {w : World} {p : Option Addr} {l : List UInt8} (h : BL w p l) (o : Obj) : BL (w.alloc o) p l := h.below ((Below.refl _ _).alloc (Nat.le_refl _) _)
end Go.Proofs.Ytgpbioljldkmaaa.Mem

namespace Go.Proofs.Ytgpbioljldkmaaa
open Go.RowKit
namespace Mem
/-- blocks of two kinds apart all is kept; below B all is -/
structure Kp (T1 T2 : TypeId) (B : Nat) (w w' : World) : Prop where
  below : Below B w w'
  block : ∀ (b : Nat) (C : Array Value) (T : TypeId) (f : Nat × Nat), w.heap[b]? = some (Obj.cells C T f) → T ≠ T1 → T ≠ T2 → w'.heap[b]? = some (Obj.cells C T f)
section
variable {T1 T2 : TypeId} {B : Nat} {w w' w2 : World}
theorem Kp.refl (T1 T2 : TypeId) (B : Nat) (w : World) : Kp T1 T2 B w w := ⟨Below.refl _ _, fun _ _ _ _ h _ _ => h⟩
theorem Kp.trans (h : Kp T1 T2 B w w') (k : Kp T1 T2 B w' w2) : Kp T1 T2 B w w2 := ⟨h.below.trans k.below, fun b C T f hb h1 h2 => k.block b C T f (h.block b C T f hb h1 h2) h1 h2⟩
theorem Kp.of_below (h : Below w.heap.size w w') (hB : B ≤ w.heap.size) : Kp T1 T2 B w w' := ⟨h.mono hB, fun b _ _ _ hb _ _ => (h.block b (Array.getElem?_eq_some_iff.1 hb).1).trans hb⟩
theorem Kp.set (h : Kp T1 T2 B w w') {g i : Nat} {C : Array Value} {T : TypeId} {f : Nat × Nat} (hg : B ≤ g) (hx : w'.heap[g]? = some (.cells C T f)) (hT : T = T1 ∨ T = T2) (v : Value) : Kp T1 T2 B w (w'.setCell ⟨g, i, none⟩ v) := by
  refine ⟨h.below.setCell hg _, fun b C' T' f' hb h1 h2 => ?_⟩
  have h3 := h.block b C' T' f' hb h1 h2
  by_cases e : b = g
  · subst e
    rw [hx] at h3
    simp only [Option.some.injEq, Obj.cells.injEq] at h3
    obtain ⟨-, rfl, -⟩ := h3
    rcases hT with hT | hT
    · exact absurd hT h1
    · exact absurd hT h2
  · rw [← h3]
    exact Below.heap_setCell _ _ _ _ e
theorem Kp.mono {B' : Nat} (h : Kp T1 T2 B w w') (hB : B' ≤ B) : Kp T1 T2 B' w w' := ⟨h.below.mono hB, h.block⟩
theorem Kp.box (h : Kp T1 T2 B w w') {b : Nat} {C : Array Value} {T : TypeId} {f : Nat × Nat} (hb : w.heap[b]? = some (.cells C T f)) (h1 : T ≠ T1) (h2 : T ≠ T2) : w'.heap[b]? = some (.cells C T f) := h.block b C T f hb h1 h2
end
section
variable {U : TypeId} {B : Nat} {w w' : World} {v : Value} {l : List UInt8}
theorem Own.row (h : Own U w B v l) : ∀ k, v.ownBlock = some k → B ≤ k ∧ ∃ C, w.heap[k]? = some (.cells C U (0, 0)) := by
  intro k hk
  rcases h.2 with ⟨rfl, _⟩ | ⟨g, cap, cur, rfl, hb, hg, _⟩
  · simp [Value.ownBlock] at hk
  · simp [Value.ownBlock] at hk
    subst hk
    exact ⟨hb, cur, hg⟩
theorem Own.sl (h : Own U w B v l) : ∃ A m c, v = .slice A m c := by
  obtain ⟨A, c, e, -, -⟩ := h.slice
  exact ⟨A, _, c, e⟩
theorem Own.grown {T2 : TypeId} (h : Own U w B v l) (hg : w.grownBy w' v.ownBlock) (hB : B ≤ w.heap.size) : Kp U T2 B w w' := by
  refine ⟨⟨hg.os, hg.tape, hg.output, hg.size, fun k hk => hg.block k (by omega) fun e => ?_⟩, fun b C T f hb h1 _ => ?_⟩
  · have := (h.row k e.symm).1
    omega
  · refine (hg.block b (Array.getElem?_eq_some_iff.1 hb).1 fun e => ?_).trans hb
    obtain ⟨-, C', h3⟩ := h.row b e.symm
    rw [hb] at h3
    simp only [Option.some.injEq, Obj.cells.injEq] at h3
    exact h1 h3.2.1
theorem Own.keep (h : Own U w B v l) (hk : ∀ k, v.ownBlock = some k → w'.heap[k]? = w.heap[k]?) : Own U w' B v l := by
  refine ⟨h.1, ?_⟩
  rcases h.2 with hn | ⟨g, cap, cur, rfl, hb, hg, hr⟩
  · exact .inl hn
  · exact .inr ⟨g, cap, cur, rfl, hb, (hk g rfl).trans hg, hr⟩
theorem Own.kept (h : Own U w B v l) (hb : Below w.heap.size w w') : Own U w' B v l := h.keep fun k hk => by
  obtain ⟨-, C, hc⟩ := h.row k hk
  exact hb.block k (Array.getElem?_eq_some_iff.1 hc).1
theorem Own.set_other (h : Own U w B v l) {g i : Nat} {C : Array Value} {T : TypeId} {f : Nat × Nat} (hx : w.heap[g]? = some (.cells C T f)) (hT : T ≠ U) (x : Value) : Own U (w.setCell ⟨g, i, none⟩ x) B v l := h.keep fun k hk => by
  obtain ⟨-, C', hc⟩ := h.row k hk
  refine Below.heap_setCell _ _ _ _ fun e => ?_
  subst e
  rw [hx] at hc
  simp only [Option.some.injEq, Obj.cells.injEq] at hc
  exact hT hc.2.1
end
/-- append of a text's bytes -/
theorem wpList_append_text {P : Program} {w : World} {ops : Array Oper} {rest : List Oper} {o : Oper} {a : Act} {Q : Exit → Act → World → Prop} (hgd : o.guard = none) (s x : Operand) (t u : TypeId)
    (ho : o.op = .call { callee := .builtin .append, args := #[s, x], argTypes := #[t, u] }) (B : Nat) (U : TypeId) (ht : P.underlying t = some (.slice U)) (hu : P.underlying u = some .string) (hinfo : (P.info? U).map (fun i => (i.zero, i.size, i.bytes)) = some (some (.int .u8 0), 1, 1))
    (v : Value) (xs : List UInt8) (hs : a.eval s = v) (hown : Own U w B v xs) (sb : ByteArray) (hx : a.eval x = .string sb) (hsz : xs.length + sb.size ≤ 1048576) (hB : B ≤ w.heap.size)
    (h : ∀ v' w', Hid (Own U w' B v' (xs ++ sb.data.toList)) → w.grownBy w' v.ownBlock → wpList P ops Q rest (a.put o.dst v') w') : wpList P ops Q (o :: rest) a w := by
  obtain ⟨i, hi, hz, hs1, hb1⟩ := info_parts hinfo
  refine Lib.wpList_append_own_string w hgd s x t u ho B U i ht hu hi hz hs1 hb1 v xs.length (bytesV xs) hs hown sb hx (by unfold maxLen; omega) (by omega) hB fun v' w' h1 h2 _ => h v' w' ?_ h2
  show w'.ownsRow B U 1 v' (xs ++ sb.data.toList).length (bytesV (xs ++ sb.data.toList))
  rw [List.length_append, show bytesV (xs ++ sb.data.toList) = bytesV xs ++ bytesV sb.data.toList by simp [bytesV]]
  exact h1
theorem zeroCells_u8 (k : Nat) : Builtin.zeroCells (Value.int IntKind.u8 0).cells k = (List.replicate k (Value.int .u8 0)).toArray := by
  have e : (Value.int IntKind.u8 0).cells = #[Value.int .u8 0] := rfl
  apply Array.ext'
  rw [e]
  simp [Builtin.zeroCells, Nat.mod_one]
  rw [List.eq_replicate_iff]
  simp
theorem run_zeros_text {P : Program} (w : World) (t tn u ty e : TypeId) (i : TypeInfo) (kn : IntKind) (ht : P.underlying t = some (.slice e)) (htn : P.underlying tn = some (.int kn)) (hu : P.underlying u = some .string) (hi : P.info? e = some i) (hz : i.zero = some (.int .u8 0)) (hs1 : i.size = 1) (hb1 : i.bytes = 1)
    (A : Option Addr) (n c k : Nat) (hk : n + k ≤ 1048576) (sb : ByteArray) (hsb : sb.data.toList = List.replicate k 0) :
    (Builtin.append_ #[t, tn] ty #[.slice A n c, .int .i64 (k : Int)]).run P w = (Builtin.append_ #[t, u] ty #[.slice A n c, .string sb]).run P w := by
  have hw : IntKind.i64.wrap (k : Int) = k := by rw [IntKind.wrap_i64]; omega
  have hneg : ¬ ((k : Int) < 0) := by omega
  have h48 : ¬ (281474976710656 < (k : Int)) := by omega
  have hsz : sb.size = k := by
    have := congrArg List.length hsb
    simpa using this
  have hex : ((sb.extract 0 k).data.map fun b => Value.int .u8 b.toNat) = (List.replicate k (Value.int .u8 0)).toArray := by
    apply Array.ext'
    simp [ByteArray.data_extract, hsb]
  have hfc : Builtin.firstCells 1 k (.string sb) = pure (List.replicate k (Value.int .u8 0)).toArray := by
    simp only [Builtin.firstCells]
    rw [hex]
  generalize hv : (List.replicate k (Value.int .u8 0)).toArray = vs at *
  have hzc : Builtin.zeroCells (Value.int IntKind.u8 0).cells k = vs := by rw [zeroCells_u8, hv]
  by_cases h0 : k = 0
  · subst h0
    have hvs : vs = #[] := by rw [← hv]; rfl
    have hw0 : IntKind.i64.wrap 0 = 0 := rfl
    subst hvs
    by_cases hc : n ≤ c
    · simp [Builtin.append_, run_underlying ht, run_underlying htn, run_underlying hu, sizeOf, typeInfo, hi, hs1, hb1, Builtin.lenOf, asInt, asIntOf, hw0, hsz, hfc, hc]
    · have h48' : ¬ (281474976710656 < Builtin.nextslicecap n c) := by
        have := growslice_fits (need := n) (old := c) (bytes := 1) (by omega) (by omega)
        omega
      have h63 : ¬ (9223372036854775807 < (n : Int)) := by omega
      simp [Builtin.append_, run_underlying ht, run_underlying htn, run_underlying hu, sizeOf, typeInfo, hi, hs1, hb1, Builtin.lenOf, asInt, asIntOf, hw0, hsz, hfc, hc, h48', h63]
  · by_cases hc : n + k ≤ c
    · simp [Builtin.append_, run_underlying ht, run_underlying htn, run_underlying hu, sizeOf, typeInfo, hi, hs1, hb1, Builtin.lenOf, asInt, asIntOf, hw, hneg, h48, hsz, hfc, hc, h0, zeroValue, hz, hzc]
    · have h48' : ¬ (281474976710656 < Builtin.nextslicecap (n + k) c) := by
        have := growslice_fits (need := n + k) (old := c) (bytes := 1) (by omega) (by omega)
        omega
      have h63 : ¬ (9223372036854775807 < (n : Int) + (k : Int)) := by omega
      simp [Builtin.append_, run_underlying ht, run_underlying htn, run_underlying hu, sizeOf, typeInfo, hi, hs1, hb1, Builtin.lenOf, asInt, asIntOf, hw, hneg, h48, hsz, hfc, hc, h0, zeroValue, hz, hzc, h48', h63]
/-- append of so many noughts -/
theorem wpList_append_zeros {P : Program} {w : World} {ops : Array Oper} {rest : List Oper} {o : Oper} {a : Act} {Q : Exit → Act → World → Prop} (hgd : o.guard = none) (s x : Operand) (t tn u : TypeId) {kn : IntKind}
    (ho : o.op = .call { callee := .builtin .append, args := #[s, x], argTypes := #[t, tn] }) (B : Nat) (U : TypeId) (ht : P.underlying t = some (.slice U)) (htn : P.underlying tn = some (.int kn)) (hu : P.underlying u = some .string) (hinfo : (P.info? U).map (fun i => (i.zero, i.size, i.bytes)) = some (some (.int .u8 0), 1, 1))
    (v : Value) (xs : List UInt8) (hs : a.eval s = v) (hown : Own U w B v xs) (k : Nat) (hx : a.eval x = .int .i64 (k : Int)) (hsz : xs.length + k ≤ 1048576) (hB : B ≤ w.heap.size)
    (h : ∀ v' w', Hid (Own U w' B v' (xs ++ List.replicate k 0)) → w.grownBy w' v.ownBlock → wpList P ops Q rest (a.put o.dst v') w') : wpList P ops Q (o :: rest) a w := by
  obtain ⟨i, hi, hz, hs1, hb1⟩ := info_parts hinfo
  obtain ⟨A, c, rfl, -, -⟩ := hown.slice
  obtain ⟨sb, hsb⟩ : ∃ sb : ByteArray, sb.data.toList = List.replicate k 0 := ⟨⟨(List.replicate k 0).toArray⟩, rfl⟩
  have hsl : sb.size = k := by
    have := congrArg List.length hsb
    simpa using this
  obtain ⟨v', w', hr, h2, h3, _⟩ := Lib.run_append_own_string (P := P) w B t u o.type U i ht hu hi hz hs1 hb1 (.slice A xs.length c) xs.length (bytesV xs) hown sb (by unfold maxLen; omega) (by omega) hB
  rw [← run_zeros_text w t tn u o.type U i kn ht htn hu hi hz hs1 hb1 A xs.length c k hsz sb hsb] at hr
  refine Lib.wpList_append_run w hgd s x t tn ho _ _ hs hx v' w' hr (h v' w' ?_ h3)
  have e : Lib.strCells sb = bytesV (List.replicate k 0) := by
    unfold Lib.strCells
    rw [hsb]
    rfl
  rw [e, hsl] at h2
  show w'.ownsRow B U 1 v' (xs ++ List.replicate k 0).length (bytesV (xs ++ List.replicate k 0))
  rw [List.length_append, List.length_replicate, show bytesV (xs ++ List.replicate k 0) = bytesV xs ++ bytesV (List.replicate k 0) by simp [bytesV]]
  exact h2
end Mem
end Go.Proofs.Ytgpbioljldkmaaa

namespace Go.Proofs.Ytgpbioljldkmaaa.Flow
open Go.RowKit Go.Sort

/-- of what was there only the blocks S may have turned -/
structure Into (S : List Nat) (w w' : World) : Prop where
  os : w'.os = w.os
  tape : w'.tape = w.tape
  output : w'.output = w.output
  size : w.heap.size ≤ w'.heap.size
  block : ∀ k, k < w.heap.size → k ∉ S → w'.heap[k]? = w.heap[k]?
theorem Into.refl (S : List Nat) (w : World) : Into S w w := ⟨rfl, rfl, rfl, Nat.le_refl _, fun _ _ _ => rfl⟩
theorem Into.trans {S : List Nat} {a b c : World} (h : Into S a b) (k : Into S b c) : Into S a c :=
  ⟨k.os.trans h.os, k.tape.trans h.tape, k.output.trans h.output, Nat.le_trans h.size k.size, fun i hi hn => (k.block i (Nat.lt_of_lt_of_le hi h.size) hn).trans (h.block i hi hn)⟩
theorem Into.of_below {S : List Nat} {w w' : World} (h : Below w.heap.size w w') : Into S w w' := ⟨h.os, h.tape, h.output, h.size, fun k hk _ => h.block k hk⟩
theorem Into.below {w w' : World} (h : Into [] w w') : Below w.heap.size w w' := ⟨h.os, h.tape, h.output, h.size, fun k hk => h.block k hk (by simp)⟩
theorem Into.mono {S S' : List Nat} {w w' : World} (h : Into S w w') (hs : ∀ k, k ∈ S → k ∈ S') : Into S' w w' := ⟨h.os, h.tape, h.output, h.size, fun k hk hn => h.block k hk fun hh => hn (hs k hh)⟩

structure But where
  d : Nat
  os : Array Obj
  f : Nat → Obj
instance : Inhabited But := ⟨⟨0, #[], fun _ => .cells #[] 0⟩⟩
def but (S : List Nat) (w : World) (p : But) : World := { w with drawn := p.d, heap := (w.heap.mapIdx fun k o => if k ∈ S then p.f k else o) ++ p.os }
theorem into_but (S : List Nat) (w : World) (p : But) : Into S w (but S w p) :=
  ⟨rfl, rfl, rfl, by simp [but], fun k hk hn => by simp [but, Array.getElem?_append, hk, hn]⟩
theorem but_of_into {S : List Nat} {w w' : World} (h : Into S w w') : ∃ p : But, w' = but S w p := by
  refine ⟨⟨w'.drawn, w'.heap.extract w.heap.size w'.heap.size, fun k => w'.heap.getD k (.cells #[] 0)⟩, ?_⟩
  obtain ⟨heap', tape', drawn', os', output'⟩ := w'
  have e1 : os' = w.os := h.os
  have e2 : tape' = w.tape := h.tape
  have e3 : output' = w.output := h.output
  have hs : w.heap.size ≤ heap'.size := h.size
  have hb : ∀ k, k < w.heap.size → k ∉ S → heap'[k]? = w.heap[k]? := h.block
  subst e1 e2 e3
  simp only [but]
  congr 1
  apply Array.ext_getElem?
  intro k
  by_cases hk : k < w.heap.size
  · rw [Array.getElem?_append_left (by simpa using hk)]
    by_cases hn : k ∈ S
    · have : k < heap'.size := by omega
      simp [hk, hn, this]
    · rw [hb k hk hn]; simp [hk, hn]
  · rw [Array.getElem?_append_right (by simpa using hk), Array.getElem?_extract]
    simp only [Array.size_mapIdx]
    by_cases hk2 : k < heap'.size
    · rw [if_pos (by omega)]; congr 1; omega
    · rw [if_neg (by omega), Array.getElem?_eq_none (by omega)]

theorem lt_of_cell {w : World} {a : Addr} {v : Value} (h : w.cell? a = some v) : a.block < w.heap.size := by
  rcases Nat.lt_or_ge a.block w.heap.size with h' | h'
  · exact h'
  · simp [World.cell?, Array.getElem?_eq_none h'] at h
theorem Into.cell {S : List Nat} {w w' : World} (h : Into S w w') {a : Addr} {v : Value} (hc : w.cell? a = some v) (hn : a.block ∉ S) : w'.cell? a = some v :=
  (World.cell?_of_block (w := w) (h.block a.block (lt_of_cell hc) hn)).trans hc

section
variable {P : Program} {ops : Array Oper} {md : Region.Mode} {S : List Nat}

def Kept (w w' : World) : Prop := Below w.heap.size w w'
theorem Kept.trans {a b c : World} (h : Kept a b) (k : Kept b c) : Kept a c := Below.trans h (Below.mono k h.size)
theorem Kept.into {a b : World} (h : Kept a b) : Into S a b := Into.of_below h

def upon (P : Program) (w : World) (v : Value) : Result Next → Prop
  | .ok (.value u) w' => w' = w ∧ u = v
  | .ok .skip w' => w' = w ∧ v = undef
  | .ok (.enter f args) w' => w' = w ∧ Calls P f args w (fun e w'' => e = .returned v ∧ Kept w w'')
  | _ => False
def calmAt (P : Program) (o : Oper) (a : Act) (w : World) (v : Value) : Prop := upon P w v ((execOp a.eval o).run P w)
/-- one value, in every world that has grown out of the base, whatever the blocks S hold -/
def calm (P : Program) (S : List Nat) (w0 : World) (o : Oper) (a : Act) (next : Act → Prop) : Prop := ∃ v, (∀ p : But, calmAt P o a (but S w0 p) v) ∧ next (a.put o.dst v)

def evUpon (P : Program) (S : List Nat) (V : Value → World → Prop) (w : World) : Result Next → Prop
  | .ok (.value u) w' => V u w' ∧ Into S w w'
  | .ok .skip w' => V undef w' ∧ Into S w w'
  | .ok (.enter f args) w' => w' = w ∧ Calls P f args w (fun e w'' => ∃ v, e = .returned v ∧ V v w'' ∧ Into S w w'')
  | _ => False
def evAt (P : Program) (S : List Nat) (o : Oper) (a : Act) (w : World) (V : Value → World → Prop) : Prop := evUpon P S V w ((execOp a.eval o).run P w)

/-- the walk: what is read (0), what writes or makes (1), what asks no world (2); E: what is asked at its end -/
def walk (P : Program) (ops : Array Oper) (S : List Nat) (E : World → Act → Prop) : List (Oper × Nat) → World → Act → Prop
  | [], w, a => E w a
  | (o, 0) :: r, w, a => if Region.wanted o (yielded ops a.tmps) then calm P S w o a (walk P ops S E r w) else walk P ops S E r w (a.put o.dst undef)
  | (o, 1) :: r, w, a => if Region.wanted o (yielded ops a.tmps) then ∃ V : Value → World → Prop, (∀ W, Kept w W → evAt P S o a W V) ∧ ∀ v w1, V v w1 → Into S w w1 → walk P ops S E r w1 (a.put o.dst v)
      else walk P ops S E r w (a.put o.dst undef)
  | (o, _ + 2) :: r, w, a => ∃ v, Yields P ops o v a ∧ walk P ops S E r w (a.put o.dst v)
theorem walk_nil {E : World → Act → Prop} {a : Act} {w : World} (h : E w a) : walk P ops S E [] w a := h
theorem walk_step {E : World → Act → Prop} {a : Act} {w : World} {o : Oper} {rest : List (Oper × Nat)}
    (h : ∀ K : Act → Prop, (∀ a, walk P ops S E rest w a → K a) → if Region.wanted o (yielded ops a.tmps) then calm P S w o a K else K (a.put o.dst undef)) : walk P ops S E ((o, 0) :: rest) w a :=
  h _ (fun _ h => h)
theorem walk_event {E : World → Act → Prop} {a : Act} {w : World} {o : Oper} {rest : List (Oper × Nat)} (hg : o.guard = none) (V : Value → World → Prop)
    (h1 : ∀ W, Kept w W → evAt P S o a W V) (h2 : ∀ v w1, V v w1 → Into S w w1 → walk P ops S E rest w1 (a.put o.dst v)) : walk P ops S E ((o, 1) :: rest) w a := by
  unfold walk
  rw [if_pos (by simp [Region.wanted, hg])]
  exact ⟨V, h1, h2⟩
theorem walk_clear {E : World → Act → Prop} {a : Act} {w : World} {o : Oper} {rest : List (Oper × Nat)} (hg : o.guard = none) (v : Value)
    (h1 : ∀ W, (execOp a.eval o).run P W = .ok (.value v) W) (h2 : walk P ops S E rest w (a.put o.dst v)) : walk P ops S E ((o, 2) :: rest) w a :=
  ⟨v, .inl ⟨by simp [Region.wanted, hg], h1⟩, h2⟩

def cOp (P : Program) (ops : Array Oper) (S : List Nat) (w0 : World) (o : Oper) (K : Act → Prop) (a : Act) : Prop :=
  if Region.wanted o (yielded ops a.tmps) then calm P S w0 o a K else K (a.put o.dst undef)
def Y (P : Program) (ops : Array Oper) (S : List Nat) (w0 : World) (o : Oper) (v : Value) (a : Act) : Prop :=
  (Region.wanted o (yielded ops a.tmps) = true ∧ ∀ p : But, calmAt P o a (but S w0 p) v) ∨ (Region.wanted o (yielded ops a.tmps) = false ∧ v = undef)
theorem Y.cOp {w0 : World} {o : Oper} {v : Value} {a : Act} (hy : Y P ops S w0 o v a) {K : Act → Prop} (h : K (a.put o.dst v)) : cOp P ops S w0 o K a := by
  unfold Flow.cOp
  rcases hy with ⟨hw, hv⟩ | ⟨hw, rfl⟩
  · rw [if_pos hw]; exact ⟨v, hv, h⟩
  · rw [if_neg (by rw [hw]; exact Bool.false_ne_true)]; exact h
theorem Y.put {w0 : World} {o oj : Oper} {v u : Value} {a : Act} (hs : ∀ cs b, o.op ≠ .select cs b) (h3 : ∀ d, oj.dst = some d → d ∉ o.looksAt ops) (hy : Y P ops S w0 o v a) : Y P ops S w0 o v (a.put oj.dst u) := by
  unfold Y calmAt at *
  rw [execOp_put o hs a oj.dst u h3, wanted_put o a oj.dst u h3]
  exact hy

theorem or_map {p q r : Prop} (h : p ∨ q) (f : q → r) : p ∨ r := by
  rcases h with h | h
  · exact .inl h
  · exact .inr (f h)

/-- what holds of the bases, and of the block that was laid, in the world at hand -/
structure Inv (S : List Nat) (n0 : Nat) (obj : Obj) (bs : List World) (g : Option Nat) (W : World) : Prop where
  all : ∀ w, w ∈ bs → Into S w W
  last : ∀ w, bs.getLast? = some w → Kept w W
  laid : ∀ b, g = some b → n0 ≤ b ∧ b ∉ S ∧ W.heap[b]? = some obj
  size : n0 ≤ W.heap.size
theorem block_lt {W : World} {b : Nat} {obj : Obj} (h : W.heap[b]? = some obj) : b < W.heap.size := (Array.getElem?_eq_some_iff.1 h).1
section
variable {n0 : Nat} {obj : Obj} {bs : List World} {g : Option Nat} {W W' : World}
theorem Inv.keep (h : Inv S n0 obj bs g W) (hk : Kept W W') : Inv S n0 obj bs g W' :=
  ⟨fun w hw => (h.all w hw).trans (Into.of_below hk), fun w hw => (h.last w hw).trans hk, fun b hb => by
    obtain ⟨h1, h2, h3⟩ := h.laid b hb
    exact ⟨h1, h2, (hk.block b (block_lt h3)).trans h3⟩, Nat.le_trans h.size hk.size⟩
theorem Inv.event (h : Inv S n0 obj bs g W) (hk : Into S W W') : Inv S n0 obj (bs ++ [W']) g W' :=
  ⟨fun w hw => by
    rcases List.mem_append.1 hw with h1 | h1
    · exact (h.all w h1).trans hk
    · obtain rfl : w = W' := by simpa using h1
      exact Into.refl _ _, fun w hw => by
    obtain rfl : w = W' := by simpa using hw.symm
    exact Below.refl _ _, fun b hb => by
    obtain ⟨h1, h2, h3⟩ := h.laid b hb
    exact ⟨h1, h2, (hk.block b (block_lt h3) h2).trans h3⟩, Nat.le_trans h.size hk.size⟩
theorem Inv.again {w : World} (h : Inv S n0 obj bs g W) (hw : bs.getLast? = some w) : Inv S n0 obj (bs ++ [w]) g W :=
  ⟨fun w' hw' => by
    rcases List.mem_append.1 hw' with h1 | h1
    · exact h.all w' h1
    · obtain rfl : w' = w := by simpa using h1
      exact (h.last _ hw).into, fun w' hw' => by
    obtain rfl : w' = w := by simpa using hw'.symm
    exact h.last _ hw, h.laid, h.size⟩
end



theorem getD_either {listed : Array Bool} {i : Nat} (h : listed.getD i true = false) : listed.getD i false = false := by
  rcases Nat.lt_or_ge i listed.size with h' | h'
  · simp [h'] at h ⊢; exact h
  · simp [Array.getElem?_eq_none h'] at h


/-- each operation from m on waits for every one below m but those that ask no world -/
def sinkB (md : Region.Mode) (ops : Array Oper) (ps : List Nat) (m : Nat) : Bool :=
  (List.range ops.size).all fun t => decide (t < m) || (List.range m).all fun i => ps.contains i || Region.waitsFor md ops t i
/-- an event's turn: it alone is ready; or it and the one that lays a block, which may come ahead of it -/
def turnB (md : Region.Mode) (ops : Array Oper) (al : Option Nat) (i : Nat) (listed : Array Bool) : Bool :=
  decide (Region.ready md ops listed = [i]) || (match al, ops[i]? with
    | some x, some oi => (match ops[x]? with
      | some ox => x != i && (Region.ready md ops listed).contains i && (Region.ready md ops listed).contains x && (Region.ready md ops listed).all (fun j => j == i || j == x) && decide (Region.ready md ops (listed.setIfInBounds x true) = [i]) && ox.apart ops oi
      | none => false)
    | _, _ => false)
def planB (md : Region.Mode) (ops : Array Oper) (ev : Nat → Bool) (ph : Nat → Nat) (al : Option Nat) (m : Nat) : List Nat → Nat → Array Bool → Bool
  | [], _, listed => (match al with
    | none => Region.seqB md ops (ops.size - m) m listed
    | some x => decide (Region.ready md ops listed = [x]) && decide (x < m) && Region.seqB md ops (ops.size - m) m (listed.setIfInBounds x true))
  | i :: r, k, listed => decide (i < m) && decide (al ≠ some i) && (if ev i then turnB md ops al i listed else (Region.ready md ops listed).contains i && Region.free md ops listed i && decide (ph i = k)) &&
      planB md ops ev ph al m r (if ev i then k + 1 else k) (listed.setIfInBounds i true)

theorem waits {m i : Nat} {ps : List Nat} {listed : Array Bool} (hs : sinkB md ops ps m = true) (hp : ps.contains i = false) (hi : i < m) (hun : listed.getD i true = false) {j : Nat} (hj : j ∈ Region.ready md ops listed) : j < m := by
  rcases Nat.lt_or_ge j m with h | h
  · exact h
  · exfalso
    obtain ⟨_, oj, hoj, hall⟩ := mem_ready.1 hj
    have hjs : j < ops.size := (Array.getElem?_eq_some_iff.1 hoj).1
    have h1 := List.all_eq_true.1 hs j (List.mem_range.2 hjs)
    simp only [Bool.or_eq_true, decide_eq_true_eq] at h1
    rcases h1 with h1 | h1
    · omega
    · have h2 := List.all_eq_true.1 h1 i (List.mem_range.2 hi)
      rw [hp, Bool.false_or] at h2
      obtain ⟨o', ho', e, he, hb, hon⟩ := Region.waitsFor_spec h2
      obtain rfl : o' = oj := Option.some.inj (ho'.symm.trans hoj)
      have := hall e he hb
      rw [hon, getD_either hun] at this
      cases this

def kindOf (es ps : List Nat) (i : Nat) : Nat := if es.contains i then 1 else if ps.contains i then 2 else 0
def pick (l : List Oper) (es ps : List Nat) : List Nat → List (Oper × Nat)
  | [] => []
  | i :: r => (match l[i]? with | some o => [(o, kindOf es ps i)] | none => []) ++ pick l es ps r




/-- what is asked of a region's normal end alone -/
def Nrm (Q : Exit → Act → World → Prop) : Exit → Act → World → Prop
  | .normal, a, w => Q .normal a w
  | _, _, _ => False
@[go_sem] theorem Nrm_normal (Q : Exit → Act → World → Prop) (a : Act) (w : World) : Nrm Q .normal a w = Q .normal a w := rfl
theorem Nrm_le (Q : Exit → Act → World → Prop) : ∀ e a w, Nrm Q e a w → Q e a w := fun e a w h => by
  cases e <;> first | exact h | exact absurd h (fun h => h)





end
attribute [go_sem] calm calmAt upon evAt evUpon
end Go.Proofs.Ytgpbioljldkmaaa.Flow

namespace Go.Proofs.Ytgpbioljldkmaaa.Mem
open Go.RowKit

/-- the slice of block g from its front on reads as vs -/
def Ow (U : TypeId) (w : World) (g cap : Nat) (vs : List Value) : Prop := w.ownsRow g U 1 (.slice (some ⟨g, 0, none⟩) vs.length cap) vs.length vs
section
variable {U : TypeId} {w w' : World} {g cap : Nat} {vs : List Value}
theorem ow_of {B n : Nat} (h : w.ownsRow B U 1 (.slice (some ⟨g, 0, none⟩) n cap) n vs) : Ow U w g cap vs ∧ B ≤ g ∧ vs.length = n := by
  obtain ⟨h1, h2⟩ := h
  have hn : vs.length = n := by omega
  subst hn
  rcases h2 with ⟨h, _⟩ | ⟨g', cap', cur, he, hB, hr⟩
  · cases h
  · obtain ⟨rfl, rfl⟩ : g = g' ∧ cap = cap' := by simpa using he
    exact ⟨⟨h1, .inr ⟨g, cap, cur, rfl, Nat.le_refl _, hr⟩⟩, hB, rfl⟩
theorem Ow.lt (h : Ow U w g cap vs) : g < w.heap.size := by
  obtain ⟨_, h2⟩ := h
  rcases h2 with ⟨h, _⟩ | ⟨g', cap', cur, he, _, hh, _⟩
  · cases h
  · obtain ⟨rfl, _⟩ : g = g' ∧ cap = cap' := by simpa using he
    exact (Array.getElem?_eq_some_iff.1 hh).1
theorem Ow.room (h : Ow U w g cap vs) : vs.length ≤ cap := by
  obtain ⟨_, h2⟩ := h
  rcases h2 with ⟨h, _⟩ | ⟨g', cap', cur, he, _, _, hle, _⟩
  · cases h
  · obtain ⟨_, rfl⟩ : g = g' ∧ cap = cap' := by simpa using he
    exact hle
theorem Ow.cell (h : Ow U w g cap vs) {i : Nat} (hi : i < vs.length) : w.cell? ⟨g, i, none⟩ = some vs[i] := by
  rw [World.ownsRow.cellAt h i (by omega)]; simp [hi]
theorem Ow.free (h : Ow U w g cap vs) (i : Nat) : w.frozen? ⟨g, i, none⟩ = false := World.ownsRow.frozenAt h i
theorem Ow.keep (h : Ow U w g cap vs) (hk : w'.heap[g]? = w.heap[g]?) : Ow U w' g cap vs := by
  obtain ⟨h1, h2⟩ := h
  refine ⟨h1, ?_⟩
  rcases h2 with h | ⟨g', cap', cur, he, hB, hh, hr⟩
  · exact .inl h
  · obtain ⟨rfl, rfl⟩ : g = g' ∧ cap = cap' := by simpa using he
    exact .inr ⟨g, cap, cur, rfl, hB, hk.trans hh, hr⟩
theorem Ow.below {B : Nat} (h : Ow U w g cap vs) (hb : Below B w w') (hg : g < B) : Ow U w' g cap vs := h.keep (hb.block g hg)
theorem Ow.kept (h : Ow U w g cap vs) (hb : Below w.heap.size w w') : Ow U w' g cap vs := h.keep (hb.block g h.lt)
theorem Ow.into {S : List Nat} (h : Ow U w g cap vs) (hb : Flow.Into S w w') (hn : g ∉ S) : Ow U w' g cap vs := h.keep (hb.block g h.lt hn)
theorem Ow.set (h : Ow U w g cap vs) (i : Nat) (u : Value) : Ow U (w.setCell ⟨g, i, none⟩ u) g cap (vs.set i u) ∧ Flow.Into [g] w (w.setCell ⟨g, i, none⟩ u) := by
  refine ⟨?_, ⟨rfl, rfl, rfl, by simp [World.setCell], fun k _ hn => Below.heap_setCell _ _ _ _ (by simpa using hn)⟩⟩
  have := (World.ownsRow.stored h i u).1
  unfold Ow
  rw [List.length_set]
  exact this
end



end Go.Proofs.Ytgpbioljldkmaaa.Mem

namespace Go.Proofs.Ytgpbioljldkmaaa.Mem
open Go.RowKit

/-- a slice of the call's own (its row lies from block B on) that reads as the values vs -/
def VO (U : TypeId) (w : World) (B : Nat) (A : Option Addr) (c : Nat) (vs : List Value) : Prop := w.ownsRow B U 1 (.slice A vs.length c) vs.length vs
section
variable {U : TypeId} {w w' : World} {B c : Nat} {A : Option Addr} {vs : List Value}
theorem VO.nil (U : TypeId) (w : World) (B : Nat) : VO U w B none 0 [] := World.ownsRow_nil w B U 1
theorem VO.at_ (h : VO U w B A c vs) : ∀ a, A = some a → B ≤ a.block ∧ a.block < w.heap.size := by
  obtain ⟨_, h2⟩ := h
  rintro a rfl
  rcases h2 with ⟨h', _⟩ | ⟨g, cap, cur, he, hB, hh, _⟩
  · cases h'
  · obtain ⟨rfl, _⟩ : a = ⟨g, 0, none⟩ ∧ c = cap := by simpa using he
    exact ⟨hB, (Array.getElem?_eq_some_iff.1 hh).1⟩
theorem VO.keep (h : VO U w B A c vs) (hk : ∀ a, A = some a → w'.heap[a.block]? = w.heap[a.block]?) : VO U w' B A c vs := by
  obtain ⟨h1, h2⟩ := h
  refine ⟨h1, ?_⟩
  rcases h2 with h | ⟨g, cap, cur, he, hB, hh, hr⟩
  · exact .inl h
  · obtain ⟨rfl, rfl⟩ : A = some ⟨g, 0, none⟩ ∧ c = cap := by simpa using he
    exact .inr ⟨g, c, cur, rfl, hB, (hk _ rfl).trans hh, hr⟩
theorem VO.kept (h : VO U w B A c vs) (hb : Below w.heap.size w w') : VO U w' B A c vs := h.keep fun a ha => hb.block _ (h.at_ a ha).2
theorem VO.into {S : List Nat} (h : VO U w B A c vs) (hb : Flow.Into S w w') (hn : ∀ a, A = some a → a.block ∉ S) : VO U w' B A c vs := h.keep fun a ha => hb.block _ (h.at_ a ha).2 (hn a ha)
theorem VO.ow (h : VO U w B A c vs) (h0 : 0 < vs.length) : ∃ g, A = some ⟨g, 0, none⟩ ∧ B ≤ g ∧ Ow U w g c vs := by
  have h' := h
  obtain ⟨_, h2⟩ := h'
  rcases h2 with ⟨_, h'⟩ | ⟨g, cap, cur, he, hB, _⟩
  · omega
  · obtain ⟨rfl, rfl⟩ : A = some ⟨g, 0, none⟩ ∧ c = cap := by simpa using he
    exact ⟨g, rfl, hB, (ow_of h).1⟩
end
/-- what an append of one value leaves -/
structure Appd (U : TypeId) (B : Nat) (w w' : World) (A A' : Option Addr) (c' : Nat) (vs : List Value) : Prop where
  vo : VO U w' B A' c' vs
  block : ∀ k, k < w.heap.size → (∀ a, A = some a → a.block ≠ k) → w'.heap[k]? = w.heap[k]?
  below : Below B w w'
  row : ∀ a', A' = some a' → (∃ a, A = some a ∧ a'.block = a.block) ∨ a'.block = w.heap.size
/-! ### made, and read -/
section
variable {U : TypeId} {w w' : World} {B c : Nat} {A : Option Addr} {vs : List Value}
theorem VO.mono {B' : Nat} (h : VO U w B A c vs) (hb : B' ≤ B) : VO U w B' A c vs := by
  obtain ⟨h1, h2⟩ := h
  refine ⟨h1, ?_⟩
  rcases h2 with h | ⟨g, cap, cur, he, hB, hr⟩
  · exact .inl h
  · exact .inr ⟨g, cap, cur, he, Nat.le_trans hb hB, hr⟩
theorem VO.cell (h : VO U w B A c vs) (h0 : 0 < vs.length) : ∃ g, A = some ⟨g, 0, none⟩ ∧ ∀ i (hi : i < vs.length), w.cell? ⟨g, i, none⟩ = some vs[i] := by
  obtain ⟨g, rfl, _, ho⟩ := h.ow h0
  exact ⟨g, rfl, fun i hi => ho.cell hi⟩
end
theorem VO.none_ (U : TypeId) (w : World) (B : Nat) (hB : B ≤ w.heap.size) : VO U (w.alloc (.cells #[] U)) B (some ⟨w.heap.size, 0, none⟩) 0 [] :=
  World.ownsRow_lit (base := B) (e := U) (size := 1) w #[] 0 hB (Nat.zero_le _) (by simp)
theorem VO.made (U : TypeId) (w : World) (B : Nat) (z : Value) (n : Nat) (hB : B ≤ w.heap.size) (hn : n ≤ 1048576) : VO U (w.alloc (.cells (List.replicate n z).toArray U)) B (some ⟨w.heap.size, 0, none⟩) n [] :=
  World.ownsRow_made w _ n hB (by unfold maxLen; omega) (by simp)
/-- a new slice with room for n values, of which none is there -/
theorem run_make_empty {P : Program} {t e : TypeId} {z : Value} {by_ : Nat} (ht : P.underlying t = some (.slice e)) (hinfo : (P.info? e).map (fun i => (i.zero, i.size, i.bytes)) = some (some z, 1, by_)) (hzc : z.cells = #[z]) (hby : by_ ≤ 24) (n : Nat) (hn : n ≤ 1048576) (w : World) :
    (Instr.makeSlice t (.int .i64 0) (.int .i64 (n : Int))).run P w = .ok (.slice (some ⟨w.heap.size, 0, none⟩) 0 n) (w.alloc (.cells (List.replicate n z).toArray e)) := by
  obtain ⟨i, hi, hz, hs, hb⟩ := info_parts hinfo
  have hr := run_make (P := P) w t e i z ht hi hz .i64 .i64 0 n (by omega) (by omega) (by rw [hb]; have : (by_ : Int) * (n : Int) ≤ 24 * 1048576 := by have := Nat.mul_le_mul hby hn; omega
                                                                                          omega) (by omega)
  rw [hr, hs]
  simp only [Int.toNat_natCast, Nat.mul_one, Int.toNat_zero]
  rw [hzc, ← toList_madeCells_one z n]
end Go.Proofs.Ytgpbioljldkmaaa.Mem

namespace Go.Proofs.Ytgpbioljldkmaaa
open Go.RowKit
namespace Mem

/-- how a struct lies: its type, its cells -/
structure Kind (α : Type) where
  T : TypeId
  k : Nat
  cs : α → List Value
  len : ∀ x, (cs x).length = k
  one : ∀ x u, u ∈ cs x → u.oneCell' = true
section
variable {α : Type} (K : Kind α)
theorem Kind.at_ {L : List α} {i : Nat} {x : α} (h : L[i]? = some x) {j : Nat} (hj : j < K.k) : (L.flatMap K.cs)[i * K.k + j]? = (K.cs x)[j]? := by
  induction L generalizing i with
  | nil => simp at h
  | cons y L ih =>
    rw [List.flatMap_cons]
    cases i with
    | zero =>
      obtain rfl : y = x := by simpa using h
      rw [Nat.zero_mul, Nat.zero_add, List.getElem?_append_left (by rw [K.len]; exact hj)]
    | succ i =>
      have e : (i + 1) * K.k + j = K.k + (i * K.k + j) := by rw [Nat.succ_mul]; omega
      rw [List.getElem?_append_right (by rw [K.len, e]; omega), K.len, e, Nat.add_sub_cancel_left]
      exact ih (by simpa using h)
/-- a slice that reads as L -/
def RdK (w : World) (A : Option Addr) (L : List α) : Prop := 0 < L.length → ∃ b o, A = some ⟨b, o, none⟩ ∧ b < w.heap.size ∧ ∀ (i : Nat) (x : α), L[i]? = some x → ∀ (j : Nat) (u : Value), (K.cs x)[j]? = some u → w.cell? ⟨b, o + (i * K.k + j), none⟩ = some u
/-- a slice of the call's own -/
def VK (w : World) (B : Nat) (A : Option Addr) (c : Nat) (L : List α) : Prop := w.ownsRow B K.T K.k (.slice A L.length c) L.length (L.flatMap K.cs)
variable {K} {w w' : World} {B c : Nat} {A : Option Addr} {L : List α}
theorem RdK.keep (h : RdK K w A L) (hs : w.heap.size ≤ w'.heap.size) (hk : ∀ a, A = some a → w'.heap[a.block]? = w.heap[a.block]?) : RdK K w' A L := fun h0 => by
  obtain ⟨b, o, rfl, hl, hc⟩ := h h0
  refine ⟨b, o, rfl, Nat.lt_of_lt_of_le hl hs, fun i x hx j u hu => ?_⟩
  rw [← hc i x hx j u hu]
  exact World.cell?_of_block (w := w) (a := ⟨b, o + (i * K.k + j), none⟩) (hk ⟨b, o, none⟩ rfl)
theorem RdK.below {B : Nat} (h : RdK K w A L) (hb : Below B w w') (hB : w.heap.size ≤ B) : RdK K w' A L := fun h0 => by
  obtain ⟨b, o, rfl, hl, hc⟩ := h h0
  refine ⟨b, o, rfl, Nat.lt_of_lt_of_le hl hb.size, fun i x hx j u hu => ?_⟩
  rw [← hc i x hx j u hu]
  exact World.cell?_of_block (w := w) (a := ⟨b, o + (i * K.k + j), none⟩) (hb.block b (by omega))
theorem RdK.kept (h : RdK K w A L) (hb : Below w.heap.size w w') : RdK K w' A L := h.below hb (Nat.le_refl _)
theorem RdK.nil (w : World) (A : Option Addr) : RdK K w A [] := fun h => absurd h (by simp)
/-- its front -/
theorem RdK.take (h : RdK K w A L) (n : Nat) : RdK K w A (L.take n) := fun h0 => by
  obtain ⟨b, o, e, hl, hc⟩ := h (by rw [List.length_take] at h0; omega)
  refine ⟨b, o, e, hl, fun i x hx => hc i x ?_⟩
  rw [List.getElem?_take] at hx
  split at hx
  · exact hx
  · cases hx
/-- what is behind its first n -/
theorem RdK.drop (h : RdK K w A L) {n : Nat} (hn : n < L.length) : ∃ b o, A = some ⟨b, o, none⟩ ∧ RdK K w (some ⟨b, o + n * K.k, none⟩) (L.drop n) := by
  obtain ⟨b, o, e, hl, hc⟩ := h (by omega)
  refine ⟨b, o, e, fun _ => ⟨b, o + n * K.k, rfl, hl, fun i x hx j u hu => ?_⟩⟩
  rw [List.getElem?_drop] at hx
  have := hc (n + i) x hx j u hu
  rw [Nat.add_mul] at this
  rw [show o + n * K.k + (i * K.k + j) = o + (n * K.k + i * K.k + j) by omega]
  exact this
theorem VK.nil (w : World) (B : Nat) : VK K w B none 0 [] := World.ownsRow_nil w B _ _
theorem VK.at_ (h : VK K w B A c L) : ∀ a, A = some a → B ≤ a.block ∧ a.block < w.heap.size := by
  obtain ⟨_, h2⟩ := h
  rintro a rfl
  rcases h2 with ⟨h', _⟩ | ⟨g, cap, cur, he, hB, hh, _⟩
  · cases h'
  · obtain ⟨rfl, _⟩ : a = ⟨g, 0, none⟩ ∧ c = cap := by simpa using he
    exact ⟨hB, (Array.getElem?_eq_some_iff.1 hh).1⟩
theorem VK.keep (h : VK K w B A c L) (hk : ∀ a, A = some a → w'.heap[a.block]? = w.heap[a.block]?) : VK K w' B A c L := by
  obtain ⟨h1, h2⟩ := h
  refine ⟨h1, ?_⟩
  rcases h2 with h | ⟨g, cap, cur, he, hB, hh, hr⟩
  · exact .inl h
  · obtain ⟨rfl, rfl⟩ : A = some ⟨g, 0, none⟩ ∧ c = cap := by simpa using he
    exact .inr ⟨g, c, cur, rfl, hB, (hk _ rfl).trans hh, hr⟩
theorem VK.kept (h : VK K w B A c L) (hb : Below w.heap.size w w') : VK K w' B A c L := h.keep fun a ha => hb.block _ (h.at_ a ha).2
theorem VK.into {T : List Nat} (h : VK K w B A c L) (hi : Flow.Into T w w') (hn : ∀ a, A = some a → a.block ∉ T) : VK K w' B A c L := h.keep fun a ha => hi.block _ (h.at_ a ha).2 (hn a ha)
theorem VK.mono {B' : Nat} (h : VK K w B A c L) (hB' : B' ≤ B) : VK K w B' A c L := by
  obtain ⟨h1, h2⟩ := h
  refine ⟨h1, ?_⟩
  rcases h2 with h | ⟨g, cap, cur, he, hB, hr⟩
  · exact .inl h
  · exact .inr ⟨g, cap, cur, he, Nat.le_trans hB' hB, hr⟩
theorem VK.lit (w : World) (B : Nat) (hB : B ≤ w.heap.size) : VK K (w.alloc (.cells #[] K.T)) B (some ⟨w.heap.size, 0, none⟩) 0 [] := by
  have := World.ownsRow_lit (base := B) (e := K.T) (size := K.k) w #[] 0 hB (Nat.zero_le _) (by simp)
  simpa [VK] using this
theorem VK.cell (h : VK K w B A c L) {i : Nat} {x : α} (hx : L[i]? = some x) : ∃ g, A = some ⟨g, 0, none⟩ ∧ ∀ (j : Nat) (u : Value), (K.cs x)[j]? = some u → w.cell? ⟨g, i * K.k + j, none⟩ = some u := by
  have hi : i < L.length := (List.getElem?_eq_some_iff.1 hx).1
  have h' := h
  obtain ⟨_, h2⟩ := h'
  rcases h2 with ⟨_, h'⟩ | ⟨g, cap, cur, he, _⟩
  · omega
  · obtain ⟨rfl, rfl⟩ : A = some ⟨g, 0, none⟩ ∧ c = cap := by simpa using he
    refine ⟨g, rfl, fun j u hu => ?_⟩
    have hj : j < K.k := by rw [← K.len x]; exact (List.getElem?_eq_some_iff.1 hu).1
    have hlt : i * K.k + j < L.length * K.k := by
      have := Nat.mul_le_mul_right K.k (show i + 1 ≤ L.length by omega)
      rw [Nat.succ_mul] at this
      omega
    rw [World.ownsRow.cellAt h (i * K.k + j) hlt, K.at_ hx hj]
    exact hu
theorem VK.rd (h : VK K w B A c L) : RdK K w A L := fun h0 => by
  obtain ⟨g, rfl, _⟩ := h.cell (i := 0) (List.getElem?_eq_getElem h0)
  refine ⟨g, 0, rfl, (h.at_ _ rfl).2, fun i x hx j u hu => ?_⟩
  obtain ⟨g', e, hc⟩ := h.cell hx
  obtain rfl : g = g' := by simpa using e
  rw [Nat.zero_add]
  exact hc j u hu
/-- what an append of one struct leaves -/
structure AppdK (K : Kind α) (B : Nat) (w w' : World) (A A' : Option Addr) (c' : Nat) (L : List α) : Prop where
  vo : VK K w' B A' c' L
  below : Below B w w'
  block : ∀ k, k < w.heap.size → (∀ a, A = some a → a.block ≠ k) → w'.heap[k]? = w.heap[k]?
  row : ∀ a', A' = some a' → (∃ a, A = some a ∧ a'.block = a.block) ∨ a'.block = w.heap.size
end
section
variable {α : Type} {K : Kind α} {P : Program}
theorem run_appendK {S : TypeId} {z : Value} {by_ : Nat} (hS : P.underlying S = some (.slice K.T)) (hinfo : (P.info? K.T).map (fun i => (i.zero, i.size, i.bytes)) = some (some z, K.k, by_)) (hz : z.cells.size = K.k) (hby : by_ ≤ 64) (ty : TypeId) {w : World} {B : Nat} {A : Option Addr} {c : Nat} {L : List α} (h : VK K w B A c L) (xb cx : Nat) (x : α) (hx : w.heap[xb]? = some (.cells (K.cs x).toArray K.T (0, 0))) (hn : L.length + 1 ≤ 1048576) (hk : 0 < K.k) (hB : B ≤ w.heap.size) :
    ∃ A' c' w', (Builtin.append_ #[S, S] ty #[.slice A L.length c, .slice (some ⟨xb, 0, none⟩) 1 cx]).run P w = .ok (.slice A' (L.length + 1) c') w' ∧ AppdK K B w w' A A' c' (L ++ [x]) := by
  obtain ⟨i, hi, hz1, hs1, hb1⟩ := info_parts hinfo
  obtain ⟨v', w', hrun, h2, h3, _, h5⟩ := run_append_own_at (P := P) w B S ty K.T i z K.k by_ hS hi hz1 hs1 hb1 hz hk (.slice A L.length c) L.length (L.flatMap K.cs) h ⟨xb, 0, none⟩ 1 cx (K.cs x) (by rw [K.len, Nat.one_mul]) (fun j u hj => by
    have : (⟨xb, 0, none⟩ : Addr).add j = ⟨xb, j, none⟩ := by by_cases h0 : j = 0 <;> simp [Addr.add, h0]
    rw [this]
    simp only [World.cell?, hx]
    simpa using hj) (fun u hu => K.one x u hu) (by unfold maxLen; omega) (Nat.le_trans (Nat.mul_le_mul hn hby) (by decide)) hB
  have hv' : ∃ A' c', v' = .slice A' (L.length + 1) c' := by
    rcases h2.2 with ⟨_, h0⟩ | ⟨g, cap, cur, rfl, _⟩
    · omega
    · exact ⟨_, _, rfl⟩
  obtain ⟨A', c', rfl⟩ := hv'
  refine ⟨A', c', w', hrun, ⟨?_, (Below.refl _ _).grown h3 hB fun k hk => ?_, ?_, ?_⟩⟩
  · unfold VK
    rw [List.length_append, List.flatMap_append]
    simpa using h2
  · rcases A with _ | a
    · cases hk
    · obtain rfl : a.block = k := by simpa [Value.ownBlock] using hk
      exact (h.at_ _ rfl).1
  · intro k hk hne
    refine h3.block k hk ?_
    rcases A with _ | a
    · simp [Value.ownBlock]
    · have := hne a rfl
      simp only [Value.ownBlock, ne_eq, Option.some.injEq]
      exact fun e => this e.symm
  · rintro a' rfl
    rcases h5 with h5 | h5
    · rcases A with _ | a
      · simp [Value.ownBlock] at h5
      · left; exact ⟨a, rfl, by simpa [Value.ownBlock] using h5⟩
    · right; simpa [Value.ownBlock] using h5
/-- the same, as an arm of the walk -/
theorem wpList_appendK {S : TypeId} {z : Value} {by_ : Nat} (hS : P.underlying S = some (.slice K.T)) (hinfo : (P.info? K.T).map (fun i => (i.zero, i.size, i.bytes)) = some (some z, K.k, by_)) (hz : z.cells.size = K.k) (hby : by_ ≤ 64) (hk : 0 < K.k)
    {w : World} {ops : Array Oper} {rest : List Oper} {o : Oper} {a : Act} {Q : Exit → Act → World → Prop} (hgd : o.guard = none) (s x : Operand)
    (ho : o.op = .call { callee := .builtin .append, args := #[s, x], argTypes := #[S, S] })
    (B : Nat) (A : Option Addr) (n c : Nat) (L : List α) (hs : a.eval s = .slice A n c) (hvn : L.length = n) (h : VK K w B A c L) (xb cx : Nat) (y : α) (hx : a.eval x = .slice (some ⟨xb, 0, none⟩) 1 cx) (hu : w.heap[xb]? = some (.cells (K.cs y).toArray K.T (0, 0))) (hn : n + 1 ≤ 1048576) (hB : B ≤ w.heap.size)
    (hh : ∀ A' c' w', Hid (AppdK K B w w' A A' c' (L ++ [y])) → wpList P ops Q rest (a.put o.dst (.slice A' (n + 1) c')) w') : wpList P ops Q (o :: rest) a w := by
  subst hvn
  refine wpList_plain hgd fun C hC => ?_
  obtain ⟨A', c', w', hrun, hd⟩ := run_appendK hS hinfo hz hby o.type h xb cx y hu hn hk hB
  unfold Oper.wp execOp
  simp only [ho, resolve, invoke, builtin, Sem.run_bind, Sem.run_pure, Result.andThen_ok, List.map_toArray, List.map_cons, List.map_nil, hs, hx, hrun]
  exact hC _ _ (hh A' c' w' hd)
end
end Mem
end Go.Proofs.Ytgpbioljldkmaaa
