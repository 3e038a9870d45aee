/-
  Slices of bytes that read as a list; a row of bytes that is known whole. No program.
-/
import Derived.Below
import Derived.Laws.Slices
import Derived.Laws.BytesArg
import Derived.Laws.MakeOwn
import Derived.Laws.CopyOwn
import Derived.Deep.Draws
import Derived.Lib.Hide
import Derived.Maps.AppendAt
import Derived.Laws.OwnMore
import Derived.Deep.AppendLies
import Derived.ProofKit
namespace Go.Proofs.Yteefkhgmcknbaaa.Mem
open Go.RowKit

/-- a byte as a cell -/
def byteV (x : UInt8) : Value := .int .u8 (x.toNat : Int)
def bytesV (l : List UInt8) : List Value := l.map byteV
@[simp] theorem bytesV_length (l : List UInt8) : (bytesV l).length = l.length := by simp [bytesV]

/-- the slice at p reads as the bytes l (nil and empty ones let in) -/
def BL (w : World) (p : Option Addr) (l : List UInt8) : Prop :=
  0 < l.length → ∃ b o, p = some ⟨b, o, none⟩ ∧ ∀ i (h : i < l.length), w.cell? ⟨b, o + i, none⟩ = some (byteV l[i])
theorem BL.nil (w : World) (p : Option Addr) : BL w p [] := fun h => absurd h (by simp)
theorem BL.at_ {w : World} {p : Option Addr} {l : List UInt8} (h : BL w p l) {i : Nat} (hi : i < l.length) : ∃ b o, p = some ⟨b, o, none⟩ ∧ w.cell? ⟨b, o + i, none⟩ = some (.int .u8 (l[i].toNat : Int)) := by
  obtain ⟨b, o, e, hc⟩ := h (by omega)
  exact ⟨b, o, e, hc i hi⟩
theorem BL.lt {w : World} {p : Option Addr} {l : List UInt8} (h : BL w p l) (hl : 0 < l.length) : ∀ a, p = some a → a.block < w.heap.size := by
  rintro a rfl
  obtain ⟨b, o, e, hc⟩ := h hl
  obtain rfl : a = ⟨b, o, none⟩ := by simpa using e
  have h0 := hc 0 hl
  rcases Nat.lt_or_ge b w.heap.size with h' | h'
  · exact h'
  · simp [World.cell?, Array.getElem?_eq_none h'] at h0
theorem BL.keep {w w' : World} {p : Option Addr} {l : List UInt8} (h : BL w p l) (hk : 0 < l.length → ∀ a, p = some a → w'.heap[a.block]? = w.heap[a.block]?) : BL w' p l := fun hl => by
  obtain ⟨b, o, rfl, hc⟩ := h hl
  refine ⟨b, o, rfl, fun i hi => ?_⟩
  rw [← hc i hi]
  exact World.cell?_of_block (w := w) (a := ⟨b, o + i, none⟩) (show w'.heap[b]? = w.heap[b]? from hk hl ⟨b, o, none⟩ rfl)
theorem BL.below {w w' : World} {p : Option Addr} {l : List UInt8} (h : BL w p l) (hb : Below w.heap.size w w') : BL w' p l := h.keep fun hl a ha => hb.block _ (h.lt hl a ha)
theorem BL.grown {w w' : World} {p : Option Addr} {l : List UInt8} {row : Option Nat} (h : BL w p l) (hb : w.grownBy w' row) (hn : 0 < l.length → ∀ a, p = some a → some a.block ≠ row) : BL w' p l :=
  h.keep fun hl a ha => hb.block _ (h.lt hl a ha) (hn hl a ha)
theorem BL.drewN {w : World} {p : Option Addr} {l : List UInt8} (h : BL w p l) (n : Nat) : BL (w.drewN n) p l := h
theorem BL.take {w : World} {p : Option Addr} {l : List UInt8} (h : BL w p l) (k : Nat) : BL w p (l.take k) := fun hl => by
  simp only [List.length_take] at hl
  obtain ⟨b, o, e, hc⟩ := h (by omega)
  refine ⟨b, o, e, fun i hi => ?_⟩
  simp only [List.length_take] at hi
  rw [hc i (by omega), List.getElem_take]

/-- where a slice of so much room lies behind its first k -/
def cutA (A : Option Addr) (c k : Nat) : Option Addr := if c = k then A else A.map (·.add k)
theorem BL.cut {w : World} {p : Option Addr} {l : List UInt8} (h : BL w p l) {k c : Nat} (hc : l.length ≤ c) : BL w (cutA p c k) (l.drop k) := fun hl => by
  simp only [List.length_drop] at hl
  obtain ⟨b, o, rfl, hcell⟩ := h (by omega)
  unfold cutA
  rw [if_neg (by omega)]
  refine ⟨b, o + k, by by_cases hk : k = 0 <;> simp [Addr.add, hk], fun i hi => ?_⟩
  simp only [List.length_drop] at hi
  rw [Nat.add_assoc, hcell (k + i) (by omega), List.getElem_drop]
theorem run_cut {P : Program} {t e : TypeId} {i : TypeInfo} (ht : P.underlying t = some (.slice e)) (hi : P.info? e = some i) (hs : i.size = 1) (A : Option Addr) (n c k : Nat) (hk : k ≤ n) (w : World) :
    (Instr.slice t (.slice A n c) (some (.int .i64 (k : Int))) none none).run P w = .ok (.slice (cutA A c k) (n - k) (c - k)) w := by
  have he : P.elem t = e := by simp [Program.elem, ht]
  rw [run_slice_l w t A n c (by rw [he]; exact ht) .i64 (k : Int) (by omega) (by omega), he]
  simp [sizeOf, typeInfo, hi, hs, sliced, cutA, Result.andThen]
theorem run_upTo {P : Program} {t e : TypeId} {i : TypeInfo} (ht : P.underlying t = some (.slice e)) (hi : P.info? e = some i) (A : Option Addr) (n c k : Nat) (hk : k ≤ c) (w : World) :
    (Instr.slice t (.slice A n c) none (some (.int .i64 (k : Int))) none).run P w = .ok (.slice A k c) w := by
  have he : P.elem t = e := by simp [Program.elem, ht]
  rw [run_slice_h w t A n c (by rw [he]; exact ht) .i64 (k : Int) (by omega) (by omega), he]
  by_cases hc : c = 0
  · simp [sizeOf, typeInfo, hi, sliced, Result.andThen, hc]
  · simp [sizeOf, typeInfo, hi, sliced, Result.andThen, hc, Addr.add]

/-- the text of bytes -/
def strOf (l : List UInt8) : ByteArray := ⟨l.toArray⟩
theorem strOf_toList (l : List UInt8) : (strOf l).data.toList = l := rfl
theorem strOf_size (l : List UInt8) : (strOf l).size = l.length := rfl
theorem run_text {P : Program} {src dst e : TypeId} (hs : P.underlying src = some (.slice e)) (he : P.underlying e = some (.int .u8)) (hd : P.underlying dst = some .string) {w : World} {p : Option Addr} {l : List UInt8} (h : BL w p l) (c : Nat) :
    (convert src dst (.slice p l.length c)).run P w = .ok (.string (strOf l)) w := by
  have hnat : ∀ x : UInt8, UInt8.ofNat ((x.toNat : Int)).toNat = x := fun x => by simp
  by_cases h0 : l.length = 0
  · obtain rfl : l = [] := List.eq_nil_of_length_eq_zero h0
    rw [run_convert_bytes_string w src dst e _ _ c hs he hd]
    cases p with
    | none => simp [Conv.bytesToString, strOf, ByteArray.empty, ByteArray.emptyWithCapacity]; rfl
    | some a =>
      rw [show ([] : List UInt8).length = 0 from rfl, run_bytesToString w a 0 c [] (by simpa using run_loadCells_list (P := P) w a [] (fun j v hj => by simp at hj))]
      simp [strOf, ByteArray.empty, ByteArray.emptyWithCapacity]; rfl
  · obtain ⟨b, o, rfl, hc⟩ := h (by omega)
    have := run_convert_bytes_arg (P := P) w src e hs he b o l.length c (l.map fun x => (x.toNat : Int)) (by simp) (fun i hi => by
      rw [hc i hi]; simp [byteV, hi]) dst hd
    rw [this]
    simp [strOfNums, strOf, Function.comp_def]

theorem run_text_n {P : Program} {src dst e : TypeId} (hs : P.underlying src = some (.slice e)) (he : P.underlying e = some (.int .u8)) (hd : P.underlying dst = some .string) {w : World} {p : Option Addr} {l : List UInt8} (h : BL w p l) {n : Nat} (hn : l.length = n) (c : Nat) :
    (convert src dst (.slice p n c)).run P w = .ok (.string (strOf l)) w := by subst hn; exact run_text hs he hd h c

/-- a block of bytes that is known whole (U: the bytes' type) -/
def Row (U : TypeId) (w : World) (g : Nat) (l : List UInt8) : Prop := w.heap[g]? = some (.cells (bytesV l).toArray U (0, 0))
section
variable {U : TypeId} {w w' : World} {g : Nat} {l : List UInt8}
theorem Row.lt (h : Row U w g l) : g < w.heap.size := (Array.getElem?_eq_some_iff.1 h).1
theorem Row.bl (h : Row U w g l) : BL w (some ⟨g, 0, none⟩) l := fun _ => ⟨g, 0, rfl, fun i hi => by
  unfold Row at h
  simp [World.cell?, h, bytesV, hi]⟩
theorem Row.cell (h : Row U w g l) {i : Nat} (hi : i < l.length) : w.cell? ⟨g, i, none⟩ = some (.int .u8 (l[i].toNat : Int)) := by
  unfold Row at h
  simp [World.cell?, h, bytesV, hi, byteV]
theorem Row.free (h : Row U w g l) (i : Nat) : w.frozen? ⟨g, i, none⟩ = false := by
  unfold Row at h
  simp [World.frozen?, h]
theorem Row.below {B : Nat} (h : Row U w g l) (hb : Below B w w') (hg : g < B) : Row U w' g l := (hb.block g hg).trans h
theorem Row.kept (h : Row U w g l) (hb : Below w.heap.size w w') : Row U w' g l := (hb.block g h.lt).trans h
theorem Row.set (h : Row U w g l) {i : Nat} (hi : i < l.length) (x : UInt8) {z : Int} (hz : z = (x.toNat : Int)) : Row U (w.setCell ⟨g, i, none⟩ (.int .u8 z)) g (l.set i x) := by
  subst hz
  have hb : bytesV (l.set i x) = (bytesV l).set i (byteV x) := by simp [bytesV, List.map_set]
  unfold Row at h ⊢
  rw [hb]
  have : i < (bytesV l).length := by simpa using hi
  simp [World.setCell, Array.getElem?_modify, h, byteV]
theorem Row.drewN (h : Row U w g l) (n : Nat) : Row U (w.drewN n) g l := h
end
theorem row_of_cells {U : TypeId} {w : World} {g : Nat} {cs : Array Value} {l : List UInt8} (h : w.heap[g]? = some (.cells cs U (0, 0))) (e : cs.toList = bytesV l) : Row U w g l := by
  unfold Row; rw [h, ← e]

/-- the bytes of a new block -/
theorem madeCells_bytes {z : Array Value} (hz : z = #[.int .u8 0]) (n : Nat) : (madeCells z n).toList = bytesV (List.replicate n 0) := by
  subst hz
  apply List.ext_getElem
  · simp [madeCells]
  · intro i h1 h2
    simp [madeCells, bytesV, byteV, Nat.mod_one]

theorem bytesV_one (l : List UInt8) : ∀ v ∈ bytesV l, v.oneCell' = true := by
  intro v hv
  obtain ⟨x, _, rfl⟩ := List.mem_map.1 hv
  rfl
theorem splice_front (l L : List UInt8) : splice (bytesV L) 0 (bytesV l) = bytesV (l ++ L.drop l.length) := by
  simp [splice, bytesV]
/-- copy of bytes to the front of a row of the call's own -/
theorem wpList_copy_bytes {P : Program} {w : World} {ops : Array Oper} {rest : List Oper} {o : Oper} {a : Act} {Q : Exit → Act → World → Prop} (hgd : o.guard = none) (d s : Operand) (dT sT : TypeId)
    (ho : o.op = .call { callee := .builtin .copy, args := #[d, s], argTypes := #[dT, sT] }) (U : TypeId) (hu : P.underlying dT = some (.slice U)) (hsz : (P.info? U).map (·.size) = some 1)
    (g n c1 m c2 : Nat) (sp : Option Addr) (hd : a.eval d = .slice (some ⟨g, 0, none⟩) n c1) (hs : a.eval s = .slice sp m c2)
    (L l : List UInt8) (hg : Row U w g L) (hl : l.length = m) (hb : BL w sp l) (hmn : m ≤ n) (hn : n ≤ L.length) (B : Nat) (w0 : World) (hB : Below B w0 w) (hBg : B ≤ g)
    (h : ∀ w', Hid (Row U w' g (l ++ L.drop l.length)) → Below B w0 w' → wpList P ops Q rest (a.put o.dst (goInt m)) w') : wpList P ops Q (o :: rest) a w := by
  subst hl
  have hlen : (bytesV l).length = l.length := by simp
  refine wpList_copy_splice hgd d s dT sT ho U hu hsz (some ⟨g, 0, none⟩) sp n c1 l.length c2 hd hs g 0 (bytesV L) U hg (bytesV l) (by rw [hlen]; exact (Nat.min_eq_left hmn).symm) (fun hp => ⟨rfl, ?_⟩) (by rw [hlen, bytesV_length]; omega) (bytesV_one l) B w0 hB hBg ?_
  · obtain ⟨b, o, rfl, hc⟩ := hb (by simpa using hp)
    refine ⟨_, rfl, fun j v hj => ?_⟩
    have hjl : j < l.length := by
      rcases Nat.lt_or_ge j l.length with h' | h'
      · exact h'
      · rw [List.getElem?_eq_none (by simpa using h')] at hj; cases hj
    have hv : v = byteV l[j] := by simpa [bytesV, hjl] using hj.symm
    rw [hv, ← hc j hjl]
    by_cases h0 : j = 0 <;> simp [Addr.add, h0]
  · intro w' h1 h2
    rw [splice_front, hlen] at *
    exact h w' h1 h2
/-- a slice of the call's own (its row lies from block B on) that reads as the bytes l -/
def Own (U : TypeId) (w : World) (B : Nat) (v : Value) (l : List UInt8) : Prop := w.ownsRow B U 1 v l.length (bytesV l)
theorem Own.slice {U : TypeId} {w : World} {B : Nat} {v : Value} {l : List UInt8} (h : Own U w B v l) : ∃ A c, v = .slice A l.length c ∧ BL w A l ∧ l.length ≤ c := by
  obtain ⟨_, h2⟩ := h
  rcases h2 with ⟨rfl, h0⟩ | ⟨g, cap, cur, rfl, _, hh, hle, _, hsz, htake⟩
  · exact ⟨none, 0, by rw [h0], by rw [List.eq_nil_of_length_eq_zero h0]; exact BL.nil _ _, by omega⟩
  · refine ⟨some ⟨g, 0, none⟩, cap, rfl, fun _ => ⟨g, 0, rfl, fun i hi => ?_⟩, hle⟩
    have h3 : cur.toList[i]? = some (byteV l[i]) := by
      have := congrArg (·[i]?) htake
      simp only [Nat.mul_one, List.getElem?_take, if_pos hi] at this
      rw [this]; simp [bytesV, hi]
    simp only [World.cell?, Nat.zero_add, hh]
    simpa using h3
theorem Own.lit (U : TypeId) (w : World) (B : Nat) (l : List UInt8) (hB : B ≤ w.heap.size) (hl : l.length ≤ maxLen) : Own U (w.alloc (.cells (bytesV l).toArray U)) B (.slice (some ⟨w.heap.size, 0, none⟩) l.length l.length) l := by
  have := World.ownsRow_lit (base := B) (e := U) (size := 1) w (bytesV l).toArray l.length hB hl (by simp)
  exact this
/-- append of bytes to a slice of the call's own -/
theorem wpList_append_bytes {P : Program} {w : World} {ops : Array Oper} {rest : List Oper} {o : Oper} {a : Act} {Q : Exit → Act → World → Prop} (hgd : o.guard = none) (s x : Operand) (t : TypeId)
    (ho : o.op = .call { callee := .builtin .append, args := #[s, x], argTypes := #[t, t] }) (B : Nat) (U : TypeId) (ht : P.underlying t = some (.slice U)) (hinfo : (P.info? U).map (fun i => (i.zero, i.size, i.bytes)) = some (some (.int .u8 0), 1, 1))
    (v : Value) (xs : List UInt8) (hs : a.eval s = v) (hown : Own U w B v xs) (A : Option Addr) (m c : Nat) (l : List UInt8) (hx : a.eval x = .slice A m c) (hl : l.length = m) (hb : BL w A l)
    (hsz : xs.length + m ≤ 140737488355328) (hB : B ≤ w.heap.size)
    (h : ∀ v' w', Hid (Own U w' B v' (xs ++ l)) → w.grownBy w' v.ownBlock → (v'.ownBlock = v.ownBlock ∨ v'.ownBlock = some w.heap.size) → wpList P ops Q rest (a.put o.dst v') w') : wpList P ops Q (o :: rest) a w := by
  subst hl
  obtain ⟨i, hi, hz, hs1, hb1⟩ := info_parts hinfo
  refine wpList_plain hgd fun K hK => ?_
  obtain ⟨v', w', hrun, h2, h3, h4⟩ : ∃ v' w', (Builtin.append_ #[t, t] o.type #[v, .slice A l.length c]).run P w = .ok v' w' ∧ w'.ownsRow B U 1 v' (xs.length + l.length) (bytesV xs ++ bytesV l) ∧ w.grownBy w' v.ownBlock ∧ (v'.ownBlock = v.ownBlock ∨ v'.ownBlock = some w.heap.size) := by
    cases A with
    | none =>
      have h0 : l = [] := by
        cases l with
        | nil => rfl
        | cons y l => obtain ⟨_, _, e, _⟩ := hb (by simp); cases e
      subst h0
      refine ⟨v, w, ?_, by simpa [bytesV, Own] using hown, World.grownBy.refl w _, .inl rfl⟩
      rcases hown.2 with ⟨rfl, _⟩ | ⟨g, cap, cur, rfl, _, _, hnc, _⟩
      · simp [Builtin.append_, run_underlying ht, sizeOf, typeInfo, hi, Builtin.lenOf, Builtin.firstCells]
      · simp [Builtin.append_, run_underlying ht, sizeOf, typeInfo, hi, Builtin.lenOf, Builtin.firstCells, hnc, storeCells]
    | some ad =>
      obtain ⟨v', w', h1, h2, h3, _, h5⟩ := run_append_own_at (P := P) w B t o.type U i (.int .u8 0) 1 1 ht hi hz hs1 hb1 rfl (by decide) v xs.length (bytesV xs) hown ad l.length c (bytesV l) (by simp) (fun j u hj => by
        have hjl : j < l.length := by
          rcases Nat.lt_or_ge j l.length with h' | h'
          · exact h'
          · rw [List.getElem?_eq_none (by simpa using h')] at hj; cases hj
        obtain ⟨b, o, e, hc⟩ := hb (by omega)
        obtain rfl : ad = ⟨b, o, none⟩ := by simpa using e
        have hv : u = byteV l[j] := by simpa [bytesV, hjl] using hj.symm
        rw [hv, ← hc j hjl]
        by_cases h0 : j = 0 <;> simp [Addr.add, h0]) (bytesV_one l) (by unfold maxLen; omega) (by omega) hB
      exact ⟨v', w', h1, h2, h3, h5⟩
  unfold Oper.wp execOp
  simp only [ho, resolve, invoke, builtin, Sem.run_bind, Sem.run_pure, Result.andThen_ok, List.map_toArray, List.map_cons, List.map_nil, hs, hx, hrun]
  refine hK _ _ (h v' w' ?_ h3 h4)
  show w'.ownsRow B U 1 v' (xs ++ l).length (bytesV (xs ++ l))
  rw [List.length_append, show bytesV (xs ++ l) = bytesV xs ++ bytesV l by simp [bytesV]]
  exact h2
theorem Row.new (U : TypeId) (w : World) (l : List UInt8) : Row U (w.alloc (.cells (bytesV l).toArray U)) w.heap.size l := heap_alloc_new w _
theorem BL.alloc {w : World} {p : Option Addr} {l : List UInt8} (h : BL w p l) (o : Obj) : BL (w.alloc o) p l := h.below ((Below.refl _ _).alloc (Nat.le_refl _) _)
end Go.Proofs.Yteefkhgmcknbaaa.Mem
