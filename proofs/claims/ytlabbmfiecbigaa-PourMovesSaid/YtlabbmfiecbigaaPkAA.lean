/-
  Bytes, Structs, Args, HeapP, LawPost, CfgArgs. Put together by pack.py.
-/
import Derived.Below
import Derived.Laws.Slices
import Derived.Laws.BytesArg
import Derived.Laws.MakeOwn
import Derived.Laws.CopyOwn
import Derived.Deep.Draws
import Derived.Lib.Hide
import Derived.Maps.AppendAt
import Derived.Laws.OwnMore
import Derived.Deep.AppendLies
import Derived.ProofKit
import Derived.Deep.Slices
import Derived.Deep.Fields
import Derived.ChangeSame
import Derived.Lib.SmallJoins
import Derived.SizedLaws
import Derived.Carry
import Derived.OpenShut
import Derived.Test.YtlabbmfiecbigaaChecked

namespace Go.Proofs.Ytlabbmfiecbigaa.Mem
open Go.RowKit

/-- a byte as a cell -/
def byteV (x : UInt8) : Value := .int .u8 (x.toNat : Int)
def bytesV (l : List UInt8) : List Value := l.map byteV
@[simp] theorem bytesV_length (l : List UInt8) : (bytesV l).length = l.length := by simp [bytesV]

/-- the slice at p reads as the bytes l (nil and empty ones let in) -/
def BL (w : World) (p : Option Addr) (l : List UInt8) : Prop :=
  0 < l.length → ∃ b o, p = some ⟨b, o, none⟩ ∧ ∀ i (h : i < l.length), w.cell? ⟨b, o + i, none⟩ = some (byteV l[i])
theorem BL.nil (w : World) (p : Option Addr) : BL w p [] := fun h => absurd h (by simp)
theorem BL.at_ {w : World} {p : Option Addr} {l : List UInt8} (h : BL w p l) {i : Nat} (hi : i < l.length) : ∃ b o, p = some ⟨b, o, none⟩ ∧ w.cell? ⟨b, o + i, none⟩ = some (.int .u8 (l[i].toNat : Int)) := by
  obtain ⟨b, o, e, hc⟩ := h (by omega)
  exact ⟨b, o, e, hc i hi⟩
theorem BL.lt {w : World} {p : Option Addr} {l : List UInt8} (h : BL w p l) (hl : 0 < l.length) : ∀ a, p = some a → a.block < w.heap.size := by
  rintro a rfl
  obtain ⟨b, o, e, hc⟩ := h hl
  obtain rfl : a = ⟨b, o, none⟩ := by simpa using e
  have h0 := hc 0 hl
  rcases Nat.lt_or_ge b w.heap.size with h' | h'
  · exact h'
  · simp [World.cell?, Array.getElem?_eq_none h'] at h0
theorem BL.keep {w w' : World} {p : Option Addr} {l : List UInt8} (h : BL w p l) (hk : 0 < l.length → ∀ a, p = some a → w'.heap[a.block]? = w.heap[a.block]?) : BL w' p l := fun hl => by
  obtain ⟨b, o, rfl, hc⟩ := h hl
  refine ⟨b, o, rfl, fun i hi => ?_⟩
  rw [← hc i hi]
  exact World.cell?_of_block (w := w) (a := ⟨b, o + i, none⟩) (show w'.heap[b]? = w.heap[b]? from hk hl ⟨b, o, none⟩ rfl)
theorem BL.below {w w' : World} {p : Option Addr} {l : List UInt8} (h : BL w p l) (hb : Below w.heap.size w w') : BL w' p l := h.keep fun hl a ha => hb.block _ (h.lt hl a ha)
theorem BL.grown {w w' : World} {p : Option Addr} {l : List UInt8} {row : Option Nat} (h : BL w p l) (hb : w.grownBy w' row) (hn : 0 < l.length → ∀ a, p = some a → some a.block ≠ row) : BL w' p l :=
  h.keep fun hl a ha => hb.block _ (h.lt hl a ha) (hn hl a ha)
theorem BL.drewN {w : World} {p : Option Addr} {l : List UInt8} (h : BL w p l) (n : Nat) : BL (w.drewN n) p l := h
theorem BL.take {w : World} {p : Option Addr} {l : List UInt8} (h : BL w p l) (k : Nat) : BL w p (l.take k) := fun hl => by
  simp only [List.length_take] at hl
  obtain ⟨b, o, e, hc⟩ := h (by omega)
  refine ⟨b, o, e, fun i hi => ?_⟩
  simp only [List.length_take] at hi
  rw [hc i (by omega), List.getElem_take]

/-- where a slice of so much room lies behind its first k -/
def cutA (A : Option Addr) (c k : Nat) : Option Addr := if c = k then A else A.map (·.add k)
theorem BL.cut {w : World} {p : Option Addr} {l : List UInt8} (h : BL w p l) {k c : Nat} (hc : l.length ≤ c) : BL w (cutA p c k) (l.drop k) := fun hl => by
  simp only [List.length_drop] at hl
  obtain ⟨b, o, rfl, hcell⟩ := h (by omega)
  unfold cutA
  rw [if_neg (by omega)]
  refine ⟨b, o + k, by by_cases hk : k = 0 <;> simp [Addr.add, hk], fun i hi => ?_⟩
  simp only [List.length_drop] at hi
  rw [Nat.add_assoc, hcell (k + i) (by omega), List.getElem_drop]
theorem run_cut {P : Program} {t e : TypeId} {i : TypeInfo} (ht : P.underlying t = some (.slice e)) (hi : P.info? e = some i) (hs : i.size = 1) (A : Option Addr) (n c k : Nat) (hk : k ≤ n) (w : World) :
    (Instr.slice t (.slice A n c) (some (.int .i64 (k : Int))) none none).run P w = .ok (.slice (cutA A c k) (n - k) (c - k)) w := by
  have he : P.elem t = e := by simp [Program.elem, ht]
  rw [run_slice_l w t A n c (by rw [he]; exact ht) .i64 (k : Int) (by omega) (by omega), he]
  simp [sizeOf, typeInfo, hi, hs, sliced, cutA, Result.andThen]
theorem run_upTo {P : Program} {t e : TypeId} {i : TypeInfo} (ht : P.underlying t = some (.slice e)) (hi : P.info? e = some i) (A : Option Addr) (n c k : Nat) (hk : k ≤ c) (w : World) :
    (Instr.slice t (.slice A n c) none (some (.int .i64 (k : Int))) none).run P w = .ok (.slice A k c) w := by
  have he : P.elem t = e := by simp [Program.elem, ht]
  rw [run_slice_h w t A n c (by rw [he]; exact ht) .i64 (k : Int) (by omega) (by omega), he]
  by_cases hc : c = 0
  · simp [sizeOf, typeInfo, hi, sliced, Result.andThen, hc]
  · simp [sizeOf, typeInfo, hi, sliced, Result.andThen, hc, Addr.add]

/-- the text of bytes -/
def strOf (l : List UInt8) : ByteArray := ⟨l.toArray⟩
theorem strOf_toList (l : List UInt8) : (strOf l).data.toList = l := rfl
theorem strOf_size (l : List UInt8) : (strOf l).size = l.length := rfl
theorem run_text {P : Program} {src dst e : TypeId} (hs : P.underlying src = some (.slice e)) (he : P.underlying e = some (.int .u8)) (hd : P.underlying dst = some .string) {w : World} {p : Option Addr} {l : List UInt8} (h : BL w p l) (c : Nat) :
    (convert src dst (.slice p l.length c)).run P w = .ok (.string (strOf l)) w := by
  have hnat : ∀ x : UInt8, UInt8.ofNat ((x.toNat : Int)).toNat = x := fun x => by simp
  by_cases h0 : l.length = 0
  · obtain rfl : l = [] := List.eq_nil_of_length_eq_zero h0
    rw [run_convert_bytes_string w src dst e _ _ c hs he hd]
    cases p with
    | none => simp [Conv.bytesToString, strOf, ByteArray.empty, ByteArray.emptyWithCapacity]; rfl
    | some a =>
      rw [show ([] : List UInt8).length = 0 from rfl, run_bytesToString w a 0 c [] (by simpa using run_loadCells_list (P := P) w a [] (fun j v hj => by simp at hj))]
      simp [strOf, ByteArray.empty, ByteArray.emptyWithCapacity]; rfl
  · obtain ⟨b, o, rfl, hc⟩ := h (by omega)
    have := run_convert_bytes_arg (P := P) w src e hs he b o l.length c (l.map fun x => (x.toNat : Int)) (by simp) (fun i hi => by
      rw [hc i hi]; simp [byteV, hi]) dst hd
    rw [this]
    simp [strOfNums, strOf, Function.comp_def]

theorem run_text_n {P : Program} {src dst e : TypeId} (hs : P.underlying src = some (.slice e)) (he : P.underlying e = some (.int .u8)) (hd : P.underlying dst = some .string) {w : World} {p : Option Addr} {l : List UInt8} (h : BL w p l) {n : Nat} (hn : l.length = n) (c : Nat) :
    (convert src dst (.slice p n c)).run P w = .ok (.string (strOf l)) w := by subst hn; exact run_text hs he hd h c

/-- a block of bytes that is known whole (U: the bytes' type) -/
def Row (U : TypeId) (w : World) (g : Nat) (l : List UInt8) : Prop := w.heap[g]? = some (.cells (bytesV l).toArray U (0, 0))
section
variable {U : TypeId} {w w' : World} {g : Nat} {l : List UInt8}
theorem Row.lt (h : Row U w g l) : g < w.heap.size := (Array.getElem?_eq_some_iff.1 h).1
theorem Row.bl (h : Row U w g l) : BL w (some ⟨g, 0, none⟩) l := fun _ => ⟨g, 0, rfl, fun i hi => by
  unfold Row at h
  simp [World.cell?, h, bytesV, hi]⟩
theorem Row.cell (h : Row U w g l) {i : Nat} (hi : i < l.length) : w.cell? ⟨g, i, none⟩ = some (.int .u8 (l[i].toNat : Int)) := by
  unfold Row at h
  simp [World.cell?, h, bytesV, hi, byteV]
theorem Row.free (h : Row U w g l) (i : Nat) : w.frozen? ⟨g, i, none⟩ = false := by
  unfold Row at h
  simp [World.frozen?, h]
theorem Row.below {B : Nat} (h : Row U w g l) (hb : Below B w w') (hg : g < B) : Row U w' g l := (hb.block g hg).trans h
theorem Row.kept (h : Row U w g l) (hb : Below w.heap.size w w') : Row U w' g l := (hb.block g h.lt).trans h
theorem Row.set (h : Row U w g l) {i : Nat} (hi : i < l.length) (x : UInt8) {z : Int} (hz : z = (x.toNat : Int)) : Row U (w.setCell ⟨g, i, none⟩ (.int .u8 z)) g (l.set i x) := by
  subst hz
  have hb : bytesV (l.set i x) = (bytesV l).set i (byteV x) := by simp [bytesV, List.map_set]
  unfold Row at h ⊢
  rw [hb]
  have : i < (bytesV l).length := by simpa using hi
  simp [World.setCell, Array.getElem?_modify, h, byteV]
theorem Row.drewN (h : Row U w g l) (n : Nat) : Row U (w.drewN n) g l := h
end
theorem row_of_cells {U : TypeId} {w : World} {g : Nat} {cs : Array Value} {l : List UInt8} (h : w.heap[g]? = some (.cells cs U (0, 0))) (e : cs.toList = bytesV l) : Row U w g l := by
  unfold Row; rw [h, ← e]

/-- the bytes of a new block -/
theorem madeCells_bytes {z : Array Value} (hz : z = #[.int .u8 0]) (n : Nat) : (madeCells z n).toList = bytesV (List.replicate n 0) := by
  subst hz
  apply List.ext_getElem
  · simp [madeCells]
  · intro i h1 h2
    simp [madeCells, bytesV, byteV, Nat.mod_one]

theorem bytesV_one (l : List UInt8) : ∀ v ∈ bytesV l, v.oneCell' = true := by
  intro v hv
  obtain ⟨x, _, rfl⟩ := List.mem_map.1 hv
  rfl
theorem splice_front (l L : List UInt8) : splice (bytesV L) 0 (bytesV l) = bytesV (l ++ L.drop l.length) := by
  simp [splice, bytesV]
/-- copy of bytes to the front of a row of the call's own -/
theorem wpList_copy_bytes {P : Program} {w : World} {ops : Array Oper} {rest : List Oper} {o : Oper} {a : Act} {Q : Exit → Act → World → Prop} (hgd : o.guard = none) (d s : Operand) (dT sT : TypeId)
    (ho : o.op = .call { callee := .builtin .copy, args := #[d, s], argTypes := #[dT, sT] }) (U : TypeId) (hu : P.underlying dT = some (.slice U)) (hsz : (P.info? U).map (·.size) = some 1)
    (g n c1 m c2 : Nat) (sp : Option Addr) (hd : a.eval d = .slice (some ⟨g, 0, none⟩) n c1) (hs : a.eval s = .slice sp m c2)
    (L l : List UInt8) (hg : Row U w g L) (hl : l.length = m) (hb : BL w sp l) (hmn : m ≤ n) (hn : n ≤ L.length) (B : Nat) (w0 : World) (hB : Below B w0 w) (hBg : B ≤ g)
    (h : ∀ w', Hid (Row U w' g (l ++ L.drop l.length)) → Below B w0 w' → wpList P ops Q rest (a.put o.dst (goInt m)) w') : wpList P ops Q (o :: rest) a w := by
  subst hl
  have hlen : (bytesV l).length = l.length := by simp
  refine wpList_copy_splice hgd d s dT sT ho U hu hsz (some ⟨g, 0, none⟩) sp n c1 l.length c2 hd hs g 0 (bytesV L) U hg (bytesV l) (by rw [hlen]; exact (Nat.min_eq_left hmn).symm) (fun hp => ⟨rfl, ?_⟩) (by rw [hlen, bytesV_length]; omega) (bytesV_one l) B w0 hB hBg ?_
  · obtain ⟨b, o, rfl, hc⟩ := hb (by simpa using hp)
    refine ⟨_, rfl, fun j v hj => ?_⟩
    have hjl : j < l.length := by
      rcases Nat.lt_or_ge j l.length with h' | h'
      · exact h'
      · rw [List.getElem?_eq_none (by simpa using h')] at hj; cases hj
    have hv : v = byteV l[j] := by simpa [bytesV, hjl] using hj.symm
    rw [hv, ← hc j hjl]
    by_cases h0 : j = 0 <;> simp [Addr.add, h0]
  · intro w' h1 h2
    rw [splice_front, hlen] at *
    exact h w' h1 h2
/-- a slice of the call's own (its row lies from block B on) that reads as the bytes l -/
def Own (U : TypeId) (w : World) (B : Nat) (v : Value) (l : List UInt8) : Prop := w.ownsRow B U 1 v l.length (bytesV l)
theorem Own.slice {U : TypeId} {w : World} {B : Nat} {v : Value} {l : List UInt8} (h : Own U w B v l) : ∃ A c, v = .slice A l.length c ∧ BL w A l ∧ l.length ≤ c := by
  obtain ⟨_, h2⟩ := h
  rcases h2 with ⟨rfl, h0⟩ | ⟨g, cap, cur, rfl, _, hh, hle, _, hsz, htake⟩
  · exact ⟨none, 0, by rw [h0], by rw [List.eq_nil_of_length_eq_zero h0]; exact BL.nil _ _, by omega⟩
  · refine ⟨some ⟨g, 0, none⟩, cap, rfl, fun _ => ⟨g, 0, rfl, fun i hi => ?_⟩, hle⟩
    have h3 : cur.toList[i]? = some (byteV l[i]) := by
      have := congrArg (·[i]?) htake
      simp only [Nat.mul_one, List.getElem?_take, if_pos hi] at this
      rw [this]; simp [bytesV, hi]
    simp only [World.cell?, Nat.zero_add, hh]
    simpa using h3
theorem Own.lit (U : TypeId) (w : World) (B : Nat) (l : List UInt8) (hB : B ≤ w.heap.size) (hl : l.length ≤ maxLen) : Own U (w.alloc (.cells (bytesV l).toArray U)) B (.slice (some ⟨w.heap.size, 0, none⟩) l.length l.length) l := by
  have := World.ownsRow_lit (base := B) (e := U) (size := 1) w (bytesV l).toArray l.length hB hl (by simp)
  exact this
/-- append of bytes to a slice of the call's own -/
theorem wpList_append_bytes {P : Program} {w : World} {ops : Array Oper} {rest : List Oper} {o : Oper} {a : Act} {Q : Exit → Act → World → Prop} (hgd : o.guard = none) (s x : Operand) (t : TypeId)
    (ho : o.op = .call { callee := .builtin .append, args := #[s, x], argTypes := #[t, t] }) (B : Nat) (U : TypeId) (ht : P.underlying t = some (.slice U)) (hinfo : (P.info? U).map (fun i => (i.zero, i.size, i.bytes)) = some (some (.int .u8 0), 1, 1))
    (v : Value) (xs : List UInt8) (hs : a.eval s = v) (hown : Own U w B v xs) (A : Option Addr) (m c : Nat) (l : List UInt8) (hx : a.eval x = .slice A m c) (hl : l.length = m) (hb : BL w A l)
    (hsz : xs.length + m ≤ 140737488355328) (hB : B ≤ w.heap.size)
    (h : ∀ v' w', Hid (Own U w' B v' (xs ++ l)) → w.grownBy w' v.ownBlock → (v'.ownBlock = v.ownBlock ∨ v'.ownBlock = some w.heap.size) → wpList P ops Q rest (a.put o.dst v') w') : wpList P ops Q (o :: rest) a w := by
  subst hl
  obtain ⟨i, hi, hz, hs1, hb1⟩ := info_parts hinfo
  refine wpList_plain hgd fun K hK => ?_
  obtain ⟨v', w', hrun, h2, h3, h4⟩ : ∃ v' w', (Builtin.append_ #[t, t] o.type #[v, .slice A l.length c]).run P w = .ok v' w' ∧ w'.ownsRow B U 1 v' (xs.length + l.length) (bytesV xs ++ bytesV l) ∧ w.grownBy w' v.ownBlock ∧ (v'.ownBlock = v.ownBlock ∨ v'.ownBlock = some w.heap.size) := by
    cases A with
    | none =>
      have h0 : l = [] := by
        cases l with
        | nil => rfl
        | cons y l => obtain ⟨_, _, e, _⟩ := hb (by simp); cases e
      subst h0
      refine ⟨v, w, ?_, by simpa [bytesV, Own] using hown, World.grownBy.refl w _, .inl rfl⟩
      rcases hown.2 with ⟨rfl, _⟩ | ⟨g, cap, cur, rfl, _, _, hnc, _⟩
      · simp [Builtin.append_, run_underlying ht, sizeOf, typeInfo, hi, Builtin.lenOf, Builtin.firstCells]
      · simp [Builtin.append_, run_underlying ht, sizeOf, typeInfo, hi, Builtin.lenOf, Builtin.firstCells, hnc, storeCells]
    | some ad =>
      obtain ⟨v', w', h1, h2, h3, _, h5⟩ := run_append_own_at (P := P) w B t o.type U i (.int .u8 0) 1 1 ht hi hz hs1 hb1 rfl (by decide) v xs.length (bytesV xs) hown ad l.length c (bytesV l) (by simp) (fun j u hj => by
        have hjl : j < l.length := by
          rcases Nat.lt_or_ge j l.length with h' | h'
          · exact h'
          · rw [List.getElem?_eq_none (by simpa using h')] at hj; cases hj
        obtain ⟨b, o, e, hc⟩ := hb (by omega)
        obtain rfl : ad = ⟨b, o, none⟩ := by simpa using e
        have hv : u = byteV l[j] := by simpa [bytesV, hjl] using hj.symm
        rw [hv, ← hc j hjl]
        by_cases h0 : j = 0 <;> simp [Addr.add, h0]) (bytesV_one l) (by unfold maxLen; omega) (by omega) hB
      exact ⟨v', w', h1, h2, h3, h5⟩
  unfold Oper.wp execOp
  simp only [ho, resolve, invoke, builtin, Sem.run_bind, Sem.run_pure, Result.andThen_ok, List.map_toArray, List.map_cons, List.map_nil, hs, hx, hrun]
  refine hK _ _ (h v' w' ?_ h3 h4)
  show w'.ownsRow B U 1 v' (xs ++ l).length (bytesV (xs ++ l))
  rw [List.length_append, show bytesV (xs ++ l) = bytesV xs ++ bytesV l by simp [bytesV]]
  exact h2
theorem Row.new (U : TypeId) (w : World) (l : List UInt8) : Row U (w.alloc (.cells (bytesV l).toArray U)) w.heap.size l := heap_alloc_new w _
theorem BL.alloc {w : World} {p : Option Addr} {l : List UInt8} (h : BL w p l) (o : Obj) : BL (w.alloc o) p l := h.below ((Below.refl _ _).alloc (Nat.le_refl _) _)
end Go.Proofs.Ytlabbmfiecbigaa.Mem

namespace Go.Proofs.Ytlabbmfiecbigaa.Args
open Go.RowKit Go.WideShapes Go.ChangeShapes Go.Deep
section
variable {H : Type} {enc : TypeId × Value → H} {P : Program} {W : World}

theorem plain_of_cell {a : Addr} {i : Nat} {v : Value} (h : W.cell? (a.add i) = some v) (h0 : i = 0) : a.spot = none := by
  subst h0
  simpa [Addr.add] using World.cell?_spot h

theorem w_each {P : Program} : ∀ {ts : List TypeId} {ds : List (DataW H)} {j : Nat} {t : TypeId} {d : DataW H}, ts[j]? = some t → ds[j]? = some d → ∀ n ∈ d.weights P t, n ∈ DataW.weightsEach P ts ds
  | [], _, j, _, _, h, _, _, _ => by simp at h
  | _ :: _, [], j, _, _, _, h, _, _ => by simp at h
  | t0 :: ts, d0 :: ds, 0, t, d, h1, h2, n, hn => by
    obtain rfl : t0 = t := by simpa using h1
    obtain rfl : d0 = d := by simpa using h2
    simp only [DataW.weightsEach, List.mem_append]
    exact .inl hn
  | t0 :: ts, d0 :: ds, j + 1, t, d, h1, h2, n, hn => by
    simp only [DataW.weightsEach, List.mem_append]
    exact .inr (w_each (j := j) (by simpa using h1) (by simpa using h2) n hn)
theorem w_all {P : Program} {e : TypeId} : ∀ {ds : List (DataW H)} {d : DataW H}, d ∈ ds → ∀ n ∈ d.weights P e, n ∈ DataW.weightsAll P e ds
  | _ :: ds, d, hd, n, hn => by
    simp only [DataW.weightsAll, List.mem_append]
    rcases List.mem_cons.1 hd with rfl | hd
    · exact .inl hn
    · exact .inr (w_all hd n hn)
theorem open_structs_t {t e : TypeId} {fs : Array Field} (ht : P.underlying t = some (.slice e)) (he : P.underlying e = some (.struct fs)) (hone : oneCellFields P fs = true) (hC : P.cellsOf e = fs.size) (hpos : 0 < fs.size)
    {v : Value} {d : DataW H} {p : List MemPlace} {fuel : Nat} (hf : DataW.trod enc P W 0 (fun _ => true) true fuel t [v] = some (d, p)) :
    ∃ (A : Option Addr) (len c : Nat), v = .slice A len c ∧ len ≤ c ∧ c ≤ maxLen ∧
      (0 < len → ∃ b o, A = some ⟨b, o, none⟩ ∧ ∀ i, i < len → ∀ (j : Nat) (f : Field), fs[j]? = some f → ∃ (u : Value) (y : DataW H × List MemPlace) (n : Nat), W.cell? ⟨b, o + (i * fs.size + j), none⟩ = some u ∧ DataW.trod enc P W 0 (fun _ => true) true n f.type [u] = some y ∧ ∀ k ∈ y.1.weights P f.type, k ∈ d.weights P t) := by
  rcases open_slice ht hf with ⟨hcs, _⟩ | ⟨a, len, cap, m, n, D, Pl, hcs, _, hl, hm, hmm, hx, hi⟩
  · obtain rfl : v = _ := by simpa using hcs
    exact ⟨none, 0, 0, rfl, Nat.le_refl _, Nat.zero_le _, fun h => absurd h (Nat.lt_irrefl 0)⟩
  · obtain rfl : v = _ := by simpa using hcs
    simp only [if_true] at hmm
    simp only [Prod.mk.injEq] at hx
    have each : ∀ i, i < len → ∀ (j : Nat) (f : Field), fs[j]? = some f → ∃ (u : Value) (y : DataW H × List MemPlace) (n : Nat), W.cell? (a.add (i * fs.size + j)) = some u ∧ DataW.trod enc P W 0 (fun _ => true) true n f.type [u] = some y ∧ ∀ k ∈ y.1.weights P f.type, k ∈ d.weights P t := by
      intro i hil j f hj
      obtain ⟨cs', hc, ht'⟩ := hi i (by omega)
      rw [hC] at hc
      obtain ⟨ys, n', _, hD, hlen, hyl, hfl⟩ := DataW.trod_struct he ht'
      obtain ⟨_, hcl, hat⟩ := World.cells?_some hc
      obtain ⟨ho, hk⟩ := hone_of hone j f hj
      have hjl : j < fs.size := (Array.getElem?_eq_some_iff.1 hj).1
      have hcell := hat j hjl
      have h1 := hfl j f hj
      rw [ho, hk] at h1
      have hu : (cs'.drop j).take 1 = [cs'[j]'(by omega)] := by rw [List.drop_eq_getElem_cons (by omega)]; rfl
      rw [hu, List.getElem?_eq_getElem (show j < ys.length by omega)] at h1
      refine ⟨cs'[j]'(by omega), _, n', ?_, h1, fun k hk => ?_⟩
      · rw [← Go.Deep.add_add, hcell]
        exact List.getElem?_eq_getElem (by omega)
      · rw [hx.1]
        simp only [DataW.weights, ht, List.mem_cons, List.mem_append]
        refine .inr (.inl (w_all (d := D i) (List.mem_map.2 ⟨i, by simpa using hil, rfl⟩) k ?_))
        simp only [Prod.mk.injEq] at hD
        rw [hD.1]
        simp only [DataW.weights, he]
        refine w_each (j := j) (t := f.type) (d := (ys[j]'(by omega)).1) ?_ ?_ k hk
        · rw [List.getElem?_map, Array.getElem?_toList, hj]; rfl
        · rw [List.getElem?_map, List.getElem?_eq_getElem (show j < ys.length by omega)]; rfl
    refine ⟨some a, len, cap, rfl, hl, hm, fun hp => ?_⟩
    obtain ⟨b, o, sp⟩ := a
    have hsp : sp = none := by
      obtain ⟨u, _, _, hu, _, _⟩ := each 0 hp 0 (fs[0]'hpos) (Array.getElem?_eq_getElem hpos)
      exact plain_of_cell hu (by simp)
    subst hsp
    refine ⟨b, o, rfl, fun i hil j f hj => ?_⟩
    obtain ⟨u, y, n, h1, h2, h3⟩ := each i hil j f hj
    refine ⟨u, y, n, ?_, h2, h3⟩
    have e : (⟨b, o, none⟩ : Addr).add (i * fs.size + j) = ⟨b, o + (i * fs.size + j), none⟩ := by unfold Addr.add; split <;> simp_all
    rw [← e]; exact h1
theorem open_structs {t e : TypeId} {fs : Array Field} (ht : P.underlying t = some (.slice e)) (he : P.underlying e = some (.struct fs)) (hone : oneCellFields P fs = true) (hC : P.cellsOf e = fs.size) (hpos : 0 < fs.size)
    {v : Value} {d : DataW H} {p : List MemPlace} {r : Reach} {b0 : Nat} (hv : Value.okWide P W r b0 t v) (h : DataW.Trod enc P W 0 (fun _ => true) true t v d p) :
    ∃ (A : Option Addr) (len c : Nat), v = .slice A len c ∧ len ≤ c ∧ c ≤ maxLen ∧
      (0 < len → ∃ b o, A = some ⟨b, o, none⟩ ∧ ∀ i, i < len → ∀ (j : Nat) (f : Field), fs[j]? = some f → ∃ (u : Value) (y : DataW H × List MemPlace) (n : Nat), W.cell? ⟨b, o + (i * fs.size + j), none⟩ = some u ∧ DataW.trod enc P W 0 (fun _ => true) true n f.type [u] = some y) := by
  obtain ⟨a0, len, cap, rfl⟩ := okWide_slice ht hv
  obtain ⟨fuel, hf⟩ := h
  obtain ⟨A, n, c, e1, e2, e3, h5⟩ := open_structs_t ht he hone hC hpos hf
  refine ⟨A, n, c, e1, e2, e3, fun hp => ?_⟩
  obtain ⟨b, o, e4, h6⟩ := h5 hp
  refine ⟨b, o, e4, fun i hi j f hj => ?_⟩
  obtain ⟨u, y, n, h1, h2, _⟩ := h6 i hi j f hj
  exact ⟨u, y, n, h1, h2⟩
end
end Go.Proofs.Ytlabbmfiecbigaa.Args

namespace Go.Proofs.Ytlabbmfiecbigaa.Args
open Go.RowKit Go.WideShapes Go.ChangeShapes Mem
section
variable {H : Type} {enc : TypeId × Value → H} {P : Program} {W : World}

theorem nat_of_u8 {x : Int} (h : (Lit.int .u8 x).wf = true) : ∃ n : Nat, x = n ∧ n < 256 := by
  have h1 : IntKind.u8.min = 0 := rfl
  have h2 : IntKind.u8.max = 255 := rfl
  simp only [Lit.wf, Bool.and_eq_true, decide_eq_true_eq] at h
  exact ⟨x.toNat, by omega, by omega⟩
theorem nat_of_u32 {x : Int} (h : (Lit.int .u32 x).wf = true) : ∃ n : Nat, x = n ∧ n < 4294967296 := by
  have h1 : IntKind.u32.min = 0 := rfl
  have h2 : IntKind.u32.max = 4294967295 := rfl
  simp only [Lit.wf, Bool.and_eq_true, decide_eq_true_eq] at h
  exact ⟨x.toNat, by omega, by omega⟩
theorem nat_of_u16 {x : Int} (h : (Lit.int .u16 x).wf = true) : ∃ n : Nat, x = n ∧ n < 65536 := by
  have h1 : IntKind.u16.min = 0 := rfl
  have h2 : IntKind.u16.max = 65535 := rfl
  simp only [Lit.wf, Bool.and_eq_true, decide_eq_true_eq] at h
  exact ⟨x.toNat, by omega, by omega⟩
theorem nat_of_u64 {x : Int} (h : (Lit.int .u64 x).wf = true) : ∃ n : Nat, x = n ∧ n < 18446744073709551616 := by
  have h1 : IntKind.u64.min = 0 := rfl
  have h2 : IntKind.u64.max = 18446744073709551615 := rfl
  simp only [Lit.wf, Bool.and_eq_true, decide_eq_true_eq] at h
  exact ⟨x.toNat, by omega, by omega⟩
theorem i64_bounds {x : Int} (h : (Lit.int .i64 x).wf = true) : -9223372036854775808 ≤ x ∧ x ≤ 9223372036854775807 := by
  have h1 : IntKind.i64.min = -9223372036854775808 := rfl
  have h2 : IntKind.i64.max = 9223372036854775807 := rfl
  simp only [Lit.wf, Bool.and_eq_true, decide_eq_true_eq] at h
  omega

/-- a slice of numbers -/
def NL (w : World) (k : IntKind) (p : Option Addr) (zs : List Int) : Prop :=
  0 < zs.length → ∃ b o, p = some ⟨b, o, none⟩ ∧ ∀ i (h : i < zs.length), w.cell? ⟨b, o + i, none⟩ = some (.int k zs[i])
set_option maxRecDepth 100000 in
theorem open_nums {t e : TypeId} {k : IntKind} (ht : P.underlying t = some (.slice e)) (he : P.underlying e = some (.int k)) (hc : P.cellsOf e = 1) {v : Value} {d : DataW H} {p : List MemPlace} {r : Reach} {b0 : Nat} (hv : Value.okWide P W r b0 t v)
    (h : DataW.Trod enc P W 0 (fun _ => true) true t v d p) : ∃ (A : Option Addr) (zs : List Int) (c : Nat), v = .slice A zs.length c ∧ NL W k A zs ∧ zs.length ≤ c ∧ c ≤ maxLen ∧ ∀ z ∈ zs, (Lit.int k z).wf = true := by
  obtain ⟨a0, len, cap, rfl⟩ := okWide_slice ht hv
  obtain ⟨fuel, hf⟩ := h
  rcases open_ints ht he hc hf with ⟨hcs, _⟩ | ⟨a, len', cap', zs, hcs, _, hl, hm, hz, _, hcell, hwz⟩
  · simp [Value.cells] at hcs
    obtain ⟨rfl, rfl, rfl⟩ := hcs
    exact ⟨none, [], 0, rfl, fun h => absurd h (by simp), Nat.le_refl _, Nat.zero_le _, fun z hz => by cases hz⟩
  · simp [Value.cells] at hcs
    obtain ⟨rfl, rfl, rfl⟩ := hcs
    simp only [if_true] at hz
    have htl : (zs.take len).length = len := by simp; omega
    refine ⟨some a, zs.take len, cap, by rw [htl], fun hpos => ?_, by rw [htl]; exact hl, hm, fun z hz' => hwz z (List.mem_of_mem_take hz')⟩
    rw [htl] at hpos
    obtain ⟨b, o, sp⟩ := a
    have h0 := hcell 0 (by omega)
    obtain rfl : sp = none := by simpa [Addr.add] using World.cell?_spot h0
    refine ⟨b, o, rfl, fun i hi => ?_⟩
    rw [htl] at hi
    have h1 := hcell i (by omega)
    have e : (⟨b, o, none⟩ : Addr).add i = ⟨b, o + i, none⟩ := by unfold Addr.add; split <;> simp_all
    rw [e] at h1
    rw [h1]
    simp [List.getD, show i < zs.length by omega]

set_option maxRecDepth 100000 in
/-- an argument of type []byte -/
theorem open_bytes {t e : TypeId} (ht : P.underlying t = some (.slice e)) (he : P.underlying e = some (.int .u8)) (hc : P.cellsOf e = 1) {v : Value} {d : DataW H} {p : List MemPlace} {r : Reach} {b0 : Nat} (hv : Value.okWide P W r b0 t v)
    (h : DataW.Trod enc P W 0 (fun _ => true) true t v d p) : ∃ (A : Option Addr) (l : List UInt8) (c : Nat), v = .slice A l.length c ∧ BL W A l ∧ l.length ≤ c ∧ c ≤ maxLen := by
  obtain ⟨A, zs, c, rfl, hN, hl, hm, hw⟩ := open_nums ht he hc hv h
  refine ⟨A, zs.map fun z => UInt8.ofNat z.toNat, c, by simp, fun hpos => ?_, by simpa using hl, hm⟩
  simp only [List.length_map] at hpos
  obtain ⟨b, o, rfl, hcell⟩ := hN hpos
  refine ⟨b, o, rfl, fun i hi => ?_⟩
  simp only [List.length_map] at hi
  rw [hcell i hi]
  obtain ⟨n, hn, hlt⟩ := nat_of_u8 (hw zs[i] (List.getElem_mem hi))
  simp [byteV, hn]; omega
/-- an argument of type []uint64 -/
def UL (w : World) (p : Option Addr) (ns : List Nat) : Prop := NL w .u64 p (ns.map fun n : Nat => (n : Int))
set_option maxRecDepth 100000 in
theorem open_u64s {t e : TypeId} (ht : P.underlying t = some (.slice e)) (he : P.underlying e = some (.int .u64)) (hc : P.cellsOf e = 1) {v : Value} {d : DataW H} {p : List MemPlace} {r : Reach} {b0 : Nat} (hv : Value.okWide P W r b0 t v)
    (h : DataW.Trod enc P W 0 (fun _ => true) true t v d p) : ∃ (A : Option Addr) (ns : List Nat) (c : Nat), v = .slice A ns.length c ∧ UL W A ns ∧ ns.length ≤ c ∧ c ≤ maxLen ∧ ∀ n ∈ ns, n < 18446744073709551616 := by
  obtain ⟨A, zs, c, rfl, hN, hl, hm, hw⟩ := open_nums ht he hc hv h
  have hz : (zs.map Int.toNat).map (fun n : Nat => (n : Int)) = zs := by
    rw [List.map_map]
    refine (List.map_congr_left (g := id) fun z hz => ?_).trans (List.map_id zs)
    obtain ⟨n, hn, _⟩ := nat_of_u64 (hw z hz)
    simp [hn]
  refine ⟨A, zs.map Int.toNat, c, by simp, by unfold UL; rw [hz]; exact hN, by simpa using hl, hm, fun n hn => ?_⟩
  obtain ⟨z, hz, rfl⟩ := List.mem_map.1 hn
  obtain ⟨n, rfl, hlt⟩ := nat_of_u64 (hw z hz)
  simpa using hlt
theorem UL.at_ {w : World} {p : Option Addr} {ns : List Nat} (h : UL w p ns) {i : Nat} (hi : i < ns.length) : ∃ b o, p = some ⟨b, o, none⟩ ∧ w.cell? ⟨b, o + i, none⟩ = some (.int .u64 (ns[i] : Int)) := by
  obtain ⟨b, o, e, hc⟩ := h (by simp; omega)
  exact ⟨b, o, e, by rw [hc i (by simpa using hi)]; simp⟩
end
end Go.Proofs.Ytlabbmfiecbigaa.Args

namespace Go.Proofs.Ytlabbmfiecbigaa
namespace Hp
section
variable {α : Type} [Inhabited α]
def gt (l : List α) (i : Nat) : α := l.getD i default
def swp (l : List α) (i j : Nat) : List α := (l.set i (gt l j)).set j (gt l i)
theorem gt_eq {l : List α} {i : Nat} (h : i < l.length) : gt l i = l[i] := by simp [gt, h]
theorem gt_some {l : List α} {i : Nat} {x : α} (h : l[i]? = some x) : gt l i = x := by simp [gt, h]
theorem swp_len (l : List α) (i j : Nat) : (swp l i j).length = l.length := by simp [swp]
theorem swp_perm {l : List α} {i j : Nat} (hi : i < l.length) (hj : j < l.length) : (swp l i j).Perm l := by
  unfold swp
  rw [gt_eq hi, gt_eq hj]
  exact List.set_set_perm hi hj
theorem gt_swp {l : List α} {i j : Nat} (hi : i < l.length) (hj : j < l.length) (k : Nat) : gt (swp l i j) k = if k = j then gt l i else if k = i then gt l j else gt l k := by
  unfold swp gt
  by_cases h1 : k = j
  · subst h1
    simp [hj]
  · rw [if_neg h1]
    by_cases h2 : k = i
    · subst h2
      have h3 : ¬ j = k := fun e => h1 e.symm
      simp [hi, h3]
    · have h3 : ¬ j = k := fun e => h1 e.symm
      have h4 : ¬ i = k := fun e => h2 e.symm
      simp [h2, h3, h4]
structure Ord (lt : α → α → Bool) : Prop where
  asym : ∀ a b, lt a b = true → lt b a = false
  trans : ∀ a b c, lt b a = false → lt c b = false → lt c a = false
/-- no place below those from k on is less than the one above it -/
def HpF (lt : α → α → Bool) (l : List α) (n k : Nat) : Prop := ∀ j, 0 < j → j < n → k ≤ (j - 1) / 2 → lt (gt l j) (gt l ((j - 1) / 2)) = false
/-- the same but below i; and what is below i is not less than what is above it -/
structure Sf (lt : α → α → Bool) (l : List α) (n k i : Nat) : Prop where
  le : k ≤ i
  most : ∀ j, 0 < j → j < n → k ≤ (j - 1) / 2 → (j - 1) / 2 ≠ i → lt (gt l j) (gt l ((j - 1) / 2)) = false
  over : k < i → ∀ j, 0 < j → j < n → (j - 1) / 2 = i → lt (gt l j) (gt l ((i - 1) / 2)) = false
variable {lt : α → α → Bool} {l : List α} {n k i : Nat}
theorem HpF.sf (h : HpF lt l n (k + 1)) : Sf lt l n k k := ⟨Nat.le_refl _, fun j h1 h2 h3 h4 => h j h1 h2 (by omega), fun h0 => by omega⟩
theorem Sf.stop (h : Sf lt l n k i) (hc : ∀ j, 0 < j → j < n → (j - 1) / 2 = i → lt (gt l j) (gt l i) = false) : HpF lt l n k := fun j h1 h2 h3 => by
  by_cases e : (j - 1) / 2 = i
  · rw [e]
    exact hc j h1 h2 e
  · exact h.most j h1 h2 h3 e
theorem Sf.step (ho : Ord lt) (h : Sf lt l n k i) (hn : n ≤ l.length) {j : Nat} (h0 : 0 < j) (hj : j < n) (hp : (j - 1) / 2 = i) (hlt : lt (gt l j) (gt l i) = true) (hc : ∀ c, 0 < c → c < n → (c - 1) / 2 = i → lt (gt l c) (gt l j) = false) : Sf lt (swp l i j) n k j := by
  have hij : i < j := by omega
  have hk := h.le
  have G := gt_swp (l := l) (i := i) (j := j) (by omega) (by omega)
  refine ⟨by omega, fun c h1 h2 h3 h4 => ?_, fun _ c h1 h2 h3 => ?_⟩
  · rw [G c, G ((c - 1) / 2), if_neg h4]
    by_cases e : (c - 1) / 2 = i
    · rw [if_pos e]
      by_cases e2 : c = j
      · rw [if_pos e2]
        exact ho.asym _ _ hlt
      · rw [if_neg e2, if_neg (by omega)]
        exact hc c h1 h2 e
    · rw [if_neg e, if_neg (by intro e2; subst e2; omega)]
      by_cases e2 : c = i
      · rw [if_pos e2]
        subst e2
        exact h.over (by omega) j h0 hj hp
      · rw [if_neg e2]
        exact h.most c h1 h2 h3 e
  · rw [G c, G ((j - 1) / 2), hp, if_neg (by omega), if_neg (by omega), if_neg (by omega), if_pos rfl]
    have := h.most c h1 h2 (by omega) (by omega)
    rw [h3] at this
    exact this
theorem HpF.root (ho : Ord lt) (hs : ∀ a, lt a a = false) (h : HpF lt l n 0) : ∀ m j, j < m → j < n → lt (gt l j) (gt l 0) = false
  | 0, j, hm, _ => by omega
  | m + 1, j, hm, hj => by
    by_cases h0 : j = 0
    · subst h0
      exact hs _
    · exact ho.trans _ _ _ (HpF.root ho hs h m ((j - 1) / 2) (by omega) (by omega)) (h j (by omega) hj (Nat.zero_le _))
theorem HpF.half (lt : α → α → Bool) (l : List α) (n : Nat) : HpF lt l n (n / 2) := fun j h1 h2 h3 => by omega
theorem HpF.congr {l' : List α} (h : HpF lt l n k) (he : ∀ i, i < n → gt l' i = gt l i) : HpF lt l' n k := fun j h1 h2 h3 => by
  rw [he j h2, he ((j - 1) / 2) (by omega)]
  exact h j h1 h2 h3
/-- the top taken to the end: the rest is a heap but at its top -/
theorem HpF.swap_top (h : HpF lt l (n + 1) 0) (hn : n < l.length) : HpF lt (swp l 0 n) n 1 := fun j h1 h2 h3 => by
  have G := gt_swp (l := l) (i := 0) (j := n) (by omega) hn
  rw [G j, G ((j - 1) / 2), if_neg (by omega), if_neg (by omega), if_neg (by omega), if_neg (by omega)]
  exact h j h1 (by omega) (by omega)
theorem gt_dropLast {i : Nat} (h : i + 1 < l.length) : gt l.dropLast i = gt l i := by
  unfold gt
  rw [List.getD_eq_getElem?_getD, List.getD_eq_getElem?_getD, List.getElem?_dropLast, if_pos (by omega)]
theorem dropLast_perm {m : Nat} (h : l.length = m + 1) : l.Perm (gt l m :: l.dropLast) := by
  have e : l = l.dropLast ++ [gt l m] := by
    have h1 : l ≠ [] := fun e => by rw [e] at h; simp at h
    have h2 := List.dropLast_concat_getLast h1
    rw [gt_eq (by omega)]
    rw [List.getLast_eq_getElem] at h2
    have h3 : l.length - 1 = m := by omega
    simp only [h3] at h2
    exact h2.symm
  have h1 : (l.dropLast ++ [gt l m]).Perm (gt l m :: l.dropLast) := List.perm_append_comm
  rw [← e] at h1
  exact h1
/-- what comes of it when the least one is taken -/
structure Took (lt : α → α → Bool) (l : List α) (x : α) (l' : List α) : Prop where
  perm : l.Perm (x :: l')
  heap : HpF lt l' l'.length 0
  least : ∀ y, y ∈ l' → lt y x = false
theorem took (ho : Ord lt) (hs : ∀ a, lt a a = false) (h : HpF lt l (n + 1) 0) (hn : l.length = n + 1) {l2 : List α} (h2 : HpF lt l2 n 0) (hp : l2.Perm (swp l 0 n)) (he : ∀ i, n ≤ i → gt l2 i = gt (swp l 0 n) i) : gt l2 n = gt l 0 ∧ Took lt l (gt l 0) l2.dropLast := by
  have hl2 : l2.length = n + 1 := by rw [hp.length_eq, swp_len, hn]
  have hg : gt l2 n = gt l 0 := by
    rw [he n (Nat.le_refl _), gt_swp (by omega) (by omega), if_pos rfl]
  have hpl : l.Perm (gt l 0 :: l2.dropLast) := by
    refine (swp_perm (l := l) (i := 0) (j := n) (by omega) (by omega)).symm.trans (hp.symm.trans ?_)
    have := dropLast_perm (l := l2) hl2
    rw [hg] at this
    exact this
  refine ⟨hg, hpl, ?_, fun y hy => ?_⟩
  · rw [List.length_dropLast, hl2, Nat.add_sub_cancel]
    exact h2.congr fun i hi => gt_dropLast (by omega)
  · have hm : y ∈ l := hpl.mem_iff.2 (List.mem_cons_of_mem _ hy)
    obtain ⟨j, hj⟩ := List.mem_iff_getElem?.1 hm
    have hj1 := (List.getElem?_eq_some_iff.1 hj).1
    rw [← gt_some hj]
    exact h.root ho hs (n + 1) j (by omega) (by omega)
end
end Hp
end Go.Proofs.Ytlabbmfiecbigaa

namespace Go.Proofs.Ytlabbmfiecbigaa.Post
open Go.RowKit Go.WideShapes Go.ChangeShapes
section
variable {H : Type} {enc : TypeId × Value → H} {P : Program}

theorem trodAll_kept (hl : laidOutB P = true) {W W' : World} (hb : Below W.heap.size W W') : ∀ (ts : List TypeId) (vs : List Value) (ds : List (DataW H)) (ps : List MemPlace),
    (ts.all fun t => P.readableRec t && decide (t < P.types.size)) = true → DataW.TrodAll enc P W 0 (fun _ => true) true ts vs ds ps → (∀ x ∈ ps, x.block < W.heap.size) →
    DataW.TrodAll enc P W' 0 (fun b => decide (b < W.heap.size)) true ts vs ds ps
  | [], [], [], _, _, h, _ => h
  | [], [], _ :: _, _, _, h, _ => h.elim
  | [], _ :: _, _, _, _, h, _ => h.elim
  | _ :: _, [], _, _, _, h, _ => h.elim
  | _ :: _, _ :: _, [], _, _, h, _ => h.elim
  | t :: ts, v :: vs, d :: ds, ps, hr, h, hlt => by
    obtain ⟨p, q, h1, h2, rfl⟩ := h
    simp only [List.all_cons, Bool.and_eq_true, decide_eq_true_eq] at hr
    exact ⟨p, q, Below.trod hl hr.1.1 hr.1.2 h1 hb (fun x hx => hlt x (List.mem_append_left _ hx)),
      trodAll_kept hl hb ts vs ds q (by simpa using hr.2) h2 (fun x hx => hlt x (List.mem_append_right _ hx)), rfl⟩

theorem law_post {f : Func} {s : ChangeSpec} {W W' : World} {args : Array Value} {ds : List (DataW H)} {before : List MemPlace} {tb : TypeId}
    (hl : laidOutB P = true) (hread : (f.params.toList.all fun t => P.readableRec t && decide (t < P.types.size)) = true)
    (hW : DataW.Whole enc P f.params.toList s.vars false W args.toList ds [] before) (hv : s.vars = []) (hfn : s.fn H ds = { results := [.lit (.bool true)], args := ds })
    (hrt : f.resultTypes = #[tb]) (htb : P.underlying tb = some .bool) (hb : Below W.heap.size W W') : s.post enc P f false true false false W args (.bool true) W' := by
  have hW2 := hW
  obtain ⟨p, q, hA, hV, hps, _, _⟩ := hW
  have hq : q = [] := by rw [hv] at hV; exact hV
  subst hq
  have hbp : before = p := by rw [hps, List.append_nil]
  subst hbp
  refine ⟨ds, [], before, [], before, [], hW2, ?_, ?_, ?_, ?_, fun h => by cases h⟩
  · rw [List.append_nil, hfn, hrt]
    exact ⟨[], [], shut_bool htb _, rfl, rfl⟩
  · rw [List.append_nil, hfn]
    exact trodAll_kept hl hb _ _ _ _ hread hA (fun x hx => hW2.lt x hx)
  · rw [List.append_nil, hfn, hv]
    exact rfl
  · exact hb.frame _
end
end Go.Proofs.Ytlabbmfiecbigaa.Post

namespace Go.Proofs.Ytlabbmfiecbigaa
open Go.RowKit Go.WideShapes Go.ChangeShapes Go.Deep
namespace Cf
theorem array8 {α : Type} {cs : Array α} (h : cs.size = 8) : ∃ c0 c1 c2 c3 c4 c5 c6 c7, cs = #[c0, c1, c2, c3, c4, c5, c6, c7] := by
  obtain ⟨l⟩ := cs
  match l, h with
  | [c0, c1, c2, c3, c4, c5, c6, c7], _ => exact ⟨c0, c1, c2, c3, c4, c5, c6, c7, rfl⟩
theorem cfg_one : oneCellFields Try.prog (Try.prog.fieldsOf 23) = true := by kernel_rfl
theorem cfg_at (j : Nat) (hj : j < 8) : ∃ f, (Try.prog.fieldsOf 23)[j]? = some f ∧ f.type = 3 := by
  have h : ∀ j : Fin 8, ((Try.prog.fieldsOf 23)[j.val]?.map fun f => f.type) = some 3 := by decide +kernel
  have := h ⟨j, hj⟩
  rw [Option.map_eq_some_iff] at this
  exact this
set_option maxRecDepth 100000 in
theorem open_cfg {H : Type} {enc : TypeId × Value → H} {W : World} {v : Value} {d : DataW H} {p : List MemPlace} {r : Reach} {b0 : Nat} (hv : Value.okWide Try.prog W r b0 23 v) (h : DataW.Trod enc Try.prog W 0 (fun _ => true) true 23 v d p) :
    ∃ b y fr fa bu le ke va : Int, v = .agg #[.int .i64 b, .int .i64 y, .int .i64 fr, .int .i64 fa, .int .i64 bu, .int .i64 le, .int .i64 ke, .int .i64 va] := by
  have hu : Try.prog.underlying 23 = some (.struct (Try.prog.fieldsOf 23)) := by kernel_rfl
  obtain ⟨cs, rfl, hsz⟩ := okWide_struct hu hv
  have h8 : Try.prog.cellsOf 23 = 8 := by kernel_rfl
  rw [h8] at hsz
  obtain ⟨fuel, hf⟩ := h
  obtain ⟨ys, n', _, _, hlen, hyl, hfl⟩ := DataW.trod_struct hu hf
  have each : ∀ (j : Nat) (u : Value), cs[j]? = some u → ∃ z, u = .int .i64 z := fun j u hj => by
    have hj8 : j < 8 := by
      rw [← hsz]
      exact (Array.getElem?_eq_some_iff.1 hj).1
    obtain ⟨f, hfj, hft⟩ := cfg_at j hj8
    obtain ⟨ho, hk⟩ := hone_of cfg_one j f hfj
    have h1 := hfl j f hfj
    rw [ho, hk, hft] at h1
    have hu1 : ((Value.agg cs).cells.toList.drop j).take 1 = [u] := by
      simp only [Value.cells]
      have hl : cs.toList[j]? = some u := by simpa using hj
      rw [List.getElem?_eq_some_iff] at hl
      obtain ⟨h2, h3⟩ := hl
      rw [List.drop_eq_getElem_cons h2, h3]
      rfl
    rw [hu1] at h1
    have hj' : j < ys.length := by
      rw [hyl]
      exact (Array.getElem?_eq_some_iff.1 hfj).1
    rw [List.getElem?_eq_getElem hj'] at h1
    obtain ⟨z, hz, _, _⟩ := DataW.trod_int Try.underlying3 h1
    exact ⟨z, by simpa using hz⟩
  obtain ⟨c0, c1, c2, c3, c4, c5, c6, c7, rfl⟩ := array8 hsz
  obtain ⟨z0, rfl⟩ := each 0 c0 rfl
  obtain ⟨z1, rfl⟩ := each 1 c1 rfl
  obtain ⟨z2, rfl⟩ := each 2 c2 rfl
  obtain ⟨z3, rfl⟩ := each 3 c3 rfl
  obtain ⟨z4, rfl⟩ := each 4 c4 rfl
  obtain ⟨z5, rfl⟩ := each 5 c5 rfl
  obtain ⟨z6, rfl⟩ := each 6 c6 rfl
  obtain ⟨z7, rfl⟩ := each 7 c7 rfl
  exact ⟨z0, z1, z2, z3, z4, z5, z6, z7, rfl⟩
end Cf
end Go.Proofs.Ytlabbmfiecbigaa
