/-
  What CacheReads remembers of each block, beside a cache.
-/
import Derived.Test.YtcpdbdaallbphaaCacheActs
import Derived.Test.YtcpdbdaallbphaaCacheCur
import Derived.Test.YtcpdbdaallbphaaDevRef2
namespace Go.Proofs.Ytcpdbdaallbphaa
open Go.RowKit
namespace Ca
open Mem Dv Cn Po

theorem dev_keep {w w' : World} {S : List Nat} {g m : Nat} {ls : List (List UInt8)} {r s : Nat} {T : List Nat} (h : Dev w S g m ls r s) (hi : Flow.Into T w w') (hn : ∀ x, x ∈ S → x ∉ T) : Dev w' S g m ls r s := h.into hi hn
theorem Cw.into {w w' : World} {F T : List Nat} {p g : Nat} {st : St} (h : Cw w F p g st) (hi : Flow.Into T w w') (hn : ∀ x, x ∈ F → x ∉ T) : Cw w' F p g st := by
  obtain ⟨S, f, mp, ch, cb, qk, h1, h2, h3, h4, h5, h6⟩ := h
  have hb : ∀ x, x ∈ F → w'.heap[x]? = w.heap[x]? := fun x hx => hi.block x (h6 x hx) (hn x hx)
  refine ⟨S, f, mp, ch, cb, qk, ⟨(hb p (h3 p (by simp))).trans h1.hd, h1.fw.keep (hb f (h3 f (by simp))), fun j x hx => (hb _ (h4 j x hx)).trans (h1.by_ j x hx), h1.mc.keep (hb mp (h3 mp (by simp))), h1.cn.into hi (hn ch (h3 ch (by simp))) (hn cb (h3 cb (by simp))), h1.dv.into hi fun x hx => hn x (h2 x hx), h1.nd, h1.out, h1.q1, h1.q2⟩, h2, h3, h4, h5, fun x hx => Nat.lt_of_lt_of_le (h6 x hx) hi.size⟩
theorem Cl.into {W w w' : World} {F T : List Nat} {p g : Nat} {st : St} (h : Cl W w F p g st) (hi : Flow.Into T w w') (hn : ∀ x, x ∈ F → x ∉ T) (hT : ∀ x, x ∈ T → W.heap.size ≤ x) : Cl W w' F p g st :=
  ⟨h.cw.into hi hn, h.lo, h.bl.trans (below_of_into hi hT h.bl.size)⟩
/-- nine texts -/
def isV (f : Nat → List UInt8) : List Value := (List.range 9).map fun i => .string (strOf (f i))
theorem isV_at (f : Nat → List UInt8) {i : Nat} (hi : i < 9) : (isV f)[i]? = some (.string (strOf (f i))) := by
  unfold isV
  rw [List.getElem?_map, List.getElem?_range hi]
  rfl
theorem isV_set (f : Nat → List UInt8) (i : Nat) (y : List UInt8) : (isV f).set i (.string (strOf y)) = isV (fun x => if x = i then y else f x) := by
  apply List.ext_getElem?
  intro j
  rw [List.getElem?_set]
  unfold isV
  by_cases hj : j < 9
  · by_cases e : i = j
    · subst e
      rw [if_pos rfl, if_pos (by simpa using hj), List.getElem?_map, List.getElem?_range hj]
      simp
    · rw [if_neg e, List.getElem?_map, List.getElem?_map, List.getElem?_range hj]
      have e' : ¬ j = i := fun e' => e e'.symm
      simp [e']
  · have e1 : ((List.range 9).map fun x => Value.string (strOf (f x)))[j]? = none := List.getElem?_eq_none (by simp; omega)
    have e2 : ((List.range 9).map fun x => Value.string (strOf (if x = i then y else f x)))[j]? = none := List.getElem?_eq_none (by simp; omega)
    rw [e1, e2]
    by_cases e : i = j
    · rw [if_pos e, if_neg (by simp; omega)]
    · rw [if_neg e]
theorem isV_congr {f g : Nat → List UInt8} (h : ∀ i, i < 9 → f i = g i) : isV f = isV g := by
  unfold isV
  refine List.map_congr_left fun i hi => ?_
  rw [h i (by simpa using hi)]
def IsW (U : TypeId) (w : World) (ib : Nat) (f : Nat → List UInt8) : Prop := Cells U w ib (isV f)
theorem IsW.set {U : TypeId} {w : World} {ib : Nat} {f : Nat → List UInt8} (h : IsW U w ib f) (i : Nat) (y : List UInt8) : IsW U (w.setCell ⟨ib, i, none⟩ (.string (strOf y))) ib (fun x => if x = i then y else f x) := by
  unfold IsW
  rw [← isV_set]
  exact cells_set h i _
theorem IsW.cell {U : TypeId} {w : World} {ib : Nat} {f : Nat → List UInt8} (h : IsW U w ib f) {i : Nat} (hi : i < 9) : w.cell? ⟨ib, i, none⟩ = some (.string (strOf (f i))) := cells_cell h (isV_at f hi)
theorem IsW.free {U : TypeId} {w : World} {ib : Nat} {f : Nat → List UInt8} (h : IsW U w ib f) (i : Nat) : w.frozen? ⟨ib, i, none⟩ = false := cells_free h i
theorem IsW.lt {U : TypeId} {w : World} {ib : Nat} {f : Nat → List UInt8} (h : IsW U w ib f) : ib < w.heap.size := Cells.lt h
theorem IsW.keep {U : TypeId} {w w' : World} {ib : Nat} {f : Nat → List UInt8} (h : IsW U w ib f) (hk : w'.heap[ib]? = w.heap[ib]?) : IsW U w' ib f := hk.trans h
theorem IsW.congr {U : TypeId} {w : World} {ib : Nat} {f g : Nat → List UInt8} (h : IsW U w ib f) (hf : ∀ i, i < 9 → f i = g i) : IsW U w ib g := by
  unfold IsW; rw [← isV_congr hf]; exact h
/-- an image of 18 bytes, in nine blocks -/
theorem cur_new {n : Nat} {img : List UInt8} {i : Nat} (hi : i < 9) : cur (st0 2 n (chunks img 2 9) 0 0) i = win img (i * 2) 2 := by
  have hl : look (st0 2 n (chunks img 2 9) 0 0).fr i = none := look_none_of fun j g hg => (repl_none hg).elim
  rw [cur_none hl]
  unfold st0 chunks
  simp only
  rw [List.getElem?_map, List.getElem?_range hi]
  rfl
theorem chunks_len (img : List UInt8) : (chunks img 2 9).length = 9 := by simp [chunks]
theorem flat_next (f : Nat → List UInt8) (k : Nat) : ((List.range (k + 1)).map f).flatten = ((List.range k).map f).flatten ++ f k := by
  rw [List.range_succ, List.map_append, List.flatten_append]
  simp
/-- between two rounds -/
structure RC (W wr : World) (F : List Nat) (p g : Nat) (st : St) (k ib : Nat) : Prop where
  cl : Cl W wr F p g st
  sm : Sm st (12 * k)
  ll : st.ls.length = 9
  m2 : st.m = 2
  isw : IsW 64 wr ib (cur st)
  nf : ib ∉ F
  lo : W.heap.size ≤ ib
theorem RC.kept {W wr w' : World} {F : List Nat} {p g : Nat} {st : St} {k ib : Nat} (h : RC W wr F p g st k ib) (hb : Below wr.heap.size wr w') : RC W w' F p g st k ib := ⟨h.cl.kept hb, h.sm, h.ll, h.m2, h.isw.keep (hb.block ib h.isw.lt), h.nf, h.lo⟩
theorem RC.next {W wr : World} {F : List Nat} {p g : Nat} {st : St} {k ib : Nat} (h : RC W wr F p g st k ib) : RC W wr F p g st (k + 1) ib := ⟨h.cl, h.sm.mono (by omega), h.ll, h.m2, h.isw, h.nf, h.lo⟩
theorem step_keeps (st : St) (k : Int) (b : Nat) (y : List UInt8) : (stepT st k b y).2.m = st.m ∧ (stepT st k b y).2.ls.length = st.ls.length := by
  unfold stepT
  split
  · exact ⟨(cost_pin st b).m, (cost_pin st b).ll⟩
  split
  · exact ⟨(cost_fresh st b).m, (cost_fresh st b).ll⟩
  split
  · exact ⟨(cost_unpin st b).m, (cost_unpin st b).ll⟩
  split
  · exact ⟨(cost_write st b y).m, (cost_write st b y).ll⟩
  split
  · exact ⟨(cost_drop st b).m, (cost_drop st b).ll⟩
  split
  · exact ⟨(cost_flush st).m, (cost_flush st).ll⟩
  split <;> exact ⟨rfl, rfl⟩
theorem box3_cells {w : World} {b : Nat} {v0 v1 v2 : Value} (h : w.heap[b]? = some (.cells #[v0, v1, v2] 44 (0, 0))) : w.cell? ⟨b, 0, none⟩ = some v0 ∧ w.cell? ⟨b, 1, none⟩ = some v1 ∧ w.cell? ⟨b, 2, none⟩ = some v2 := by
  simp [World.cell?, h]
theorem cur_len {st : St} (h : Good st) {i : Nat} (hi : i < st.ls.length) : (cur st i).length = st.m := by
  cases hl : look st.fr i with
  | none =>
    rw [cur_none hl, List.getElem?_eq_getElem hi]
    exact h.lm _ (List.getElem_mem hi)
  | some y =>
    obtain ⟨j, f⟩ := y
    rw [cur_some hl]
    exact (h.blk _ _ (look_some hl).1).2
theorem flat_len {f : Nat → List UInt8} (h : ∀ i, i < 9 → (f i).length = 2) : ∀ k, k ≤ 9 → ((List.range k).map f).flatten.length = 2 * k
  | 0, _ => by simp
  | k + 1, hk => by
    rw [flat_next, List.length_append, flat_len h k (by omega), h k (by omega)]
    omega
end Ca
end Go.Proofs.Ytcpdbdaallbphaa
