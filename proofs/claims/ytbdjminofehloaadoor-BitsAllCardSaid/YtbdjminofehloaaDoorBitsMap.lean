/-
  A map of the call's own from places to bools, beside a row.
-/
import Derived.Test.YtbdjminofehloaaDoorBitsAwake
import Derived.Maps.OwnSet
import Derived.Maps.OwnOps
namespace Go.Proofs.YtbdjminofehloaaDoor
open Go.RowKit Go.Maps
namespace Bt
open Mem

theorem keyed : Keyed Tryd.prog 3 := int_keyed Tryd.underlying3
theorem zeroB (w : World) : (zeroValue 4).run Tryd.prog w = .ok (.bool false) w := by kernel_rfl
/-- a place as a key -/
def kl (i : Nat) : Lit := .int .i64 (i : Int)
/-- block m is a map of j entries at most: just the places that t has, each true -/
structure MB (w : World) (m j : Nat) (t : List Bool) : Prop where
  own : ∃ D : DataW Unit, w.ownsMap Tryd.prog 3 (plainElem Tryd.prog 4) m j D ∧
    (∀ i : Nat, i < 9223372036854775808 → D.atKey (kl i) (.lit (.bool false)) = .lit (.bool (t.getD i false))) ∧ (∀ i : Nat, i < 9223372036854775808 → Maps.has D (kl i) = t.getD i false) ∧ Maps.size D = cnt t
section
variable {w w' : World} {m j : Nat} {t : List Bool}
theorem MB.keep (h : MB w m j t) (hk : w'.heap[m]? = w.heap[m]?) : MB w' m j t := by
  obtain ⟨D, ⟨es, clock, hb, hr⟩, h2⟩ := h.own
  exact ⟨D, ⟨es, clock, hk.trans hb, hr⟩, h2⟩
theorem MB.lt (h : MB w m j t) : m < w.heap.size := by
  obtain ⟨D, h1, _⟩ := h.own
  exact h1.lt
theorem MB.obj (h : MB w m j t) : ∃ es clock, w.heap[m]? = some (.map es clock) := by
  obtain ⟨D, ⟨es, clock, hb, _⟩, _⟩ := h.own
  exact ⟨es, clock, hb⟩
theorem MB.made (w : World) (n : Nat) : MB (w.alloc (.map #[] 0)) w.heap.size 0 (List.replicate n false) := by
  have e : ∀ i : Nat, (List.replicate n false).getD i false = false := fun i => by
    simp only [List.getD, List.getElem?_replicate]; split <;> rfl
  refine ⟨.map [], World.ownsMap_made w _ _ _, fun i _ => ?_, fun i _ => ?_, ?_⟩
  · rw [e]; rfl
  · rw [e]; rfl
  · unfold cnt
    rw [pc_none fun i _ => e i]; rfl
theorem plainElem_bool_inv {P : Program} {e : TypeId} (he : P.underlying e = some .bool) {v : Value} {z : DataW Unit × List MemPlace} (h : plainElem P e v = some z) : ∃ x, v = .bool x ∧ z.1 = .lit (.bool x) := by
  unfold plainElem at h
  rw [he] at h
  cases v <;> simp at h
  exact ⟨_, rfl, by rw [← h]⟩
theorem kl_key {i : Nat} (hi : i < 9223372036854775808) : keyOf Tryd.prog 3 (.int .i64 (i : Int)) = some (kl i) :=
  keyOf_int_mk Tryd.underlying3 (by
    have h1 : IntKind.i64.min = -9223372036854775808 := rfl
    have h2 : IntKind.i64.max = 9223372036854775807 := rfl
    simp only [Lit.wf, Bool.and_eq_true, decide_eq_true_eq]
    omega)
theorem kl_ne {i k : Nat} (h : i ≠ k) : kl i ≠ kl k := fun e => h (by
  unfold kl at e
  injection e with _ e
  omega)
/-- 'm[i]' -/
theorem MB.look (h : MB w m j t) {i : Nat} (hi : i < 9223372036854775808) : (Instr.lookup 45 (.map (some m)) (.int .i64 (i : Int)) false).run Tryd.prog w = .ok (.bool (t.getD i false)) w := by
  obtain ⟨D, h1, h2, _⟩ := h.own
  obtain ⟨v, ps, hrun, hv⟩ := h1.lookup keyed Tryd.underlying45 (zeroB w) (plainElem_bool Tryd.underlying4 false) (kl_key hi)
  obtain ⟨x, rfl, hx⟩ := plainElem_bool_inv Tryd.underlying4 hv
  rw [h2 i hi] at hx
  simp only [DataW.lit.injEq, Lit.bool.injEq] at hx
  rw [hrun, hx]
/-- 'len(m)' -/
theorem MB.len_ (h : MB w m j t) (ty : TypeId) : (Builtin.len_ #[45] ty #[.map (some m)]).run Tryd.prog w = .ok (.int .i64 (cnt t : Int)) w := by
  obtain ⟨D, h1, _, _, h4⟩ := h.own
  rw [h1.len Tryd.underlying45 ty, h4]
theorem cnt_set {t : List Bool} {k : Nat} (hk : k < t.length) : cnt (t.set k true) = if t.getD k false then cnt t else cnt t + 1 := by
  cases hv : t.getD k false with
  | true => rw [set_same hk hv]; rfl
  | false =>
    unfold cnt
    rw [List.length_set]
    exact pc_one (i := k) hv (by rw [getD_set _ _ _ _ _ hk]; simp) (fun j hj => by rw [getD_set _ _ _ _ _ hk, if_neg hj]) hk
/-- 'm[k] = true' -/
theorem MB.store (h : MB w m j t) {k : Nat} (hk : k < t.length) (hk64 : k < 9223372036854775808) (hj : j ≤ 1000000) :
    ∃ w', (Instr.mapUpdate 45 (.map (some m)) (.int .i64 (k : Int)) (.bool true)).run Tryd.prog w = .ok () w' ∧ MB w' m (j + 1) (t.set k true) ∧ Flow.Into [m] w w' := by
  obtain ⟨D, h1, h2, h3, h4⟩ := h.own
  have hT := h1.tidy keyed
  have hM := h1.isMap
  obtain ⟨w', hrun, h5, h6⟩ := h1.update keyed Tryd.underlying45 (by unfold maxLen; omega) (kl_key hk64) (plainElem_bool Tryd.underlying4 true)
  refine ⟨w', hrun, ⟨_, h5, fun i hi => ?_, fun i hi => ?_, ?_⟩, ⟨h6.os, h6.tape, h6.output, h6.size, fun b hb hn => h6.block b hb (by simpa using fun e => hn (by simp [e]))⟩⟩
  · rw [getD_set _ _ _ _ _ hk]
    by_cases he : i = k
    · subst he
      rw [atKey_put_same hM (by trivial), if_pos rfl]
    · rw [atKey_put_other (kl_ne he), if_neg he, h2 i hi]
  · rw [getD_set _ _ _ _ _ hk]
    by_cases he : i = k
    · subst he
      rw [has_put_same hM (by trivial), if_pos rfl]
    · rw [has_put_other (kl_ne he), if_neg he, h3 i hi]
  · rw [size_put hT, h3 k hk64, h4, cnt_set hk]
end

/-- the row (tr) and the map (tm), both made behind W -/
structure Ms (W w : World) (g b m j n : Nat) (tr tm : List Bool) : Prop where
  rw : Rw W w g b tr
  mp : MB w m j tm
  hm : W.heap.size ≤ m
  lr : tr.length = n
  lm : tm.length = n
section
variable {W w w' : World} {g b m j n : Nat} {tr tm : List Bool}
theorem Ms.ne (H : Ms W w g b m j n tr tm) : m ≠ g ∧ m ≠ b := by
  obtain ⟨es, clock, ho⟩ := H.mp.obj
  obtain ⟨c, ws, hw⟩ := H.rw.row
  refine ⟨?_, ?_⟩
  · rintro rfl
    rw [hw.hd] at ho; cases ho
  · rintro rfl
    obtain ⟨_, h2⟩ := hw.ow
    rcases h2 with ⟨h2, _⟩ | ⟨g2, c2, cur2, e2, _, hh2, _⟩
    · cases h2
    · obtain ⟨rfl, rfl⟩ : m = g2 ∧ c = c2 := by simpa using e2
      rw [hh2] at ho; cases ho
theorem Ms.kept (H : Ms W w g b m j n tr tm) (hT : Tab W) (hb : Below w.heap.size w w') : Ms W w' g b m j n tr tm := ⟨H.rw.kept hT hb, H.mp.keep (hb.block _ H.mp.lt), H.hm, H.lr, H.lm⟩
theorem Ms.Set (H : Ms W w g b m j n tr tm) (hT : Tab W) {k : Nat} (hk : k < n) : Calls Tryd.prog 11 #[.pointer (some ⟨g, 0, none⟩), .int .i64 (k : Int)] w fun e w' => ∃ x, e = .returned (.int .i64 x) ∧ Ms W w' g b m j n (tr.set k true) tm := by
  have hi : setT tr k = tr.set k true := by
    unfold setT inB
    rw [if_pos (by have := H.lr; simp; omega)]; rfl
  exact (H.rw.Set hT k).mono fun _ _ ⟨he, hr, hI⟩ => ⟨_, he, ⟨by rw [← hi]; exact hr, H.mp.keep (hI.block _ H.mp.lt (by simpa using H.ne.2)), H.hm, by rw [List.length_set]; exact H.lr, H.lm⟩⟩
theorem Ms.store (H : Ms W w g b m j n tr tm) (hT : Tab W) {k : Nat} (hk : k < n) (hn : n ≤ 65536) (hj : j ≤ 1000000) :
    ∃ w', (Instr.mapUpdate 45 (.map (some m)) (.int .i64 (k : Int)) (.bool true)).run Tryd.prog w = .ok () w' ∧ Ms W w' g b m (j + 1) n tr (tm.set k true) := by
  obtain ⟨w', h1, h2, h3⟩ := H.mp.store (k := k) (by rw [H.lm]; exact hk) (by omega) hj
  have hb := below_into H.rw.bel h3 (by simpa using H.hm) H.rw.bel.size
  exact ⟨w', h1, ⟨H.rw.row.into h3 (by simpa using fun e => H.ne.1 e.symm) (by simpa using fun e => H.ne.2 e.symm), hT.below hb, hb, H.rw.hg, H.rw.hb⟩, h2, H.hm, H.lr, by rw [List.length_set]; exact H.lm⟩
theorem Ms.Has (H : Ms W w g b m j n tr tm) (hT : Tab W) (k : Nat) : Calls Tryd.prog 19 #[.pointer (some ⟨g, 0, none⟩), .int .i64 (k : Int)] w fun e w' => e = .returned (.bool (tr.getD k false)) ∧ Ms W w' g b m j n tr tm :=
  (H.rw.Has hT k).mono fun _ _ ⟨he, _, hb⟩ => ⟨by rw [he, has_nat], H.kept hT hb⟩
theorem Ms.look (H : Ms W w g b m j n tr tm) {i : Nat} (hi : i < 9223372036854775808) : (Instr.lookup 45 (.map (some m)) (.int .i64 (i : Int)) false).run Tryd.prog w = .ok (.bool (tm.getD i false)) w := H.mp.look hi
end
/-- a row, and a map for it -/
theorem Rw.made {W w : World} {g b n : Nat} (H : Rw W w g b (List.replicate n false)) (hT : Tab W) : Ms W (w.alloc (.map #[] 0)) g b w.heap.size 0 n (List.replicate n false) (List.replicate n false) :=
  ⟨H.kept hT ((Below.refl _ _).alloc (Nat.le_refl _) _), MB.made w n, H.bel.size, by simp, by simp⟩

/-! ### going from one to the next -/
/-- how many are so ahead of place f, behind which the next is sought -/
theorem next_none {t : List Bool} {f : Nat} {v : Bool} (h : firstO t (f : Int) v = none) (hf : f ≤ t.length) : pc (fun i => t.getD i false == v) f = pc (fun i => t.getD i false == v) t.length := by
  obtain ⟨d, hd⟩ : ∃ d, t.length = f + d := ⟨t.length - f, by omega⟩
  rw [hd, pc_add, pc_none (f := fun i => t.getD (f + i) false == v) fun i hi => by simpa using firstO_none h (f + i) (by omega) (by omega)]; rfl
theorem next_some {t : List Bool} {f r : Nat} {v : Bool} (h : firstO t (f : Int) v = some r) : r < t.length ∧ t.getD r false = v ∧ f ≤ r ∧ pc (fun i => t.getD i false == v) (r + 1) = pc (fun i => t.getD i false == v) f + 1 := by
  obtain ⟨h1, h2, h3, h4⟩ := firstO_some h
  refine ⟨h2, h3, by omega, ?_⟩
  obtain ⟨d, hd⟩ : ∃ d, r = f + d := ⟨r - f, by omega⟩
  subst hd
  show pc _ (f + d) + (if (t.getD (f + d) false == v) then 1 else 0) = _
  rw [h3, pc_add, pc_none (f := fun i => t.getD (f + i) false == v) fun i hi => by simpa using h4 (f + i) (by omega) (by omega)]
  simp
theorem pc_true (t : List Bool) (k : Nat) : pc (fun i => t.getD i false == true) k = pc (fun i => t.getD i false) k := pc_congr fun i _ => by simp
theorem pc_false (t : List Bool) (k : Nat) : pc (fun i => t.getD i false == false) k = k - pc (fun i => t.getD i false) k := by
  rw [← pc_not]
  exact pc_congr fun i _ => by cases t.getD i false <;> rfl
end Bt
end Go.Proofs.YtbdjminofehloaaDoor
