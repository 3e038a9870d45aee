/-
  A map of the call's own from blocks to bools, beside a pool: just those that are held are in it.
-/
import Derived.Test.YtndbbpdggggenaaDoorPoolPair
import Derived.Maps.OwnSet
import Derived.Maps.OwnOps
namespace Go.Proofs.YtndbbpdggggenaaDoor
open Go.RowKit Go.Maps
namespace Po
open Mem Bt

theorem keyed : Keyed Tryd.prog 23 := int_keyed Tryd.underlying23
theorem zeroB (w : World) : (zeroValue 4).run Tryd.prog w = .ok (.bool false) w := by kernel_rfl
/-- a block as a key -/
def kl (i : Nat) : Lit := .int .u32 (i : Int)
/-- block m is a map: just the places that t has, each true -/
structure MU (w : World) (m : Nat) (t : List Bool) : Prop where
  own : ∃ D : DataW Unit, w.ownsMap Tryd.prog 23 (plainElem Tryd.prog 4) m (cnt t) D ∧
    (∀ i : Nat, i < 4294967296 → D.atKey (kl i) (.lit (.bool false)) = .lit (.bool (t.getD i false))) ∧ (∀ i : Nat, i < 4294967296 → Maps.has D (kl i) = t.getD i false) ∧ Maps.size D = cnt t
theorem tight {w : World} {k : TypeId} {R : Value → Option (DataW Unit × List MemPlace)} {b n : Nat} {D : DataW Unit} (h : w.ownsMap Tryd.prog k R b n D) : w.ownsMap Tryd.prog k R b (Maps.size D) D := by
  obtain ⟨es, clock, hb, F, _, rfl⟩ := h
  exact ⟨es, clock, hb, F, by simp [Maps.size, length_sorted], rfl⟩
theorem plainElem_bool_inv {P : Program} {e : TypeId} (he : P.underlying e = some .bool) {v : Value} {z : DataW Unit × List MemPlace} (h : plainElem P e v = some z) : ∃ x, v = .bool x ∧ z.1 = .lit (.bool x) := by
  unfold plainElem at h
  rw [he] at h
  cases v <;> simp at h
  exact ⟨_, rfl, by rw [← h]⟩
theorem kl_key {i : Nat} (hi : i < 4294967296) : keyOf Tryd.prog 23 (.int .u32 (i : Int)) = some (kl i) :=
  keyOf_int_mk Tryd.underlying23 (by
    have h1 : IntKind.u32.min = 0 := rfl
    have h2 : IntKind.u32.max = 4294967295 := rfl
    simp only [Lit.wf, Bool.and_eq_true, decide_eq_true_eq]
    omega)
theorem kl_ne {i k : Nat} (h : i ≠ k) : kl i ≠ kl k := fun e => h (by
  unfold kl at e
  injection e with _ e
  omega)
theorem cnt_put {t : List Bool} {k : Nat} (hk : k < t.length) (hv : t.getD k false = false) : cnt (t.set k true) = cnt t + 1 := by
  unfold cnt
  rw [List.length_set]
  exact pc_one (i := k) hv (by rw [getD_set _ _ _ _ _ hk]; simp) (fun j hj => by rw [getD_set _ _ _ _ _ hk, if_neg hj]) hk
theorem cnt_cut {t : List Bool} {k : Nat} (hk : k < t.length) (hv : t.getD k false = true) : cnt (t.set k false) + 1 = cnt t := by
  have h1 := cnt_put (t := t.set k false) (k := k) (by rw [List.length_set]; exact hk) (by rw [getD_set _ _ _ _ _ hk, if_pos rfl])
  rw [List.set_set, set_same hk hv] at h1
  exact h1.symm
section
variable {w w' : World} {m : Nat} {t : List Bool}
theorem MU.keep (h : MU w m t) (hk : w'.heap[m]? = w.heap[m]?) : MU w' m t := by
  obtain ⟨D, ⟨es, clock, hb, hr⟩, h2⟩ := h.own
  exact ⟨D, ⟨es, clock, hk.trans hb, hr⟩, h2⟩
theorem MU.lt (h : MU w m t) : m < w.heap.size := by
  obtain ⟨D, h1, _⟩ := h.own
  exact h1.lt
theorem MU.obj (h : MU w m t) : ∃ es clock, w.heap[m]? = some (.map es clock) := by
  obtain ⟨D, ⟨es, clock, hb, _⟩, _⟩ := h.own
  exact ⟨es, clock, hb⟩
theorem MU.made (w : World) (n : Nat) : MU (w.alloc (.map #[] 0)) w.heap.size (List.replicate n false) := by
  have e : ∀ i : Nat, (List.replicate n false).getD i false = false := fun i => by
    simp only [List.getD, List.getElem?_replicate]; split <;> rfl
  have hc : cnt (List.replicate n false) = 0 := by
    unfold cnt
    rw [pc_none fun i _ => e i]
  refine ⟨.map [], by rw [hc]; exact World.ownsMap_made w _ _ _, fun i _ => ?_, fun i _ => ?_, by rw [hc]; rfl⟩
  · rw [e]; rfl
  · rw [e]; rfl
/-- 'm[i]' -/
theorem MU.look (h : MU w m t) {i : Nat} (hi : i < 4294967296) : (Instr.lookup 51 (.map (some m)) (.int .u32 (i : Int)) false).run Tryd.prog w = .ok (.bool (t.getD i false)) w := by
  obtain ⟨D, h1, h2, _⟩ := h.own
  obtain ⟨v, ps, hrun, hv⟩ := h1.lookup keyed Tryd.underlying51 (zeroB w) (plainElem_bool Tryd.underlying4 false) (kl_key hi)
  obtain ⟨x, rfl, hx⟩ := plainElem_bool_inv Tryd.underlying4 hv
  rw [h2 i hi] at hx
  simp only [DataW.lit.injEq, Lit.bool.injEq] at hx
  rw [hrun, hx]
/-- 'len(m)' -/
theorem MU.len_ (h : MU w m t) (ty : TypeId) : (Builtin.len_ #[51] ty #[.map (some m)]).run Tryd.prog w = .ok (.int .i64 (cnt t : Int)) w := by
  obtain ⟨D, h1, _, _, h4⟩ := h.own
  rw [h1.len Tryd.underlying51 ty, h4]
/-- 'm[k] = true' -/
theorem MU.store (h : MU w m t) {k : Nat} (hk : k < t.length) (hk32 : k < 4294967296) (hv : t.getD k false = false) (hl : t.length ≤ 65536) :
    ∃ w', (Instr.mapUpdate 51 (.map (some m)) (.int .u32 (k : Int)) (.bool true)).run Tryd.prog w = .ok () w' ∧ MU w' m (t.set k true) ∧ Flow.Into [m] w w' := by
  obtain ⟨D, h1, h2, h3, h4⟩ := h.own
  have hT := h1.tidy keyed
  have hM := h1.isMap
  have hc := cnt_le t
  obtain ⟨w', hrun, h5, h6⟩ := h1.update keyed Tryd.underlying51 (by unfold maxLen; omega) (kl_key hk32) (plainElem_bool Tryd.underlying4 true)
  have hs : Maps.size (D.put (kl k) (.lit (.bool true))) = cnt (t.set k true) := by
    rw [size_put hT, h3 k hk32, h4, hv, cnt_put hk hv]; rfl
  refine ⟨w', hrun, ⟨_, by rw [← hs]; exact tight h5, fun i hi => ?_, fun i hi => ?_, hs⟩, ⟨h6.os, h6.tape, h6.output, h6.size, fun b hb hn => h6.block b hb (by simpa using fun e => hn (by simp [e]))⟩⟩
  · rw [getD_set _ _ _ _ _ hk]
    by_cases he : i = k
    · subst he
      rw [atKey_put_same hM (by trivial), if_pos rfl]
    · rw [atKey_put_other (kl_ne he), if_neg he, h2 i hi]
  · rw [getD_set _ _ _ _ _ hk]
    by_cases he : i = k
    · subst he
      rw [has_put_same hM (by trivial), if_pos rfl]
    · rw [has_put_other (kl_ne he), if_neg he, h3 i hi]
/-- 'delete(m, k)' -/
theorem MU.drop (h : MU w m t) {k : Nat} (hk : k < t.length) (hk32 : k < 4294967296) (hv : t.getD k false = true) (ty : TypeId) :
    ∃ w', (Builtin.delete_ #[51, 23] ty #[.map (some m), .int .u32 (k : Int)]).run Tryd.prog w = .ok (.tuple #[]) w' ∧ MU w' m (t.set k false) ∧ Flow.Into [m] w w' := by
  obtain ⟨D, h1, h2, h3, h4⟩ := h.own
  have hT := h1.tidy keyed
  obtain ⟨w', hrun, h5, h6⟩ := h1.drop keyed Tryd.underlying51 (kl_key hk32) ty
  have h6 := h6.grown
  have hs : Maps.size (D.del (kl k)) = cnt (t.set k false) := by
    have e1 := size_del (k := kl k) hT
    have e2 := cnt_cut hk hv
    rw [h3 k hk32, hv, h4] at e1
    simp only [if_true] at e1
    omega
  refine ⟨w', hrun, ⟨_, by rw [← hs]; exact tight h5, fun i hi => ?_, fun i hi => ?_, hs⟩, ⟨h6.os, h6.tape, h6.output, h6.size, fun b hb hn => h6.block b hb (by simpa using fun e => hn (by simp [e]))⟩⟩
  · rw [getD_set _ _ _ _ _ hk]
    by_cases he : i = k
    · subst he
      rw [atKey_del_same, if_pos rfl]
    · rw [atKey_del_other (kl_ne he), if_neg he, h2 i hi]
  · rw [getD_set _ _ _ _ _ hk]
    by_cases he : i = k
    · subst he
      rw [has_del_same, if_pos rfl]
    · rw [has_del_other (kl_ne he), if_neg he, h3 i hi]
end

/-- the pool (places tp) and the map (places tm), both made behind W -/
structure Os (W w : World) (q g b m n : Nat) (tp tm : List Bool) : Prop where
  pw : Pw W w q g b tp
  mp : MU w m tm
  hm : W.heap.size ≤ m
  lp : tp.length = n
  lm : tm.length = n
section
variable {W w w' : World} {q g b m n : Nat} {tp tm t : List Bool}
theorem Os.ne (H : Os W w q g b m n tp tm) : q ≠ m ∧ g ≠ m ∧ b ≠ m := by
  obtain ⟨es, clock, ho⟩ := H.mp.obj
  obtain ⟨c, ws, hw⟩ := H.pw.rw.row
  have hd := H.pw.hd
  refine ⟨?_, ?_, ?_⟩
  · rintro rfl
    rw [hd] at ho; cases ho
  · rintro rfl
    rw [hw.hd] at ho; cases ho
  · rintro rfl
    obtain ⟨_, h2⟩ := hw.ow
    rcases h2 with ⟨h2, _⟩ | ⟨g2, c2, cur2, e2, _, hh2, _⟩
    · cases h2
    · obtain ⟨rfl, rfl⟩ : b = g2 ∧ c = c2 := by simpa using e2
      rw [hh2] at ho; cases ho
theorem Os.kept (H : Os W w q g b m n tp tm) (hT : Tab W) (hb : Below w.heap.size w w') : Os W w' q g b m n tp tm := ⟨H.pw.kept hT hb, H.mp.keep (hb.block _ H.mp.lt), H.hm, H.lp, H.lm⟩
theorem Os.pool (H : Os W w q g b m n tp tm) {tp' : List Bool} (hp : Pw W w' q g b tp') (hi : Flow.Into [b] w w') (hl : tp'.length = tp.length) : Os W w' q g b m n tp' tm :=
  ⟨hp, H.mp.keep (hi.block _ H.mp.lt (by simpa using H.ne.2.2.symm)), H.hm, by rw [hl, H.lp], H.lm⟩
theorem Os.le (H : Os W w q g b m n tp tm) : 1 ≤ n ∧ n ≤ 65536 := by
  have := H.pw.len
  rw [H.lp] at this
  exact this
theorem Os.store (H : Os W w q g b m n tp tm) (hT : Tab W) {k : Nat} (hk : k < n) (hv : tm.getD k false = false) :
    ∃ w', (Instr.mapUpdate 51 (.map (some m)) (.int .u32 (k : Int)) (.bool true)).run Tryd.prog w = .ok () w' ∧ Os W w' q g b m n tp (tm.set k true) ∧ Flow.Into [m] w w' := by
  have := H.le
  obtain ⟨w', h1, h2, h3⟩ := H.mp.store (k := k) (by rw [H.lm]; exact hk) (by omega) hv (by rw [H.lm]; omega)
  exact ⟨w', h1, ⟨H.pw.far hT h3 H.ne H.hm, h2, H.hm, H.lp, by rw [List.length_set]; exact H.lm⟩, h3⟩
theorem Os.drop (H : Os W w q g b m n tp tm) (hT : Tab W) {k : Nat} (hk : k < n) (hv : tm.getD k false = true) (ty : TypeId) :
    ∃ w', (Builtin.delete_ #[51, 23] ty #[.map (some m), .int .u32 (k : Int)]).run Tryd.prog w = .ok (.tuple #[]) w' ∧ Os W w' q g b m n tp (tm.set k false) := by
  have := H.le
  obtain ⟨w', h1, h2, h3⟩ := H.mp.drop (k := k) (by rw [H.lm]; exact hk) (by omega) hv ty
  exact ⟨w', h1, ⟨H.pw.far hT h3 H.ne H.hm, h2, H.hm, H.lp, by rw [List.length_set]; exact H.lm⟩⟩
theorem UL.map_kept {A : Option Addr} {l : List Nat} (h : UL w A l) (hm : MU w m t) (hi : Flow.Into [m] w w') : UL w' A l := fun h0 => by
  obtain ⟨b, rfl, hlt, hc⟩ := h h0
  obtain ⟨es, clock, ho⟩ := hm.obj
  have hne : b ≠ m := by
    rintro rfl
    have := hc 0 h0
    simp [World.cell?, ho] at this
  exact UL.into (fun _ => ⟨b, rfl, hlt, hc⟩) hi (fun a ha => by
    obtain rfl := Option.some.inj ha
    simpa using hne) h0
end
/-- 'delete(m, k)', as an arm of the walk -/
theorem wpList_delete_os {W w : World} {q g b m n : Nat} {tp tm : List Bool} {ops : Array Oper} {rest : List Oper} {o : Oper} {a : Go.Act} {Q : Exit → Go.Act → World → Prop} (hgd : o.guard = none) (s x : Operand)
    (ho : o.op = .call { callee := .builtin .delete, args := #[s, x], argTypes := #[51, 23] }) (hs : a.eval s = .map (some m)) (k : Nat) (hx : a.eval x = .int .u32 (k : Int)) (H : Os W w q g b m n tp tm) (hT : Tab W) (hk : k < n) (hv : tm.getD k false = true)
    (h : ∀ w', Hid (Os W w' q g b m n tp (tm.set k false)) → wpList Tryd.prog ops Q rest (a.put o.dst (.tuple #[])) w') : wpList Tryd.prog ops Q (o :: rest) a w := by
  refine wpList_plain hgd fun K hK => ?_
  obtain ⟨w', hrun, r1⟩ := H.drop hT hk hv o.type
  unfold Oper.wp execOp
  simp only [ho, resolve, invoke, builtin, Sem.run_bind, Sem.run_pure, Result.andThen_ok, List.map_toArray, List.map_cons, List.map_nil, hs, hx, hrun]
  exact hK _ _ (h w' r1)
/-- what was given out: all free in t, and t1 is t with them taken -/
def Gift (t : List Bool) (l : List Nat) (t1 : List Bool) : Prop := Fresh t l ∧ setAll t l = t1 ∧ ∀ x, x ∈ l → x < t.length
theorem Got.gift {t t1 : List Bool} {k : Nat} {l : List Nat} (h : Got t k t1 l) : Gift t l t1 := ⟨h.fresh.1, h.fresh.2, fun _ hx => h.lt hx⟩
theorem Gift.nil (t : List Bool) : Gift t [] t := ⟨fun k h => absurd h (by simp), rfl, fun x hx => by cases hx⟩
theorem setAll_next (t : List Bool) (l : List Nat) {k : Nat} (hk : k < l.length) : (setAll t (l.take k)).set l[k] true = setAll t (l.take (k + 1)) := by
  rw [List.take_succ_eq_append_getElem hk, setAll_append]; rfl
/-- what Give answers -/
theorem gv_ok {t : List Bool} {i : Nat} (h : gvE t i = 0) : i < t.length ∧ t.getD i false = true ∧ gvT t i = t.set i false := by
  unfold gvE at h
  split at h
  · cases h
  · rename_i h0
    unfold clrE at h
    by_cases hin : i < t.length
    · rw [in_lt hin, has_nat] at h
      have e2 : gvT t i = t.set i false := by
        unfold gvT clrT
        rw [if_neg h0, in_lt hin]; rfl
      cases hv : t.getD i false with
      | true => exact ⟨hin, rfl, e2⟩
      | false => rw [hv] at h; simp at h
    · rw [in_ge hin] at h; simp at h
theorem gv_no {t : List Bool} {i : Nat} (h : gvE t i ≠ 0) : gvT t i = t := by
  unfold gvE at h
  unfold gvT
  split at h
  · rename_i h0
    rw [if_pos h0]
  · rename_i h0
    rw [if_neg h0]
    unfold clrE at h
    unfold clrT
    by_cases hin : i < t.length
    · rw [in_lt hin, has_nat] at h
      rw [in_lt hin]
      cases hv : t.getD i false with
      | true => rw [hv] at h; simp at h
      | false => exact set_same hin hv
    · rw [in_ge hin]; rfl
end Po
end Go.Proofs.YtndbbpdggggenaaDoor
