/-
  A region that draws its order: its first operations only read, or call what makes memory (nothing old turns); among them there may be one that lays a new block, at whatever moment; behind them a tail in one order (stores, assigns). One walk, in the order of the text, serves every order. No program.
-/
import Derived.Lib.QuietBelow
import Derived.StillTail
import Derived.WalkKit
namespace Go.Proofs.Ytlabbmfiecbigaa.Calm
open Go.RowKit Go.Sort
section
variable {P : Program} {ops : Array Oper} {md : Region.Mode} {w0 : World}

/-- nothing old has turned (a name of its own: simp shall not open it) -/
def Kept (w w' : World) : Prop := Below w.heap.size w w'
def upon (P : Program) (w : World) (v : Value) : Result Next → Prop
  | .ok (.value u) w' => w' = w ∧ u = v
  | .ok .skip w' => w' = w ∧ v = undef
  | .ok (.enter f args) w' => w' = w ∧ Calls P f args w (fun e w'' => e = .returned v ∧ Kept w w'')
  | _ => False
def calmAt (P : Program) (o : Oper) (a : Act) (w : World) (v : Value) : Prop := upon P w v ((execOp a.eval o).run P w)
/-- one value, in every world that has grown out of the first one -/
def calm (P : Program) (w0 : World) (o : Oper) (a : Act) (next : Act → Prop) : Prop := ∃ v, (∀ p : Regrown, calmAt P o a (grow (redrawn w0 p.d) p.os) v) ∧ next (a.put o.dst v)

/-- the walk in the order of the text -/
def wpCalm (P : Program) (ops : Array Oper) (w0 : World) (Q : Act → Prop) : List Oper → Act → Prop
  | [], a => Q a
  | o :: rest, a => if Region.wanted o (yielded ops a.tmps) then calm P w0 o a (wpCalm P ops w0 Q rest) else wpCalm P ops w0 Q rest (a.put o.dst undef)
theorem wpCalm_nil {Q : Act → Prop} {a : Act} (h : Q a) : wpCalm P ops w0 Q [] a := h
theorem wpCalm_step {Q : Act → Prop} {a : Act} {o : Oper} {rest : List Oper}
    (h : ∀ K : Act → Prop, (∀ a, wpCalm P ops w0 Q rest a → K a) → if Region.wanted o (yielded ops a.tmps) then calm P w0 o a K else K (a.put o.dst undef)) : wpCalm P ops w0 Q (o :: rest) a :=
  h _ (fun _ h => h)

def cOp (P : Program) (ops : Array Oper) (w0 : World) (i : Nat) (K : Act → Prop) (a : Act) : Prop :=
  match ops[i]? with
  | none => K a
  | some o => if Region.wanted o (yielded ops a.tmps) then calm P w0 o a K else K (a.put o.dst undef)

theorem calm_mono {o : Oper} {a : Act} {K K' : Act → Prop} (h : ∀ a, K a → K' a) (hh : calm P w0 o a K) : calm P w0 o a K' :=
  let ⟨v, h1, h2⟩ := hh
  ⟨v, h1, h _ h2⟩
theorem cOp_mono {i : Nat} {a : Act} {K K' : Act → Prop} (h : ∀ a, K a → K' a) (hh : cOp P ops w0 i K a) : cOp P ops w0 i K' a := by
  unfold cOp at *
  cases ho : ops[i]? with
  | none => simp only [ho] at hh ⊢; exact h _ hh
  | some o =>
    simp only [ho] at hh ⊢
    split
    · rename_i hw; rw [if_pos hw] at hh; exact calm_mono h hh
    · rename_i hw; rw [if_neg hw] at hh; exact h _ hh

/-- what an operation yields in every such world -/
def Y (P : Program) (ops : Array Oper) (w0 : World) (o : Oper) (v : Value) (a : Act) : Prop :=
  (Region.wanted o (yielded ops a.tmps) = true ∧ ∀ p : Regrown, calmAt P o a (grow (redrawn w0 p.d) p.os) v) ∨ (Region.wanted o (yielded ops a.tmps) = false ∧ v = undef)
theorem Y.cOp {i : Nat} {o : Oper} {v : Value} {a : Act} (hi : ops[i]? = some o) (hy : Y P ops w0 o v a) {K : Act → Prop} (h : K (a.put o.dst v)) : cOp P ops w0 i K a := by
  unfold Calm.cOp
  simp only [hi]
  rcases hy with ⟨hw, hv⟩ | ⟨hw, rfl⟩
  · rw [if_pos hw]; exact ⟨v, hv, h⟩
  · rw [if_neg (by rw [hw]; exact Bool.false_ne_true)]; exact h
theorem Y.put {o oj : Oper} {v u : Value} {a : Act} (hs : ∀ cs b, o.op ≠ .select cs b) (h3 : ∀ d, oj.dst = some d → d ∉ o.looksAt ops) (hy : Y P ops w0 o v a) : Y P ops w0 o v (a.put oj.dst u) := by
  unfold Y calmAt at *
  rw [execOp_put o hs a oj.dst u h3, wanted_put o a oj.dst u h3]
  exact hy
theorem y_of_cOp {i : Nat} {o : Oper} {a : Act} {K : Act → Prop} (hi : ops[i]? = some o) (h : cOp P ops w0 i K a) : ∃ v, Y P ops w0 o v a ∧ K (a.put o.dst v) := by
  unfold cOp at h
  simp only [hi] at h
  by_cases hw : Region.wanted o (yielded ops a.tmps) = true
  · rw [if_pos hw] at h
    obtain ⟨v, h1, h2⟩ := h
    exact ⟨v, .inl ⟨hw, h1⟩, h2⟩
  · rw [if_neg hw] at h
    exact ⟨undef, .inr ⟨by simpa using hw, rfl⟩, h⟩

theorem cOp_put {j : Nat} {oi oj : Oper} {v : Value} (hj : ops[j]? = some oj) (hap : oi.apart ops oj = true)
    (hsi : ∀ cs b, oi.op ≠ .select cs b) (hsj : ∀ cs b, oj.op ≠ .select cs b) {K : Act → Prop} {a : Act}
    (hy : Y P ops w0 oi v a) (h : cOp P ops w0 j K (a.put oi.dst v)) : cOp P ops w0 j (fun a' => Y P ops w0 oi v a' ∧ K (a'.put oi.dst v)) a := by
  obtain ⟨h1, h2, h3⟩ := Oper.apart_spec hap
  unfold cOp at *
  simp only [hj] at *
  rw [wanted_put oj a oi.dst v h1] at h
  split
  · rename_i hw
    rw [if_pos hw] at h
    obtain ⟨u, hu, hn⟩ := h
    refine ⟨u, fun p => ?_, hy.put hsi h3, by rw [← Act.put_comm a v u h2]; exact hn⟩
    have := hu p
    unfold calmAt at *
    rwa [execOp_put oj hsj a oi.dst v h1] at this
  · rename_i hw
    rw [if_neg hw] at h
    exact ⟨hy.put hsi h3, by rw [← Act.put_comm a v undef h2]; exact h⟩

/-- whatever order is picked: the operations below m come up ahead of all others; number n, if there is one that floats, yields whatever value -/
def wpX (P : Program) (md : Region.Mode) (ops : Array Oper) (w0 : World) (m : Nat) (n : Option Nat) (oF : Oper) (Fin : Value → Array Bool → Act → Prop) : Nat → Option Value → Array Bool → Act → Prop
  | 0, g, listed, a => ∃ p, g = some p ∧ Fin p listed a
  | f + 1, g, listed, a => Region.ready md ops listed ≠ [] ∧ ∀ i ∈ Region.ready md ops listed, i < m ∧
      (if n = some i then ∀ p, wpX P md ops w0 m n oF Fin f (some p) (listed.setIfInBounds i true) (a.put oF.dst p)
       else cOp P ops w0 i (wpX P md ops w0 m n oF Fin f g (listed.setIfInBounds i true)) a)

/-- what is asked of the one that floats: of its value V is known, in every later world -/
structure Floats (P : Program) (ops : Array Oper) (w0 : World) (n : Option Nat) (oF : Oper) (V : Value → World → Prop) : Prop where
  at_n : ∀ i, n = some i → ops[i]? = some oF
  wanted : ∀ i, n = some i → ∀ a : Act, Region.wanted oF (yielded ops a.tmps) = true
  run : ∀ i, n = some i → ∀ (a : Act) (w : World), Below w0.heap.size w0 w → ∃ p w', (execOp a.eval oF).run P w = .ok (.value p) w' ∧ Below w.heap.size w w' ∧ V p w'
  stable : ∀ p w w', V p w → Below w.heap.size w w' → V p w'

theorem wpAny_of_X {m : Nat} {n : Option Nat} {oF : Oper} {Fin : Value → Array Bool → Act → Prop} {V : Value → World → Prop} {Q' : Exit → Act → World → Prop} {g0 : Nat} (hF : Floats P ops w0 n oF V)
    (hL : ∀ p listed a w, Fin p listed a → Below w0.heap.size w0 w → V p w → wpAny P md ops Q' g0 listed a w) :
    ∀ (f : Nat) (g : Option Value) (listed : Array Bool) (a : Act) (w : World), wpX P md ops w0 m n oF Fin f g listed a → Below w0.heap.size w0 w → (∀ p, g = some p → V p w) → wpAny P md ops Q' (f + g0) listed a w
  | 0, g, listed, a, w, h, hw, hg => by
    obtain ⟨p, rfl, h⟩ := h
    rw [Nat.zero_add]
    exact hL _ _ _ _ h hw (hg p rfl)
  | f + 1, g, listed, a, w, h, hw, hg => by
    rw [show f + 1 + g0 = (f + g0) + 1 by omega]
    refine ⟨fun h0 => absurd h0 h.1, fun i hi => ?_⟩
    have h2 := (h.2 i hi).2
    split at h2
    · rename_i hn
      unfold wpOp
      simp only [hF.at_n i hn]
      rw [if_pos (hF.wanted i hn a)]
      obtain ⟨p, w', hr, hb, hV⟩ := hF.run i hn a w hw
      refine .inl ?_
      unfold Oper.wp
      rw [hr]
      exact wpAny_of_X hF hL f (some p) _ _ w' (h2 p) (hw.trans (hb.mono hw.size)) (fun q hq => by cases hq; exact hV)
    · unfold cOp at h2
      unfold wpOp
      cases ho : ops[i]? with
      | none => simp only [ho] at h2 ⊢; exact wpAny_of_X hF hL f g _ _ w h2 hw hg
      | some o =>
        simp only [ho] at h2 ⊢
        split
        · rename_i hwt
          rw [if_pos hwt] at h2
          refine .inl ?_
          obtain ⟨v, h3, h4⟩ := h2
          obtain ⟨p, hp⟩ := regrown_of_below hw
          have h5 := h3 p
          rw [← hp] at h5
          unfold calmAt at h5
          unfold Oper.wp
          generalize (execOp a.eval o).run P w = r at *
          cases r with
          | ok nx w' =>
            cases nx <;> simp only [upon] at h5 <;> simp only [Oper.upon]
            case value u =>
              obtain ⟨e1, e2⟩ := h5
              rw [e1, e2]
              exact wpAny_of_X hF hL f g _ _ w h4 hw hg
            case skip =>
              obtain ⟨e1, e2⟩ := h5
              rw [e1, ← e2]
              exact wpAny_of_X hF hL f g _ _ w h4 hw hg
            case enter fn args =>
              obtain ⟨e1, hc⟩ := h5
              rw [e1]
              exact hc.mono fun e w'' ⟨he, hb⟩ => by
                subst he
                exact wpAny_of_X hF hL f g _ _ w'' h4 (hw.trans (hb.mono hw.size)) (fun q hq => hF.stable _ _ _ (hg q hq) hb)
          | halt x w' => simp only [upon] at h5
        · rename_i hwt
          rw [if_neg hwt] at h2
          exact wpAny_of_X hF hL f g _ _ w h2 hw hg

theorem getD_either {listed : Array Bool} {i : Nat} (h : listed.getD i true = false) : listed.getD i false = false := by
  rcases Nat.lt_or_ge i listed.size with h' | h'
  · simp [h'] at h ⊢; exact h
  · simp [Array.getElem?_eq_none h'] at h

/-- an operation that reads may be taken first -/
theorem wpX_first {m : Nat} {n : Option Nat} {oF : Oper} {Fin : Value → Array Bool → Act → Prop} {i : Nat} {oi : Oper} {v : Value} (hi : ops[i]? = some oi) (hin : n ≠ some i) (him : i < m)
    (hnF : ∀ j, n = some j → ops[j]? = some oF) (hsel : ∀ (j : Nat) (o : Oper) cs b, ops[j]? = some o → o.op ≠ .select cs b)
    (hdone : ∀ p listed a, Fin p listed a → ∀ j ∈ Region.ready md ops listed, m ≤ j)
    (hwait : ∀ (listed : Array Bool) (j : Nat), listed.getD i true = false → j ∈ Region.ready md ops listed → j < m) :
    ∀ (f : Nat) (g : Option Value) (listed : Array Bool) (a : Act),
      (∀ j oj, ops[j]? = some oj → j ≠ i → listed.getD j true = false → (∀ e ∈ oj.after, Region.binds md e = true → e.on ≠ i) → oi.apart ops oj = true) →
      i ∈ Region.ready md ops listed → Y P ops w0 oi v a →
      wpX P md ops w0 m n oF Fin f g (listed.setIfInBounds i true) (a.put oi.dst v) → wpX P md ops w0 m n oF Fin (f + 1) g listed a := by
  intro f
  induction f with
  | zero =>
    intro g listed a _ hr hy H
    have hun := (mem_ready.1 hr).1
    refine ⟨fun h => (by rw [h] at hr; cases hr), fun j hj => ⟨hwait listed j hun hj, ?_⟩⟩
    by_cases hji : j = i
    · subst hji; rw [if_neg hin]; exact hy.cOp hi H
    · obtain ⟨p, _, hfin⟩ := H
      have h1 := hdone _ _ _ hfin j (ready_mono hj hji)
      have h2 := hwait listed j hun hj
      omega
  | succ f ih =>
    intro g listed a hfree hr hy H
    have hun := (mem_ready.1 hr).1
    refine ⟨fun h => (by rw [h] at hr; cases hr), fun j hj => ⟨hwait listed j hun hj, ?_⟩⟩
    by_cases hji : j = i
    · subst hji; rw [if_neg hin]; exact hy.cOp hi H
    · have h1 := (H.2 j (ready_mono hj hji)).2
      obtain ⟨hjun, oj, hoj, hall⟩ := mem_ready.1 hj
      have hnot : ∀ e ∈ oj.after, Region.binds md e = true → e.on ≠ i := fun e he hb heq => by
        have h1 := hall e he hb
        rw [heq, getD_either hun] at h1
        cases h1
      have hap := hfree j oj hoj hji hjun hnot
      have hfree' : ∀ k ok, ops[k]? = some ok → k ≠ i → (listed.setIfInBounds j true).getD k true = false →
          (∀ e ∈ ok.after, Region.binds md e = true → e.on ≠ i) → oi.apart ops ok = true := fun k ok hk hki hun hno => by
        refine hfree k ok hk hki ?_ hno
        by_cases hjk : j = k
        · subst hjk; exact hjun
        · rw [getD_set_ne true hjk] at hun; exact hun
      have hcom : (listed.setIfInBounds j true).setIfInBounds i true = (listed.setIfInBounds i true).setIfInBounds j true := Array.setIfInBounds_comm _ _ hji
      by_cases hjn : n = some j
      · rw [if_pos hjn] at h1
        rw [if_pos hjn]
        intro p
        obtain rfl : oj = oF := Option.some.inj (hoj.symm.trans (hnF j hjn))
        obtain ⟨_, h2, h3⟩ := Oper.apart_spec hap
        refine ih (some p) _ _ hfree' (ready_mono hr (Ne.symm hji)) (hy.put (fun cs b => hsel i oi cs b hi) h3) ?_
        rw [hcom, ← Act.put_comm a v p h2]
        exact h1 p
      · rw [if_neg hjn] at h1
        rw [if_neg hjn]
        have h2 := cOp_put hoj hap (fun cs b => hsel i oi cs b hi) (fun cs b => hsel j oj cs b hoj) hy h1
        refine cOp_mono (fun a' h3 => ih g _ a' hfree' (ready_mono hr (Ne.symm hji)) h3.1 ?_) h2
        rw [hcom]
        exact h3.2

/-- each operation from m on waits for every one below m -/
def sinkB (md : Region.Mode) (ops : Array Oper) (m : Nat) : Bool :=
  (List.range ops.size).all fun t => decide (t < m) || (List.range m).all fun i => Region.waitsFor md ops t i
/-- all of one region that is asked ahead: n the operations that are walked, m those and the one that floats -/
def headB (md : Region.Mode) (ops : Array Oper) (n m : Nat) : Bool :=
  Region.noSelect ops && decide (m < ops.size) && decide (n ≤ m) && sinkB md ops m && Region.lexHead md ops (ops.size - n) n 0 (Array.replicate ops.size false)

theorem waits {m i : Nat} {listed : Array Bool} (hs : sinkB md ops m = true) (hi : i < m) (hun : listed.getD i true = false) {j : Nat} (hj : j ∈ Region.ready md ops listed) : j < m := by
  rcases Nat.lt_or_ge j m with h | h
  · exact h
  · exfalso
    obtain ⟨_, oj, hoj, hall⟩ := mem_ready.1 hj
    have hjs : j < ops.size := (Array.getElem?_eq_some_iff.1 hoj).1
    have h1 := List.all_eq_true.1 hs j (List.mem_range.2 hjs)
    simp only [Bool.or_eq_true, decide_eq_true_eq] at h1
    rcases h1 with h1 | h1
    · omega
    · obtain ⟨o', ho', e, he, hb, hon⟩ := Region.waitsFor_spec (List.all_eq_true.1 h1 i (List.mem_range.2 hi))
      obtain rfl : o' = oj := Option.some.inj (ho'.symm.trans hoj)
      have := hall e he hb
      rw [hon, getD_either hun] at this
      cases this

theorem wpX_lex {n m : Nat} {nF : Option Nat} {oF : Oper} {Fin : Value → Array Bool → Act → Prop} {Lq : Act → Prop} {g : Option Value} {r : Nat} (hsel : Region.noSelect ops = true) (hs : sinkB md ops m = true)
    (hnm : n ≤ m) (hnn : ∀ j, nF = some j → n ≤ j) (hnF : ∀ j, nF = some j → ops[j]? = some oF)
    (hdone : ∀ p listed a, Fin p listed a → ∀ j ∈ Region.ready md ops listed, m ≤ j)
    (hbase : ∀ listed a, Region.seqB md ops (ops.size - n) n listed = true → Lq a → wpX P md ops w0 m nF oF Fin r g listed a) :
    ∀ (l : List Oper) (k : Nat) (listed : Array Bool) (a : Act), (∀ j, j < l.length → l[j]? = ops[k + j]?) → k + l.length = n →
    Region.lexHead md ops (ops.size - n) l.length k listed = true → wpCalm P ops w0 Lq l a → wpX P md ops w0 m nF oF Fin (r + l.length) g listed a
  | [], k, listed, a, _, hk, hB, h => by
    have : k = n := by simpa using hk
    subst this
    exact hbase _ _ (by simpa [Region.lexHead] using hB) h
  | o :: l, k, listed, a, hl, hk, hB, h => by
    have h0 : ops[k]? = some o := by simpa using (hl 0 (by simp)).symm
    simp only [List.length_cons, Region.lexHead, Bool.and_eq_true] at hB
    obtain ⟨⟨hr, hf⟩, hB'⟩ := hB
    have hkn : k < n := by simp only [List.length_cons] at hk; omega
    have hst : cOp P ops w0 k (wpCalm P ops w0 Lq l) a := by unfold cOp; simp only [h0]; exact h
    obtain ⟨v, hy, hK⟩ := y_of_cOp h0 hst
    rw [List.length_cons, ← Nat.add_assoc]
    exact wpX_first h0 (fun e => by have := hnn k e; omega) (by omega) hnF (Region.noSelect_spec hsel) hdone (fun listed j hun hj => waits hs (by omega) hun hj) (r + l.length) g listed a (Region.free_spec h0 hf) (by simpa using hr) hy
      (wpX_lex hsel hs hnm hnn hnF hdone hbase l (k + 1) _ _ (fun j hj => by have := hl (j + 1) (by simp; omega); simpa [Nat.add_assoc, Nat.add_comm 1 j] using this) (by simp only [List.length_cons] at hk; omega) hB' hK)

/-- **No operation floats**: the first n are walked, the others follow in their order. -/
theorem wp_region_tail {id : Nat} {Q : Exit → Act → World → Prop} {a : Act} {w : World} {l : List Oper} (n : Nat) (hm : P.follows .mixedOrders = true) (hB : headB .any l.toArray n n = true)
    (h : wpCalm P l.toArray w (fun a' => ∀ w', Below w.heap.size w w' → wpList P l.toArray Q (l.drop n) a' w') (l.take n) a) : (Code.region id l.toArray true).wp P Q a w := by
  simp only [headB, Bool.and_eq_true, decide_eq_true_eq] at hB
  obtain ⟨⟨⟨⟨hsel, hn⟩, _⟩, hs⟩, hlex⟩ := hB
  have hn' : n < l.length := by simpa using hn
  have htl : (l.take n).length = n := by simp; omega
  have hdl : (l.drop n).length = l.toArray.size - n := by simp
  have hF : Floats P l.toArray w none (default : Oper) (fun _ _ => True) := ⟨(fun _ h => by cases h), (fun _ h => by cases h), (fun _ h => by cases h), fun _ _ _ _ _ => trivial⟩
  have H := wpX_lex (P := P) (md := .any) (w0 := w) (r := 0) (g := some undef) (nF := none) (oF := default) (m := n)
    (Fin := fun _ listed a' => Region.seqB .any l.toArray (l.toArray.size - n) n listed = true ∧ ∀ w', Below w.heap.size w w' → wpList P l.toArray Q (l.drop n) a' w')
    hsel hs (Nat.le_refl _) (fun _ h => by cases h) (fun _ h => by cases h) (fun p listed a hfin => seqB_ready hfin.1) (fun listed a' hB hq => ⟨undef, rfl, hB, hq⟩)
    (l.take n) 0 _ a (fun j hj => by have hj' : j < n := by rw [htl] at hj; exact hj
                                     simp [hj']) (by simpa using htl) (by rw [htl]; exact hlex) h
  refine wp_region_any hm ?_
  have := wpAny_of_X (Q' := Q) (g0 := l.toArray.size - n) hF (fun p listed a' w' hfin hw _ => by
    have := wpAny_of_seq (md := .any) (Q' := Q) (l.drop n) n listed a' w' (fun j => by simp [List.getElem?_drop]) (by rw [hdl]; exact hfin.1) (hfin.2 w' hw)
    rwa [hdl] at this) _ _ _ _ { w with drawn := w.drawn + 1 } H ⟨rfl, rfl, rfl, Nat.le_refl _, fun _ _ => rfl⟩ (fun _ _ => trivial)
  rw [htl, show 0 + n + (l.toArray.size - n) = l.toArray.size by omega] at this
  exact this

/-- what is known of a block that was laid among the others -/
def Laid (w0 : World) (obj : Obj) (p : Value) (w : World) : Prop := ∃ b, p = .pointer (some ⟨b, 0, none⟩) ∧ w0.heap.size ≤ b ∧ b < w.heap.size ∧ w.heap[b]? = some obj

/-- **Operation number n lays a block, at whatever moment**: the first n are walked, then come the others behind number n in their order. -/
theorem wp_region_laid {id : Nat} {Q : Exit → Act → World → Prop} {a : Act} {w : World} {l : List Oper} (n : Nat) (T : TypeId) (d : Tmp) (obj : Obj) (hm : P.follows .mixedOrders = true) (hB : headB .any l.toArray n (n + 1) = true)
    (hop : (l.toArray[n]?).map (fun o => (o.op, o.guard, o.dst)) = some (.alloc T, none, some d))
    (hrun : ∀ w : World, (Instr.alloc T true (.tuple #[])).run P w = .ok (.pointer (some ⟨w.heap.size, 0, none⟩)) (w.alloc obj))
    (h : wpCalm P l.toArray w (fun a' => ∀ (b : Nat) (w' : World), Below w.heap.size w w' → w.heap.size ≤ b → b < w'.heap.size → w'.heap[b]? = some obj →
      wpList P l.toArray Q (l.drop (n + 1)) (a'.put (some d) (.pointer (some ⟨b, 0, none⟩))) w') (l.take n) a) : (Code.region id l.toArray true).wp P Q a w := by
  obtain ⟨oF, hat, hoF⟩ : ∃ oF, l.toArray[n]? = some oF ∧ (oF.op, oF.guard, oF.dst) = (Op.alloc T, none, some d) := by
    cases ho : l.toArray[n]? with
    | none => rw [ho] at hop; cases hop
    | some o => rw [ho] at hop; exact ⟨o, rfl, by simpa using hop⟩
  simp only [Prod.mk.injEq] at hoF
  obtain ⟨ho1, ho2, ho3⟩ := hoF
  have hguard : ∀ a : Act, Region.wanted oF (yielded l.toArray a.tmps) = true := fun a => by unfold Region.wanted; rw [ho2]
  have hrun' : ∀ (a : Act) (w : World), (execOp a.eval oF).run P w = .ok (.value (.pointer (some ⟨w.heap.size, 0, none⟩))) (w.alloc obj) := fun a w => by
    unfold execOp; rw [ho1]; simp [hrun, Result.andThen]
  rw [← ho3] at h
  simp only [headB, Bool.and_eq_true, decide_eq_true_eq] at hB
  obtain ⟨⟨⟨⟨hsel, hn⟩, _⟩, hs⟩, hlex⟩ := hB
  have hn' : n + 1 < l.length := by simpa using hn
  have htl : (l.take n).length = n := by simp; omega
  have hdl : (l.drop (n + 1)).length = l.toArray.size - (n + 1) := by simp
  have hF : Floats P l.toArray w (some n) oF (Laid w obj) := by
    refine ⟨fun i h => (by cases h; exact hat), fun _ _ => hguard, fun i _ a w1 hw1 => ⟨_, _, hrun' a w1, (Below.refl _ _).alloc (Nat.le_refl _) _, w1.heap.size, rfl, hw1.size, by simp, ?_⟩, ?_⟩
    · show (w1.heap.push obj)[w1.heap.size]? = _
      simp
    · rintro p w1 w2 ⟨b, rfl, h1, h2, h3⟩ hb
      exact ⟨b, rfl, h1, Nat.lt_of_lt_of_le h2 hb.size, by rw [hb.block b h2]; exact h3⟩
  have hsz : l.toArray.size - n = (l.toArray.size - (n + 1)) + 1 := by simp; omega
  have H := wpX_lex (P := P) (md := .any) (w0 := w) (r := 1) (g := none) (nF := some n) (oF := oF) (m := n + 1)
    (Fin := fun p listed a' => Region.seqB .any l.toArray (l.toArray.size - (n + 1)) (n + 1) listed = true ∧ ∀ w', Below w.heap.size w w' → Laid w obj p w' → wpList P l.toArray Q (l.drop (n + 1)) a' w')
    hsel hs (Nat.le_succ _) (fun j h => by cases h; exact Nat.le_refl _) (fun j h => by cases h; exact hat) (fun p listed a hfin => seqB_ready hfin.1)
    (fun listed a' hB hq => by
      rw [hsz] at hB
      simp only [Region.seqB, Bool.and_eq_true, decide_eq_true_eq] at hB
      refine ⟨fun h0 => (by rw [h0] at hB; cases hB.1), fun i hi => ?_⟩
      rw [hB.1] at hi
      obtain rfl : i = n := by simpa using hi
      refine ⟨Nat.lt_succ_self _, ?_⟩
      rw [if_pos rfl]
      intro p
      refine ⟨p, rfl, hB.2, fun w' hw hl => ?_⟩
      obtain ⟨b, rfl, h1, h2, h3⟩ := hl
      exact hq b w' hw h1 h2 h3)
    (l.take n) 0 _ a (fun j hj => by have hj' : j < n := by rw [htl] at hj; exact hj
                                     simp [hj']) (by simpa using htl) (by rw [htl]; exact hlex) h
  refine wp_region_any hm ?_
  have := wpAny_of_X (Q' := Q) (g0 := l.toArray.size - (n + 1)) hF (fun p listed a' w' hfin hw hV => by
    have := wpAny_of_seq (md := .any) (Q' := Q) (l.drop (n + 1)) (n + 1) listed a' w' (fun j => by simp [List.getElem?_drop]) (by rw [hdl]; exact hfin.1) (hfin.2 w' hw hV)
    rwa [hdl] at this) _ _ _ _ { w with drawn := w.drawn + 1 } H ⟨rfl, rfl, rfl, Nat.le_refl _, fun _ _ => rfl⟩ (fun _ h => by cases h)
  rw [htl, show 1 + n + (l.toArray.size - (n + 1)) = l.toArray.size by simp; omega] at this
  exact this
end
/-! the chain of worlds that only grow -/
theorem bt {w w1 w2 : World} (h : Below w.heap.size w w1) (k : Below w1.heap.size w1 w2) : Below w.heap.size w w2 := h.trans (k.mono h.size)
theorem ba {w w1 : World} (h : Below w.heap.size w w1) (o : Obj) : Below w.heap.size w (w1.alloc o) := h.alloc h.size o
theorem bd {w w1 : World} (h : Below w.heap.size w w1) (n : Nat) : Below w.heap.size w (w1.drewN n) := h.trans ⟨rfl, rfl, rfl, Nat.le_refl _, fun _ _ => rfl⟩
theorem br (w : World) : Below w.heap.size w w := Below.refl _ _
theorem grown_of_below {w w' : World} (h : Below w.heap.size w w') (may : MemPlace → Prop) : w.keptBut w' may := h.frame may
theorem cell_of_block {w : World} {b : Nat} {cs : Array Value} {T : TypeId} (h : w.heap[b]? = some (.cells cs T)) (i : Nat) : w.cell? ⟨b, i, none⟩ = cs[i]? := by
  simp [World.cell?, h]
theorem free_of_block {w : World} {b : Nat} {cs : Array Value} {T : TypeId} (h : w.heap[b]? = some (.cells cs T)) (i : Nat) : w.frozen? ⟨b, i, none⟩ = false := by
  simp [World.frozen?, h]
/-! a block that is known whole -/
def Has (w : World) (b : Nat) (cs : Array Value) (T : TypeId) : Prop := w.heap[b]? = some (.cells cs T)
theorem Has.lt {w : World} {b : Nat} {cs : Array Value} {T : TypeId} (h : Has w b cs T) : b < w.heap.size := (Array.getElem?_eq_some_iff.1 h).1
theorem Has.cell {w : World} {b : Nat} {cs : Array Value} {T : TypeId} (h : Has w b cs T) (i : Nat) : w.cell? ⟨b, i, none⟩ = cs[i]? := cell_of_block h i
theorem Has.free {w : World} {b : Nat} {cs : Array Value} {T : TypeId} (h : Has w b cs T) (i : Nat) : w.frozen? ⟨b, i, none⟩ = false := free_of_block h i
theorem Has.kept {w w' : World} {b : Nat} {cs : Array Value} {T : TypeId} (h : Has w b cs T) (hb : Below w.heap.size w w') : Has w' b cs T := (hb.block b h.lt).trans h
theorem Has.new (w : World) (cs : Array Value) (T : TypeId) : Has (w.alloc (.cells cs T)) w.heap.size cs T := by
  show (w.heap.push _)[w.heap.size]? = _
  simp
theorem Has.alloc {w : World} {b : Nat} {cs : Array Value} {T : TypeId} (h : Has w b cs T) (o : Obj) : Has (w.alloc o) b cs T := h.kept ((Below.refl _ _).alloc (Nat.le_refl _) o)
theorem Has.drewN {w : World} {b : Nat} {cs : Array Value} {T : TypeId} (h : Has w b cs T) (n : Nat) : Has (w.drewN n) b cs T := h
attribute [go_sem] calm calmAt upon
end Go.Proofs.Ytlabbmfiecbigaa.Calm
