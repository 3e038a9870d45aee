/-
  Appends of bytes to a slice of the call's own: a text's, noughts. What is kept where blocks of two kinds alone are turned. No program.
-/
import Derived.Test.YteefkhgmcknbaaaBytes
import Derived.Lib.AppendStr
import Derived.Lib.AppendZeros
namespace Go.Proofs.Yteefkhgmcknbaaa
open Go.RowKit
namespace Mem
/-- blocks of two kinds apart all is kept; below B all is -/
structure Kp (T1 T2 : TypeId) (B : Nat) (w w' : World) : Prop where
  below : Below B w w'
  block : ∀ (b : Nat) (C : Array Value) (T : TypeId) (f : Nat × Nat), w.heap[b]? = some (Obj.cells C T f) → T ≠ T1 → T ≠ T2 → w'.heap[b]? = some (Obj.cells C T f)
section
variable {T1 T2 : TypeId} {B : Nat} {w w' w2 : World}
theorem Kp.refl (T1 T2 : TypeId) (B : Nat) (w : World) : Kp T1 T2 B w w := ⟨Below.refl _ _, fun _ _ _ _ h _ _ => h⟩
theorem Kp.trans (h : Kp T1 T2 B w w') (k : Kp T1 T2 B w' w2) : Kp T1 T2 B w w2 := ⟨h.below.trans k.below, fun b C T f hb h1 h2 => k.block b C T f (h.block b C T f hb h1 h2) h1 h2⟩
theorem Kp.of_below (h : Below w.heap.size w w') (hB : B ≤ w.heap.size) : Kp T1 T2 B w w' := ⟨h.mono hB, fun b _ _ _ hb _ _ => (h.block b (Array.getElem?_eq_some_iff.1 hb).1).trans hb⟩
theorem Kp.set (h : Kp T1 T2 B w w') {g i : Nat} {C : Array Value} {T : TypeId} {f : Nat × Nat} (hg : B ≤ g) (hx : w'.heap[g]? = some (.cells C T f)) (hT : T = T1 ∨ T = T2) (v : Value) : Kp T1 T2 B w (w'.setCell ⟨g, i, none⟩ v) := by
  refine ⟨h.below.setCell hg _, fun b C' T' f' hb h1 h2 => ?_⟩
  have h3 := h.block b C' T' f' hb h1 h2
  by_cases e : b = g
  · subst e
    rw [hx] at h3
    simp only [Option.some.injEq, Obj.cells.injEq] at h3
    obtain ⟨-, rfl, -⟩ := h3
    rcases hT with hT | hT
    · exact absurd hT h1
    · exact absurd hT h2
  · rw [← h3]
    exact Below.heap_setCell _ _ _ _ e
theorem Kp.mono {B' : Nat} (h : Kp T1 T2 B w w') (hB : B' ≤ B) : Kp T1 T2 B' w w' := ⟨h.below.mono hB, h.block⟩
theorem Kp.box (h : Kp T1 T2 B w w') {b : Nat} {C : Array Value} {T : TypeId} {f : Nat × Nat} (hb : w.heap[b]? = some (.cells C T f)) (h1 : T ≠ T1) (h2 : T ≠ T2) : w'.heap[b]? = some (.cells C T f) := h.block b C T f hb h1 h2
end
section
variable {U : TypeId} {B : Nat} {w w' : World} {v : Value} {l : List UInt8}
theorem Own.row (h : Own U w B v l) : ∀ k, v.ownBlock = some k → B ≤ k ∧ ∃ C, w.heap[k]? = some (.cells C U (0, 0)) := by
  intro k hk
  rcases h.2 with ⟨rfl, _⟩ | ⟨g, cap, cur, rfl, hb, hg, _⟩
  · simp [Value.ownBlock] at hk
  · simp [Value.ownBlock] at hk
    subst hk
    exact ⟨hb, cur, hg⟩
theorem Own.sl (h : Own U w B v l) : ∃ A m c, v = .slice A m c := by
  obtain ⟨A, c, e, -, -⟩ := h.slice
  exact ⟨A, _, c, e⟩
theorem Own.grown {T2 : TypeId} (h : Own U w B v l) (hg : w.grownBy w' v.ownBlock) (hB : B ≤ w.heap.size) : Kp U T2 B w w' := by
  refine ⟨⟨hg.os, hg.tape, hg.output, hg.size, fun k hk => hg.block k (by omega) fun e => ?_⟩, fun b C T f hb h1 _ => ?_⟩
  · have := (h.row k e.symm).1
    omega
  · refine (hg.block b (Array.getElem?_eq_some_iff.1 hb).1 fun e => ?_).trans hb
    obtain ⟨-, C', h3⟩ := h.row b e.symm
    rw [hb] at h3
    simp only [Option.some.injEq, Obj.cells.injEq] at h3
    exact h1 h3.2.1
theorem Own.keep (h : Own U w B v l) (hk : ∀ k, v.ownBlock = some k → w'.heap[k]? = w.heap[k]?) : Own U w' B v l := by
  refine ⟨h.1, ?_⟩
  rcases h.2 with hn | ⟨g, cap, cur, rfl, hb, hg, hr⟩
  · exact .inl hn
  · exact .inr ⟨g, cap, cur, rfl, hb, (hk g rfl).trans hg, hr⟩
theorem Own.kept (h : Own U w B v l) (hb : Below w.heap.size w w') : Own U w' B v l := h.keep fun k hk => by
  obtain ⟨-, C, hc⟩ := h.row k hk
  exact hb.block k (Array.getElem?_eq_some_iff.1 hc).1
theorem Own.set_other (h : Own U w B v l) {g i : Nat} {C : Array Value} {T : TypeId} {f : Nat × Nat} (hx : w.heap[g]? = some (.cells C T f)) (hT : T ≠ U) (x : Value) : Own U (w.setCell ⟨g, i, none⟩ x) B v l := h.keep fun k hk => by
  obtain ⟨-, C', hc⟩ := h.row k hk
  refine Below.heap_setCell _ _ _ _ fun e => ?_
  subst e
  rw [hx] at hc
  simp only [Option.some.injEq, Obj.cells.injEq] at hc
  exact hT hc.2.1
end
/-- append of a text's bytes -/
theorem wpList_append_text {P : Program} {w : World} {ops : Array Oper} {rest : List Oper} {o : Oper} {a : Act} {Q : Exit → Act → World → Prop} (hgd : o.guard = none) (s x : Operand) (t u : TypeId)
    (ho : o.op = .call { callee := .builtin .append, args := #[s, x], argTypes := #[t, u] }) (B : Nat) (U : TypeId) (ht : P.underlying t = some (.slice U)) (hu : P.underlying u = some .string) (hinfo : (P.info? U).map (fun i => (i.zero, i.size, i.bytes)) = some (some (.int .u8 0), 1, 1))
    (v : Value) (xs : List UInt8) (hs : a.eval s = v) (hown : Own U w B v xs) (sb : ByteArray) (hx : a.eval x = .string sb) (hsz : xs.length + sb.size ≤ 1048576) (hB : B ≤ w.heap.size)
    (h : ∀ v' w', Hid (Own U w' B v' (xs ++ sb.data.toList)) → w.grownBy w' v.ownBlock → wpList P ops Q rest (a.put o.dst v') w') : wpList P ops Q (o :: rest) a w := by
  obtain ⟨i, hi, hz, hs1, hb1⟩ := info_parts hinfo
  refine Lib.wpList_append_own_string w hgd s x t u ho B U i ht hu hi hz hs1 hb1 v xs.length (bytesV xs) hs hown sb hx (by unfold maxLen; omega) (by omega) hB fun v' w' h1 h2 _ => h v' w' ?_ h2
  show w'.ownsRow B U 1 v' (xs ++ sb.data.toList).length (bytesV (xs ++ sb.data.toList))
  rw [List.length_append, show bytesV (xs ++ sb.data.toList) = bytesV xs ++ bytesV sb.data.toList by simp [bytesV]]
  exact h1
theorem zeroCells_u8 (k : Nat) : Builtin.zeroCells (Value.int IntKind.u8 0).cells k = (List.replicate k (Value.int .u8 0)).toArray := by
  have e : (Value.int IntKind.u8 0).cells = #[Value.int .u8 0] := rfl
  apply Array.ext'
  rw [e]
  simp [Builtin.zeroCells, Nat.mod_one]
  rw [List.eq_replicate_iff]
  simp
theorem run_zeros_text {P : Program} (w : World) (t tn u ty e : TypeId) (i : TypeInfo) (kn : IntKind) (ht : P.underlying t = some (.slice e)) (htn : P.underlying tn = some (.int kn)) (hu : P.underlying u = some .string) (hi : P.info? e = some i) (hz : i.zero = some (.int .u8 0)) (hs1 : i.size = 1) (hb1 : i.bytes = 1)
    (A : Option Addr) (n c k : Nat) (hk : n + k ≤ 1048576) (sb : ByteArray) (hsb : sb.data.toList = List.replicate k 0) :
    (Builtin.append_ #[t, tn] ty #[.slice A n c, .int .i64 (k : Int)]).run P w = (Builtin.append_ #[t, u] ty #[.slice A n c, .string sb]).run P w := by
  have hw : IntKind.i64.wrap (k : Int) = k := by rw [IntKind.wrap_i64]; omega
  have hneg : ¬ ((k : Int) < 0) := by omega
  have h48 : ¬ (281474976710656 < (k : Int)) := by omega
  have hsz : sb.size = k := by
    have := congrArg List.length hsb
    simpa using this
  have hex : ((sb.extract 0 k).data.map fun b => Value.int .u8 b.toNat) = (List.replicate k (Value.int .u8 0)).toArray := by
    apply Array.ext'
    simp [ByteArray.data_extract, hsb]
  have hfc : Builtin.firstCells 1 k (.string sb) = pure (List.replicate k (Value.int .u8 0)).toArray := by
    simp only [Builtin.firstCells]
    rw [hex]
  generalize hv : (List.replicate k (Value.int .u8 0)).toArray = vs at *
  have hzc : Builtin.zeroCells (Value.int IntKind.u8 0).cells k = vs := by rw [zeroCells_u8, hv]
  by_cases h0 : k = 0
  · subst h0
    have hvs : vs = #[] := by rw [← hv]; rfl
    have hw0 : IntKind.i64.wrap 0 = 0 := rfl
    subst hvs
    by_cases hc : n ≤ c
    · simp [Builtin.append_, run_underlying ht, run_underlying htn, run_underlying hu, sizeOf, typeInfo, hi, hs1, hb1, Builtin.lenOf, asInt, asIntOf, hw0, hsz, hfc, hc]
    · have h48' : ¬ (281474976710656 < Builtin.nextslicecap n c) := by
        have := growslice_fits (need := n) (old := c) (bytes := 1) (by omega) (by omega)
        omega
      have h63 : ¬ (9223372036854775807 < (n : Int)) := by omega
      simp [Builtin.append_, run_underlying ht, run_underlying htn, run_underlying hu, sizeOf, typeInfo, hi, hs1, hb1, Builtin.lenOf, asInt, asIntOf, hw0, hsz, hfc, hc, h48', h63]
  · by_cases hc : n + k ≤ c
    · simp [Builtin.append_, run_underlying ht, run_underlying htn, run_underlying hu, sizeOf, typeInfo, hi, hs1, hb1, Builtin.lenOf, asInt, asIntOf, hw, hneg, h48, hsz, hfc, hc, h0, zeroValue, hz, hzc]
    · have h48' : ¬ (281474976710656 < Builtin.nextslicecap (n + k) c) := by
        have := growslice_fits (need := n + k) (old := c) (bytes := 1) (by omega) (by omega)
        omega
      have h63 : ¬ (9223372036854775807 < (n : Int) + (k : Int)) := by omega
      simp [Builtin.append_, run_underlying ht, run_underlying htn, run_underlying hu, sizeOf, typeInfo, hi, hs1, hb1, Builtin.lenOf, asInt, asIntOf, hw, hneg, h48, hsz, hfc, hc, h0, zeroValue, hz, hzc, h48', h63]
/-- append of so many noughts -/
theorem wpList_append_zeros {P : Program} {w : World} {ops : Array Oper} {rest : List Oper} {o : Oper} {a : Act} {Q : Exit → Act → World → Prop} (hgd : o.guard = none) (s x : Operand) (t tn u : TypeId) {kn : IntKind}
    (ho : o.op = .call { callee := .builtin .append, args := #[s, x], argTypes := #[t, tn] }) (B : Nat) (U : TypeId) (ht : P.underlying t = some (.slice U)) (htn : P.underlying tn = some (.int kn)) (hu : P.underlying u = some .string) (hinfo : (P.info? U).map (fun i => (i.zero, i.size, i.bytes)) = some (some (.int .u8 0), 1, 1))
    (v : Value) (xs : List UInt8) (hs : a.eval s = v) (hown : Own U w B v xs) (k : Nat) (hx : a.eval x = .int .i64 (k : Int)) (hsz : xs.length + k ≤ 1048576) (hB : B ≤ w.heap.size)
    (h : ∀ v' w', Hid (Own U w' B v' (xs ++ List.replicate k 0)) → w.grownBy w' v.ownBlock → wpList P ops Q rest (a.put o.dst v') w') : wpList P ops Q (o :: rest) a w := by
  obtain ⟨i, hi, hz, hs1, hb1⟩ := info_parts hinfo
  obtain ⟨A, c, rfl, -, -⟩ := hown.slice
  obtain ⟨sb, hsb⟩ : ∃ sb : ByteArray, sb.data.toList = List.replicate k 0 := ⟨⟨(List.replicate k 0).toArray⟩, rfl⟩
  have hsl : sb.size = k := by
    have := congrArg List.length hsb
    simpa using this
  obtain ⟨v', w', hr, h2, h3, _⟩ := Lib.run_append_own_string (P := P) w B t u o.type U i ht hu hi hz hs1 hb1 (.slice A xs.length c) xs.length (bytesV xs) hown sb (by unfold maxLen; omega) (by omega) hB
  rw [← run_zeros_text w t tn u o.type U i kn ht htn hu hi hz hs1 hb1 A xs.length c k hsz sb hsb] at hr
  refine Lib.wpList_append_run w hgd s x t tn ho _ _ hs hx v' w' hr (h v' w' ?_ h3)
  have e : Lib.strCells sb = bytesV (List.replicate k 0) := by
    unfold Lib.strCells
    rw [hsb]
    rfl
  rw [e, hsl] at h2
  show w'.ownsRow B U 1 v' (xs ++ List.replicate k 0).length (bytesV (xs ++ List.replicate k 0))
  rw [List.length_append, List.length_replicate, show bytesV (xs ++ List.replicate k 0) = bytesV xs ++ bytesV (List.replicate k 0) by simp [bytesV]]
  exact h2
end Mem
end Go.Proofs.Yteefkhgmcknbaaa
