/-
  Slices of structs of the call's own: made with room; a whole slice appended, all other blocks kept. No program.
-/
import Derived.Test.YteefkhgmcknbaaaRowC
namespace Go.Proofs.Yteefkhgmcknbaaa
open Go.RowKit
namespace Mem
section
variable {α : Type} {K : Kind α} {P : Program}
theorem run_makeK {t e : TypeId} {z : Value} {k by_ : Nat} (ht : P.underlying t = some (.slice e)) (hinfo : (P.info? e).map (fun i => (i.zero, i.size, i.bytes)) = some (some z, k, by_)) (hby : by_ ≤ 4096) (n : Nat) (hn : n ≤ 1048576) (w : World) :
    (Instr.makeSlice t (.int .i64 0) (.int .i64 (n : Int))).run P w = .ok (.slice (some ⟨w.heap.size, 0, none⟩) 0 n) (w.alloc (.cells (madeCells z.cells (n * k)) e)) := by
  obtain ⟨i, hi, hz, hs, hb⟩ := info_parts hinfo
  have hr := run_make (P := P) w t e i z ht hi hz .i64 .i64 0 n (by omega) (by omega) (by rw [hb]; have : (by_ : Int) * (n : Int) ≤ 4096 * 1048576 := by have := Nat.mul_le_mul hby hn; omega
                                                                                          omega) (by omega)
  rw [hr, hs]
  simp only [Int.toNat_natCast, Int.toNat_zero]
theorem VK.made (w : World) (B n : Nat) (z : Array Value) (hB : B ≤ w.heap.size) (hn : n ≤ 1048576) : VK K (w.alloc (.cells (madeCells z (n * K.k)) K.T)) B (some ⟨w.heap.size, 0, none⟩) n [] :=
  World.ownsRow_made w _ n hB (by unfold maxLen; omega) (size_madeCells _ _)
theorem run_append_allA {S : TypeId} {z : Value} {by_ : Nat} (hS : P.underlying S = some (.slice K.T)) (hinfo : (P.info? K.T).map (fun i => (i.zero, i.size, i.bytes)) = some (some z, K.k, by_)) (hz : z.cells.size = K.k) (hby : by_ ≤ 4096) (ty : TypeId) {w : World} {B : Nat} {A : Option Addr} {c : Nat} {L : List α} (h : VK K w B A c L) {A2 : Option Addr} (c2 : Nat) {M : List α} (hM : RdK K w A2 M) (hn : L.length + M.length ≤ 1048576) (hk : 0 < K.k) (hB : B ≤ w.heap.size) :
    ∃ A' c' w', (Builtin.append_ #[S, S] ty #[.slice A L.length c, .slice A2 M.length c2]).run P w = .ok (.slice A' (L.length + M.length) c') w' ∧ AppdK K B w w' A A' c' (L ++ M) := by
  obtain ⟨i, hi, hz1, hs1, hb1⟩ := info_parts hinfo
  cases A2 with
  | none =>
    have h0 : M = [] := RdK.none_ hM
    subst h0
    refine ⟨A, c, w, ?_, ⟨by simpa using h, Below.refl _ _, fun _ _ _ => rfl, fun a' ha => .inl ⟨a', ha, rfl⟩⟩⟩
    rcases h.2 with ⟨h', _⟩ | ⟨g, cap, cur, h', _, _, hnc, _⟩
    · rw [h']
      obtain ⟨rfl, this, rfl⟩ : A = none ∧ L.length = 0 ∧ c = 0 := by simpa using h'
      simp [Builtin.append_, run_underlying hS, sizeOf, typeInfo, hi, Builtin.lenOf, Builtin.firstCells, this]
    · obtain ⟨rfl, rfl⟩ : A = some ⟨g, 0, none⟩ ∧ c = cap := by simpa using h'
      simp [Builtin.append_, run_underlying hS, sizeOf, typeInfo, hi, Builtin.lenOf, Builtin.firstCells, hnc, storeCells]
  | some ad =>
    obtain ⟨v', w', hrun, h2, h3, _, h5⟩ := run_append_own_at (P := P) w B S ty K.T i z K.k by_ hS hi hz1 hs1 hb1 hz hk (.slice A L.length c) L.length (L.flatMap K.cs) h ad M.length c2 (M.flatMap K.cs) (K.all_len M) (fun j u hj => by
      have hjl : j < M.length * K.k := by
        have := (List.getElem?_eq_some_iff.1 hj).1
        rw [K.all_len] at this
        exact this
      have hM0 : 0 < M.length := by
        rcases Nat.eq_zero_or_pos M.length with h0 | h0
        · rw [h0, Nat.zero_mul] at hjl
          exact absurd hjl (Nat.not_lt_zero _)
        · exact h0
      obtain ⟨b, o, e, _, hc⟩ := hM hM0
      obtain rfl : ad = ⟨b, o, none⟩ := by simpa using e
      have hq : j / K.k < M.length := Nat.div_lt_of_lt_mul (by rw [Nat.mul_comm]; exact hjl)
      have hr : j % K.k < K.k := Nat.mod_lt _ hk
      have hjj : j / K.k * K.k + j % K.k = j := Nat.div_add_mod' j K.k
      have hx := List.getElem?_eq_getElem hq
      have := K.at_ hx hr
      rw [hjj, hj] at this
      have := hc _ _ hx _ u this.symm
      rw [hjj] at this
      rw [← this]
      by_cases h0 : j = 0 <;> simp [Addr.add, h0]) (fun u hu => K.all_one M u hu) (by unfold maxLen; omega) (Nat.le_trans (Nat.mul_le_mul hn hby) (by decide)) hB
    have hv' : ∃ A' c', v' = .slice A' (L.length + M.length) c' := by
      rcases h2.2 with ⟨rfl, h0⟩ | ⟨g, cap, cur, rfl, _⟩
      · exact ⟨none, 0, by rw [h0]⟩
      · exact ⟨_, _, rfl⟩
    obtain ⟨A', c', rfl⟩ := hv'
    refine ⟨A', c', w', hrun, ⟨?_, (Below.refl _ _).grown h3 hB fun k hk => ?_, ?_, ?_⟩⟩
    · unfold VK
      rw [List.length_append, List.flatMap_append]
      exact h2
    · rcases A with _ | a
      · cases hk
      · obtain rfl : a.block = k := by simpa [Value.ownBlock] using hk
        exact (h.at_ _ rfl).1
    · intro k hk hne
      refine h3.block k hk ?_
      rcases A with _ | a
      · simp [Value.ownBlock]
      · have := hne a rfl
        simp only [Value.ownBlock, ne_eq, Option.some.injEq]
        exact fun e => this e.symm
    · rintro a' rfl
      rcases h5 with h5 | h5
      · rcases A with _ | a
        · simp [Value.ownBlock] at h5
        · left; exact ⟨a, rfl, by simpa [Value.ownBlock] using h5⟩
      · right; simpa [Value.ownBlock] using h5
/-- the same, as an arm of the walk -/
theorem wpList_append_allA {S : TypeId} {z : Value} {by_ : Nat} (hS : P.underlying S = some (.slice K.T)) (hinfo : (P.info? K.T).map (fun i => (i.zero, i.size, i.bytes)) = some (some z, K.k, by_)) (hz : z.cells.size = K.k) (hby : by_ ≤ 4096) (hk : 0 < K.k)
    {w : World} {ops : Array Oper} {rest : List Oper} {o : Oper} {a : Act} {Q : Exit → Act → World → Prop} (hgd : o.guard = none) (s x : Operand)
    (ho : o.op = .call { callee := .builtin .append, args := #[s, x], argTypes := #[S, S] })
    (B : Nat) (A : Option Addr) (n c : Nat) (L : List α) (hs : a.eval s = .slice A n c) (hvn : L.length = n) (h : VK K w B A c L) (A2 : Option Addr) (m c2 : Nat) (M : List α) (hx : a.eval x = .slice A2 m c2) (hM : M.length = m) (hb : RdK K w A2 M) (hn : n + m ≤ 1048576) (hB : B ≤ w.heap.size)
    (hh : ∀ A' c' w', Hid (AppdK K B w w' A A' c' (L ++ M)) → wpList P ops Q rest (a.put o.dst (.slice A' (n + m) c')) w') : wpList P ops Q (o :: rest) a w := by
  subst hvn hM
  refine wpList_plain hgd fun C hC => ?_
  obtain ⟨A', c', w', hrun, hd⟩ := run_append_allA hS hinfo hz hby o.type h c2 hb hn hk hB
  unfold Oper.wp execOp
  simp only [ho, resolve, invoke, builtin, Sem.run_bind, Sem.run_pure, Result.andThen_ok, List.map_toArray, List.map_cons, List.map_nil, hs, hx, hrun]
  exact hC _ _ (hh A' c' w' hd)
end
end Mem
end Go.Proofs.Yteefkhgmcknbaaa
