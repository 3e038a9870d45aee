/-
  Messages in memory; the document's buf: Right, Same, Find.
-/
import Derived.Test.YtmgmkfophdjidaaRowK
import Derived.Test.YtmgmkfophdjidaaOrdR
import Derived.Test.YtmgmkfophdjidaaDrift
import Derived.Deep.DeepCutAuto
import Derived.Deep.CutBlock
namespace Go.Proofs.Ytmgmkfophdjidaa
open Go.RowKit
namespace Bu
open Mem Lx

/-- a message: its key, whether there is none of it, its value -/
abbrev Mg := ByteArray × Bool × ByteArray
def MgK : Kind Mg := ⟨28, 3, fun m => [.string m.1, .bool m.2.1, .string m.2.2], fun _ => rfl, fun m u hu => by
  simp only [List.mem_cons, List.not_mem_nil, or_false] at hu
  rcases hu with rfl | rfl | rfl <;> rfl⟩
def mgV (m : Mg) : Value := .agg #[.string m.1, .bool m.2.1, .string m.2.2]
/-- a slice of messages that reads as L -/
abbrev ML (w : World) (A : Option Addr) (L : List Mg) : Prop := RdK MgK w A L
/-- one of the call's own -/
abbrev M3 (w : World) (B : Nat) (A : Option Addr) (c : Nat) (L : List Mg) : Prop := VK MgK w B A c L
theorem RdK.msg {w : World} {A : Option Addr} {L : List Mg} (h : ML w A L) {i : Nat} {m : Mg} (hm : L[i]? = some m) : ∃ b o, A = some ⟨b, o, none⟩ ∧ b < w.heap.size ∧ w.cell? ⟨b, o + i * 3, none⟩ = some (.string m.1) ∧ w.cell? ⟨b, o + i * 3 + 1, none⟩ = some (.bool m.2.1) ∧ w.cell? ⟨b, o + i * 3 + 2, none⟩ = some (.string m.2.2) := by
  obtain ⟨b, o, e, hl, hc⟩ := h (Nat.lt_of_le_of_lt (Nat.zero_le _) (List.getElem?_eq_some_iff.1 hm).1)
  have h0 := hc i m hm 0 (.string m.1) rfl
  have h1 := hc i m hm 1 (.bool m.2.1) rfl
  have h2 := hc i m hm 2 (.string m.2.2) rfl
  exact ⟨b, o, e, hl, by simpa [MgK] using h0, by simpa [MgK, Nat.add_assoc] using h1, by simpa [MgK, Nat.add_assoc] using h2⟩
/-- its place, whatever it reads as -/
theorem RdK.place {w : World} {A : Option Addr} {L : List Mg} (h : ML w A L) (h0 : 0 < L.length) : ∃ b o, A = some ⟨b, o, none⟩ ∧ ∀ (i : Nat) (m : Mg), L[i]? = some m → w.cell? ⟨b, o + i * 3, none⟩ = some (.string m.1) ∧ w.cell? ⟨b, o + i * 3 + 1, none⟩ = some (.bool m.2.1) ∧ w.cell? ⟨b, o + i * 3 + 2, none⟩ = some (.string m.2.2) := by
  obtain ⟨b, o, e, _, _⟩ := h h0
  subst e
  refine ⟨b, o, rfl, fun i m hm => ?_⟩
  obtain ⟨b', o', e', _, h1⟩ := RdK.msg h hm
  obtain ⟨rfl, rfl⟩ : b = b' ∧ o = o' := by simpa using e'
  exact h1
theorem mginfo : (Try.prog.info? 28).map (fun i => (i.zero, i.size, i.bytes)) = some (some (.agg #[.string ⟨#[]⟩, .bool false, .string ⟨#[]⟩]), 3, 40) := by kernel_rfl
theorem RCmp (a b : ByteArray) (ha : a.size ≤ maxLen) (w : World) : Calls Try.prog 25 #[.string a, .string b] w fun e w' => e = .returned (.int .i64 (cmpB a b)) ∧ Below w.heap.size w w' :=
  (RCompare_any a b w ha).mono fun e w' ⟨he, n, hw⟩ => ⟨he, by rw [hw]; exact ⟨rfl, rfl, rfl, Nat.le_refl _, fun _ _ => rfl⟩⟩
/-- keys rise strictly -/
def Rise (L : List Mg) : Prop := ∀ (i : Nat) (a b : Mg), L[i]? = some a → L[i + 1]? = some b → cmpB a.1 b.1 < 0
theorem retB {a b : Bool} (h : a = b) : Ending.returned (.bool a) = .returned (.bool b) := by rw [h]
theorem nat_len {α : Type} {L : List α} {i : Nat} (h : i < L.length) : L[i]? = some L[i] := List.getElem?_eq_getElem h
set_option maxRecDepth 100000 in
set_option maxHeartbeats 2000000 in
theorem RRight_any {W : World} {A : Option Addr} {c : Nat} {L : List Mg} (h : ML W A L) (hk : ∀ m, m ∈ L → m.1.size ≤ maxLen) (hl : L.length ≤ 1048576) : Calls Try.prog 10 #[.slice A L.length c] W fun e w' => (∃ v : Bool, e = .returned (.bool v) ∧ (v = true ↔ Rise L)) ∧ Below W.heap.size W w' := by
  obtain ⟨n, hn⟩ : ∃ n, n = L.length := ⟨_, rfl⟩
  have HN := Lib.hid hn
  have HH := Lib.hid h
  have HK := Lib.hid hk
  rw [← hn] at hl ⊢
  clear h hk hn
  go_enter Try.func10, Try.ntmps10
  go_wp2_with fail
  go_loopg [3] (n - 1) (fun gk iv wr => ∃ k : Nat, 1 ≤ k ∧ (k = 1 ∨ k ≤ n) ∧ gk = n - k ∧ iv = .int .i64 (k : Int) ∧ Hid (∀ (i : Nat) (a b : Mg), i + 1 < k → L[i]? = some a → L[i + 1]? = some b → cmpB a.1 b.1 < 0) ∧ Hid (Below W.heap.size W wr))
  case atStart => exact ⟨1, Nat.le_refl _, .inl rfl, rfl, rfl, fun i a b hi => by omega, Below.refl _ _⟩
  case round =>
    obtain ⟨k, hk1, hkn, rfl, rfl, HE, HB⟩ := hrel
    by_cases hlt : k < n
    · obtain ⟨j, hjk⟩ : ∃ j, k = j + 1 := ⟨k - 1, by omega⟩
      have hj : j < L.length := by rw [← HN.out]; omega
      have hj1 : k < L.length := by rw [← HN.out]; omega
      obtain ⟨x, hx⟩ : ∃ x, x = L[j] := ⟨_, rfl⟩
      obtain ⟨y, hy⟩ : ∃ y, y = L[k] := ⟨_, rfl⟩
      have hx' := nat_len hj
      have hy' := nat_len hj1
      rw [← hx] at hx'
      rw [← hy] at hy'
      obtain ⟨b, o, e, hc⟩ := RdK.place (HH.out.kept HB.out) (Nat.lt_of_le_of_lt (Nat.zero_le _) hj)
      subst e
      obtain ⟨c0, -, -⟩ := hc j x hx'
      obtain ⟨c1, -, -⟩ := hc k y hy'
      have cC := fun w => Lib.hid (RCmp x.1 y.1 (HK.out x (List.mem_of_getElem? hx')) w)
      have HX := Lib.hid hx'
      have HY := Lib.hid hy'
      have z0 := fun q : Drift.Tide [] wr [] => Drift.Tide.cell c0 (by simp) q
      have z1 := fun q : Drift.Tide [] wr [] => Drift.Tide.cell c1 (by simp) q
      have hw1 : IntKind.i64.wrap ((k : Int) - 1) = (j : Int) := by rw [IntKind.wrap_i64]; omega
      have hw2 : IntKind.i64.wrap ((k : Int) + 1) = ((k + 1 : Nat) : Int) := by rw [IntKind.wrap_i64]; omega
      have HJ := Lib.hid hjk
      have hjn : j < n := by omega
      clear hc c0 c1 hx hy hx' hy' hj hj1 hjk
      go_upto_region 4 with fail
      refine Drift.wp_region_drift [] [(0,[]),(1,[]),(2,[]),(3,[]),(4,[]),(5,[]),(6,[]),(7,[]),(8,[]),(9,[]),(10,[]),(11,[]),(12,[])] [] [] (by kernel_rfl) (by kernel_rfl) (by simp) ?_
      simp only [Drift.pick, Drift.opsAt, List.getElem?_toArray, List.getElem?_cons_zero, List.getElem?_cons_succ, List.cons_append, List.nil_append, List.filterMap_nil]
      repeat (refine Drift.walk_step (fun K hK => ?_); go_simp; first | (refine hK _ ?_; clear hK K) | (apply Exists.intro; refine ⟨fun q => ?_, hK _ ?_⟩; (go_at_call 25; exact (cC _).out); clear hK K))
      refine Drift.walk_nil ?_
      intro w2 hb _
      have HB2 := Lib.hid (HB.out.trans (hb.mono HB.out.size))
      clear z0 z1 hw1 hb HB cC
      simp only [List.length_cons, List.length_nil, List.drop_succ_cons, List.drop_nil, Nat.zero_add, Nat.reduceAdd]
      by_cases hcm : cmpB x.1 y.1 < 0
      · have hd : decide (0 ≤ cmpB x.1 y.1) = false := by simpa using hcm
        have HE2 : Hid (∀ (i : Nat) (a b : Mg), i + 1 < k + 1 → L[i]? = some a → L[i + 1]? = some b → cmpB a.1 b.1 < 0) := fun i a b hi ha hb => by
          by_cases e : i = j
          · subst e
            rw [HX.out] at ha
            rw [← HJ.out, HY.out] at hb
            cases ha
            cases hb
            exact hcm
          · exact HE.out i a b (by have := HJ.out; omega) ha hb
        generalize cmpB x.1 y.1 = z at *
        clear hd
        go_wp2_with fail
        go_roundg (n - (k + 1))
        case measure => omega
        case rel => exact ⟨k + 1, by omega, .inr hlt, rfl, by go_num, HE2, HB2⟩
      · have HN2 : Hid (¬ Rise L) := fun hr => hcm (hr j x y HX.out (by rw [← HJ.out]; exact HY.out))
        have hd : 0 ≤ cmpB x.1 y.1 := by omega
        clear hcm
        generalize cmpB x.1 y.1 = z at *
        go_wp2_with fail
        go_ret
        exact ⟨⟨false, rfl, by simpa using HN2.out⟩, HB2.out⟩
    · have HR : Hid (Rise L) := fun i a b ha hb => HE.out i a b (by
        have := (List.getElem?_eq_some_iff.1 hb).1
        rw [← HN.out] at this
        omega) ha hb
      have hge : n ≤ k := by omega
      have hd : decide ((k : Int) < (n : Int)) = false := by simp; omega
      clear hlt
      go_wp2_with fail
      go_ret
      exact ⟨⟨true, rfl, by simpa using HR.out⟩, HB.out⟩
theorem ba_toList {a b : ByteArray} : (a.toList == b.toList) = decide (a = b) := by
  by_cases h : a = b
  · subst h; simp
  · have : a.toList ≠ b.toList := fun e => h (by
      rw [ByteArray.toList_eq, ByteArray.toList_eq] at e
      obtain ⟨⟨x⟩⟩ := a
      obtain ⟨⟨y⟩⟩ := b
      simp at e
      rw [e])
    rw [decide_eq_false h]
    simpa using this
theorem mg_ne (m m' : Mg) (w : World) : (binOp .neq 28 (.agg #[.string m.1, .bool m.2.1, .string m.2.2]) (.agg #[.string m'.1, .bool m'.2.1, .string m'.2.2])).run Try.prog w = .ok (.bool (!decide (m = m'))) w := by
  obtain ⟨k, d, v⟩ := m
  obtain ⟨k', d', v'⟩ := m'
  by_cases h0 : k = k'
  case neg => simp [go_sem, h0, ba_toList]
  by_cases h1 : d = d'
  case neg => simp [go_sem, h0, h1, ba_toList]
  by_cases h2 : v = v' <;> simp [go_sem, h0, h1, h2, ba_toList]
theorem mg_eq (m m' : Mg) (w : World) : (binOp .eql 28 (.agg #[.string m.1, .bool m.2.1, .string m.2.2]) (.agg #[.string m'.1, .bool m'.2.1, .string m'.2.2])).run Try.prog w = .ok (.bool (decide (m = m'))) w := by
  obtain ⟨k, d, v⟩ := m
  obtain ⟨k', d', v'⟩ := m'
  by_cases h0 : k = k'
  case neg => simp [go_sem, h0, ba_toList]
  by_cases h1 : d = d'
  case neg => simp [go_sem, h0, h1, ba_toList]
  by_cases h2 : v = v' <;> simp [go_sem, h0, h1, h2, ba_toList]
set_option maxRecDepth 100000 in
set_option maxHeartbeats 2000000 in
theorem RSame_any {W : World} {A A' : Option Addr} {c c' : Nat} {L L' : List Mg} (h : ML W A L) (h' : ML W A' L') (hl : L.length ≤ 1048576) (_ : L'.length ≤ 1048576) : Calls Try.prog 12 #[.slice A L.length c, .slice A' L'.length c'] W fun e w' => (∃ v : Bool, e = .returned (.bool v) ∧ (v = true ↔ L = L')) ∧ Below W.heap.size W w' := by
  obtain ⟨n, hn⟩ : ∃ n, n = L.length := ⟨_, rfl⟩
  by_cases hnn : L.length = L'.length
  case neg =>
    have HR : Hid (¬ L = L') := fun e => hnn (by rw [e])
    have hd : ((L.length : Int) != (L'.length : Int)) = true := by simp; omega
    clear h h' hn hl
    generalize L.length = n at *
    generalize L'.length = n' at *
    clear hnn
    go_enter Try.func12, Try.ntmps12
    go_wp2
    go_ret
    exact ⟨⟨false, rfl, by simpa using HR.out⟩, Below.refl _ _⟩
  rw [← hnn, ← hn]
  rw [← hn] at hl
  have HN := Lib.hid hn
  have HN' : Hid (n = L'.length) := hn.trans hnn
  have HH := Lib.hid h
  have HH' := Lib.hid h'
  clear h h' hn hnn
  go_enter Try.func12, Try.ntmps12
  go_wp2_with fail
  go_loopg [5] n (fun gk iv wr => ∃ k : Nat, k ≤ n ∧ gk = n - k ∧ iv = .int .i64 (k : Int) ∧ Hid (∀ i, i < k → L[i]? = L'[i]?) ∧ Hid (Below W.heap.size W wr))
  case atStart => exact ⟨0, Nat.zero_le _, rfl, rfl, fun i hi => by omega, Below.refl _ _⟩
  case round =>
    obtain ⟨k, hk, rfl, rfl, HE, HB⟩ := hrel
    by_cases hlt : k < n
    · have hj : k < L.length := by rw [← HN.out]; exact hlt
      have hj' : k < L'.length := by rw [← HN'.out]; exact hlt
      obtain ⟨x, hx⟩ : ∃ x, x = L[k] := ⟨_, rfl⟩
      obtain ⟨y, hy⟩ : ∃ y, y = L'[k] := ⟨_, rfl⟩
      have hx' := nat_len hj
      have hy' := nat_len hj'
      rw [← hx] at hx'
      rw [← hy] at hy'
      obtain ⟨b, o, e, -, c0, c1, c2⟩ := RdK.msg (HH.out.kept HB.out) hx'
      subst e
      obtain ⟨b', o', e', -, d0, d1, d2⟩ := RdK.msg (HH'.out.kept HB.out) hy'
      subst e'
      have HX := Lib.hid hx'
      have HY := Lib.hid hy'
      by_cases hxy : x = y
      · have hne : ∀ w, (binOp .neq 28 (.agg #[.string x.1, .bool x.2.1, .string x.2.2]) (.agg #[.string y.1, .bool y.2.1, .string y.2.2])).run Try.prog w = .ok (.bool false) w := fun w => (mg_ne x y w).trans (by simp [hxy])
        have HE2 : Hid (∀ i, i < k + 1 → L[i]? = L'[i]?) := fun i hi => by
          by_cases e : i = k
          · subst e
            rw [HX.out, HY.out, hxy]
          · exact HE.out i (by omega)
        clear hxy
        have z0 := fun q : Drift.Tide [] wr [] => Drift.Tide.cell c0 (by simp) q
        have z1 := fun q : Drift.Tide [] wr [] => Drift.Tide.cell c1 (by simp) q
        have z2 := fun q : Drift.Tide [] wr [] => Drift.Tide.cell c2 (by simp) q
        have x0 := fun q : Drift.Tide [] wr [] => Drift.Tide.cell d0 (by simp) q
        have x1 := fun q : Drift.Tide [] wr [] => Drift.Tide.cell d1 (by simp) q
        have x2 := fun q : Drift.Tide [] wr [] => Drift.Tide.cell d2 (by simp) q
        have hw2 : IntKind.i64.wrap ((k : Int) + 1) = ((k + 1 : Nat) : Int) := by rw [IntKind.wrap_i64]; omega
        clear c0 c1 c2 d0 d1 d2 hx hy hx' hy' hj hj'
        go_upto_region 6 with fail
        refine Drift.wp_region_drift [] [(0,[]),(1,[]),(2,[]),(3,[]),(4,[]),(5,[]),(6,[]),(7,[]),(8,[])] [] [] (by kernel_rfl) (by kernel_rfl) (by simp) ?_
        simp only [Drift.pick, Drift.opsAt, List.getElem?_toArray, List.getElem?_cons_zero, List.getElem?_cons_succ, List.cons_append, List.nil_append, List.filterMap_nil]
        repeat (refine Drift.walk_step (fun K hK => ?_); go_simp; (refine hK _ ?_; clear hK K))
        refine Drift.walk_nil ?_
        intro w2 hb _
        have HB2 := Lib.hid (HB.out.trans (hb.mono HB.out.size))
        clear z0 z1 z2 x0 x1 x2 hb HB hne
        simp only [List.length_cons, List.length_nil, List.drop_succ_cons, List.drop_nil, Nat.zero_add, Nat.reduceAdd]
        go_wp2_with fail
        go_roundg (n - (k + 1))
        case measure => omega
        case rel => exact ⟨k + 1, hlt, rfl, by go_num, HE2, HB2⟩
      · have hne : ∀ w, (binOp .neq 28 (.agg #[.string x.1, .bool x.2.1, .string x.2.2]) (.agg #[.string y.1, .bool y.2.1, .string y.2.2])).run Try.prog w = .ok (.bool true) w := fun w => (mg_ne x y w).trans (by simp [hxy])
        have HN2 : Hid (¬ L = L') := fun e => hxy (by
          have h1 := HX.out
          rw [e, HY.out] at h1
          exact (Option.some.inj h1).symm)
        clear hxy
        have z0 := fun q : Drift.Tide [] wr [] => Drift.Tide.cell c0 (by simp) q
        have z1 := fun q : Drift.Tide [] wr [] => Drift.Tide.cell c1 (by simp) q
        have z2 := fun q : Drift.Tide [] wr [] => Drift.Tide.cell c2 (by simp) q
        have x0 := fun q : Drift.Tide [] wr [] => Drift.Tide.cell d0 (by simp) q
        have x1 := fun q : Drift.Tide [] wr [] => Drift.Tide.cell d1 (by simp) q
        have x2 := fun q : Drift.Tide [] wr [] => Drift.Tide.cell d2 (by simp) q
        have hw2 : IntKind.i64.wrap ((k : Int) + 1) = ((k + 1 : Nat) : Int) := by rw [IntKind.wrap_i64]; omega
        clear c0 c1 c2 d0 d1 d2 hx hy hx' hy' hj hj'
        go_upto_region 6 with fail
        refine Drift.wp_region_drift [] [(0,[]),(1,[]),(2,[]),(3,[]),(4,[]),(5,[]),(6,[]),(7,[]),(8,[])] [] [] (by kernel_rfl) (by kernel_rfl) (by simp) ?_
        simp only [Drift.pick, Drift.opsAt, List.getElem?_toArray, List.getElem?_cons_zero, List.getElem?_cons_succ, List.cons_append, List.nil_append, List.filterMap_nil]
        repeat (refine Drift.walk_step (fun K hK => ?_); go_simp; (refine hK _ ?_; clear hK K))
        refine Drift.walk_nil ?_
        intro w2 hb _
        have HB2 := Lib.hid (HB.out.trans (hb.mono HB.out.size))
        clear z0 z1 z2 x0 x1 x2 hb HB hne
        simp only [List.length_cons, List.length_nil, List.drop_succ_cons, List.drop_nil, Nat.zero_add, Nat.reduceAdd]
        go_wp2_with fail
        go_ret
        exact ⟨⟨false, rfl, by simpa using HN2.out⟩, HB2.out⟩
    · have HR : Hid (L = L') := by
        refine List.ext_getElem? fun i => ?_
        by_cases hi : i < k
        · exact HE.out i hi
        · rw [List.getElem?_eq_none (by rw [← HN.out]; omega), List.getElem?_eq_none (by rw [← HN'.out]; omega)]
      obtain rfl : k = n := by omega
      clear hlt
      go_wp2_with fail
      go_ret
      exact ⟨⟨true, rfl, by simpa using HR.out⟩, HB.out⟩
theorem box3 {w : World} {b : Nat} {v0 v1 v2 : Value} {U : TypeId} (h : w.heap[b]? = some (.cells #[v0, v1, v2] U (0, 0))) : w.cell? ⟨b, 0, none⟩ = some v0 ∧ w.cell? ⟨b, 1, none⟩ = some v1 ∧ w.cell? ⟨b, 2, none⟩ = some v2 := by
  simp [World.cell?, h]
theorem free3 {w : World} {b : Nat} {C : Array Value} {U : TypeId} (h : w.heap[b]? = some (.cells C U (0, 0))) (i : Nat) : w.frozen? ⟨b, i, none⟩ = false := by
  simp [World.frozen?, h]
/-- three cells stored -/
def set3 (w : World) (b : Nat) (v0 v1 v2 : Value) : World := ((w.setCell ⟨b, 0, none⟩ v0).setCell ⟨b, 1, none⟩ v1).setCell ⟨b, 2, none⟩ v2
theorem set3_at {w : World} {b : Nat} {u0 u1 u2 : Value} {U : TypeId} (h : w.heap[b]? = some (.cells #[u0, u1, u2] U (0, 0))) (v0 v1 v2 : Value) : (set3 w b v0 v1 v2).heap[b]? = some (.cells #[v0, v1, v2] U (0, 0)) := by
  unfold set3
  simp [World.setCell, Array.getElem?_modify, h]
theorem set3_below {B b : Nat} {a w : World} (h : Below B a w) (hb : B ≤ b) (v0 v1 v2 : Value) : Below B a (set3 w b v0 v1 v2) := ((h.setCell hb v0).setCell hb v1).setCell hb v2
theorem kept3 {w w' : World} {b : Nat} {o : Obj} (h : w.heap[b]? = some o) (hb : Below w.heap.size w w') : w'.heap[b]? = some o := (hb.block b (Array.getElem?_eq_some_iff.1 h).1).trans h
theorem bel3 {W w w' : World} (h : Below W.heap.size W w) (hb : Below w.heap.size w w') : Below W.heap.size W w' := h.trans (hb.mono h.size)
/-- the message of a key -/
def findD (L : List Mg) (key : ByteArray) : Option Mg := L.find? fun m => decide (m.1 = key)
def zeroM : Mg := (⟨#[]⟩, false, ⟨#[]⟩)
theorem findD_at {L : List Mg} {key : ByteArray} {k : Nat} {x : Mg} (hx : L[k]? = some x) (h : x.1 = key) (hn : ∀ i m, i < k → L[i]? = some m → m.1 ≠ key) : findD L key = some x := by
  unfold findD
  rw [List.find?_eq_some_iff_getElem]
  have hk := (List.getElem?_eq_some_iff.1 hx).1
  refine ⟨by simpa using h, k, hk, ?_, fun j hj => ?_⟩
  · rw [List.getElem?_eq_getElem hk] at hx
    exact Option.some.inj hx
  · have := hn j L[j] hj (List.getElem?_eq_getElem (Nat.lt_trans hj hk))
    simpa using this
theorem findD_none {L : List Mg} {key : ByteArray} (hn : ∀ i m, i < L.length → L[i]? = some m → m.1 ≠ key) : findD L key = none := by
  unfold findD
  rw [List.find?_eq_none]
  intro x hx
  obtain ⟨j, hj⟩ := List.getElem?_of_mem hx
  have := hn j x (List.getElem?_eq_some_iff.1 hj).1 hj
  simpa using this
set_option maxRecDepth 100000 in
set_option maxHeartbeats 2000000 in
theorem RFind_any {W : World} {A : Option Addr} {c : Nat} {L : List Mg} (h : ML W A L) (key : ByteArray) (hl : L.length ≤ 1048576) : Calls Try.prog 14 #[.slice A L.length c, .string key] W fun e w' => e = .returned (.tuple #[mgV ((findD L key).getD zeroM), .bool (findD L key).isSome]) ∧ Below W.heap.size W w' := by
  obtain ⟨n, hn⟩ : ∃ n, n = L.length := ⟨_, rfl⟩
  have HN := Lib.hid hn
  have HH := Lib.hid h
  rw [← hn] at hl ⊢
  clear h hn
  go_enter Try.func14, Try.ntmps14
  go_upto_region 1 with fail
  have hx := heap_alloc_new W (.cells #[.string ⟨#[]⟩, .bool false, .string ⟨#[]⟩] 28)
  have hb0 : Below W.heap.size W (W.alloc (.cells #[.string ⟨#[]⟩, .bool false, .string ⟨#[]⟩] 28)) := (Below.refl _ _).alloc (Nat.le_refl _) _
  generalize W.alloc (.cells #[.string ⟨#[]⟩, .bool false, .string ⟨#[]⟩] 28) = w1 at *
  obtain ⟨g, hg⟩ : ∃ g, g = W.heap.size := ⟨_, rfl⟩
  rw [← hg] at hx ⊢
  have HG := Lib.hid hg
  have HB := Lib.hid hb0
  have HX := Lib.hid hx
  clear hx hb0 hg
  go_wp2_with fail
  go_loopg [6] n (fun gk iv wr => ∃ k : Nat, k ≤ n ∧ gk = n - k ∧ iv = .int .i64 (k : Int) ∧ Hid (∀ (i : Nat) (m : Mg), i < k → L[i]? = some m → m.1 ≠ key) ∧ wr = w1)
  case atStart => exact ⟨0, Nat.zero_le _, rfl, rfl, fun i m hi => by omega, rfl⟩
  case round =>
    obtain ⟨k, hk, rfl, rfl, HE, rfl⟩ := hrel
    have f0 := free3 HX.out 0
    have f1 := free3 HX.out 1
    have f2 := free3 HX.out 2
    obtain ⟨d0, d1, d2⟩ := box3 HX.out
    by_cases hlt : k < n
    · have hj : k < L.length := by rw [← HN.out]; exact hlt
      obtain ⟨x, hxx⟩ : ∃ x, x = L[k] := ⟨_, rfl⟩
      have hx' := nat_len hj
      rw [← hxx] at hx'
      obtain ⟨b, o, e, -, c0, c1, c2⟩ := RdK.msg (HH.out.kept HB.out) hx'
      subst e
      have hw2 : IntKind.i64.wrap ((k : Int) + 1) = ((k + 1 : Nat) : Int) := by rw [IntKind.wrap_i64]; omega
      have HXX := Lib.hid hx'
      clear hxx hx' hj
      by_cases hke : x.1 = key
      · have HF : Hid (findD L key = some x) := findD_at HXX.out hke HE.out
        rw [hke] at c0
        have HKE := Lib.hid hke
        clear hke
        go_wp2_with fail
        have i3 := set3_below (B := W.heap.size) (b := g) HB.out (by have := HG.out; omega) (.string key) (.bool x.2.1) (.string x.2.2)
        have g3 := set3_at HX.out (.string key) (.bool x.2.1) (.string x.2.2)
        unfold set3 at i3 g3
        generalize ((wr.setCell ⟨g, 0, none⟩ (.string key)).setCell ⟨g, 1, none⟩ (.bool x.2.1)).setCell ⟨g, 2, none⟩ (.string x.2.2) = w9 at *
        obtain ⟨o0, o1, o2⟩ := box3 g3
        refine bodyPost_ret (v := .tuple #[.agg #[.string key, .bool x.2.1, .string x.2.2], .bool true]) (by simp [results, Try.results14, go_sem, o0, o1, o2]) rfl ⟨?_, i3⟩
        rw [HF.out, ← HKE.out]
        rfl
      · have HE2 : Hid (∀ (i : Nat) (m : Mg), i < k + 1 → L[i]? = some m → m.1 ≠ key) := fun i m hi hm => by
          by_cases e : i = k
          · subst e
            rw [HXX.out] at hm
            cases hm
            exact hke
          · exact HE.out i m (by omega) hm
        have hq2 : (x.1.toList == key.toList) = false := by rw [ba_toList]; simpa using hke
        clear d0 d1 d2 f0 f1 f2
        go_wp2_with fail
        go_roundg (n - (k + 1))
        case measure => omega
        case rel => exact ⟨k + 1, hlt, rfl, by go_num, HE2, rfl⟩
    · have HF : Hid (findD L key = none) := findD_none fun i m hi hm => HE.out i m (by rw [← HN.out] at hi; omega) hm
      obtain rfl : k = n := by omega
      clear hlt
      go_wp2_with fail
      have i3 := set3_below (B := W.heap.size) (b := g) HB.out (by have := HG.out; omega) (.string ⟨#[]⟩) (.bool false) (.string ⟨#[]⟩)
      have g3 := set3_at HX.out (.string ⟨#[]⟩) (.bool false) (.string ⟨#[]⟩)
      unfold set3 at i3 g3
      generalize ((wr.setCell ⟨g, 0, none⟩ (.string ⟨#[]⟩)).setCell ⟨g, 1, none⟩ (.bool false)).setCell ⟨g, 2, none⟩ (.string ⟨#[]⟩) = w9 at *
      obtain ⟨o0, o1, o2⟩ := box3 g3
      refine bodyPost_ret (v := .tuple #[.agg #[.string ⟨#[]⟩, .bool false, .string ⟨#[]⟩], .bool false]) (by simp [results, Try.results14, go_sem, o0, o1, o2]) rfl ⟨?_, i3⟩
      rw [HF.out]
      rfl
end Bu
end Go.Proofs.Ytmgmkfophdjidaa
