/-
  PairRS, NodeD, MsgPi, MsgPd, MsgP, PairPi, PairPd, PairP, PourD. Put together by pack.py.
-/
import Derived.Test.YtlabbmfiecbigaaPkAG
import Derived.Test.YtlabbmfiecbigaaPkAE

namespace Go.Proofs.Ytlabbmfiecbigaa
open Go.RowKit
namespace Lf
open Mem Lx Bu
/-- keys rise strictly -/
def PRise (L : List Pr) : Prop := ∀ (i : Nat) (a b : Pr), L[i]? = some a → L[i + 1]? = some b → cmpB a.1 b.1 < 0
set_option maxRecDepth 100000 in
set_option maxHeartbeats 2000000 in
theorem RRight_any {W : World} {A : Option Addr} {c : Nat} {L : List Pr} (h : PL W A L) (hk : ∀ m, m ∈ L → m.1.size ≤ maxLen) (hl : L.length ≤ 1048576) : Calls Try.prog 54 #[.slice A L.length c] W fun e w' => (∃ v : Bool, e = .returned (.bool v) ∧ (v = true ↔ PRise L)) ∧ Below W.heap.size W w' := by
  obtain ⟨n, hn⟩ : ∃ n, n = L.length := ⟨_, rfl⟩
  have HN := Lib.hid hn
  have HH := Lib.hid h
  have HK := Lib.hid hk
  rw [← hn] at hl ⊢
  clear h hk hn
  go_enter Try.func54, Try.ntmps54
  go_wp2_with fail
  go_loopg [3] (n - 1) (fun gk iv wr => ∃ k : Nat, 1 ≤ k ∧ (k = 1 ∨ k ≤ n) ∧ gk = n - k ∧ iv = .int .i64 (k : Int) ∧ Hid (∀ (i : Nat) (a b : Pr), i + 1 < k → L[i]? = some a → L[i + 1]? = some b → cmpB a.1 b.1 < 0) ∧ Hid (Below W.heap.size W wr))
  case atStart => exact ⟨1, Nat.le_refl _, .inl rfl, rfl, rfl, fun i a b hi => by omega, Below.refl _ _⟩
  case round =>
    obtain ⟨k, hk1, hkn, rfl, rfl, HE, HB⟩ := hrel
    by_cases hlt : k < n
    · obtain ⟨j, hjk⟩ : ∃ j, k = j + 1 := ⟨k - 1, by omega⟩
      have hj : j < L.length := by rw [← HN.out]; omega
      have hj1 : k < L.length := by rw [← HN.out]; omega
      obtain ⟨x, hx⟩ : ∃ x, x = L[j] := ⟨_, rfl⟩
      obtain ⟨y, hy⟩ : ∃ y, y = L[k] := ⟨_, rfl⟩
      have hx' := nat_len hj
      have hy' := nat_len hj1
      rw [← hx] at hx'
      rw [← hy] at hy'
      obtain ⟨b, o, e, hc⟩ := RdK.pplace (HH.out.kept HB.out) (Nat.lt_of_le_of_lt (Nat.zero_le _) hj)
      subst e
      obtain ⟨c0, -⟩ := hc j x hx'
      obtain ⟨c1, -⟩ := hc k y hy'
      have cC := fun w => Lib.hid (RCmp x.1 y.1 (HK.out x (List.mem_of_getElem? hx')) w)
      have HX := Lib.hid hx'
      have HY := Lib.hid hy'
      have z0 := fun q : Drift.Tide [] wr [] => Drift.Tide.cell c0 (by simp) q
      have z1 := fun q : Drift.Tide [] wr [] => Drift.Tide.cell c1 (by simp) q
      have hw1 : IntKind.i64.wrap ((k : Int) - 1) = (j : Int) := by rw [IntKind.wrap_i64]; omega
      have hw2 : IntKind.i64.wrap ((k : Int) + 1) = ((k + 1 : Nat) : Int) := by rw [IntKind.wrap_i64]; omega
      have HJ := Lib.hid hjk
      have hjn : j < n := by omega
      clear hc c0 c1 hx hy hx' hy' hj hj1 hjk
      go_upto_region 4 with fail
      refine Drift.wp_region_drift [] [(0,[]),(1,[]),(2,[]),(3,[]),(4,[]),(5,[]),(6,[]),(7,[]),(8,[]),(9,[]),(10,[]),(11,[]),(12,[])] [] [] (by kernel_rfl) (by kernel_rfl) (by simp) ?_
      simp only [Drift.pick, Drift.opsAt, List.getElem?_toArray, List.getElem?_cons_zero, List.getElem?_cons_succ, List.cons_append, List.nil_append, List.filterMap_nil]
      repeat (refine Drift.walk_step (fun K hK => ?_); go_simp; first | (refine hK _ ?_; clear hK K) | (apply Exists.intro; refine ⟨fun q => ?_, hK _ ?_⟩; (go_at_call 29; exact (cC _).out); clear hK K))
      refine Drift.walk_nil ?_
      intro w2 hb _
      have HB2 := Lib.hid (HB.out.trans (hb.mono HB.out.size))
      clear z0 z1 hw1 hb HB cC
      simp only [List.length_cons, List.length_nil, List.drop_succ_cons, List.drop_nil, Nat.zero_add, Nat.reduceAdd]
      by_cases hcm : cmpB x.1 y.1 < 0
      · have hd : decide (0 ≤ cmpB x.1 y.1) = false := by simpa using hcm
        have HE2 : Hid (∀ (i : Nat) (a b : Pr), i + 1 < k + 1 → L[i]? = some a → L[i + 1]? = some b → cmpB a.1 b.1 < 0) := fun i a b hi ha hb => by
          by_cases e : i = j
          · subst e
            rw [HX.out] at ha
            rw [← HJ.out, HY.out] at hb
            cases ha
            cases hb
            exact hcm
          · exact HE.out i a b (by have := HJ.out; omega) ha hb
        generalize cmpB x.1 y.1 = z at *
        clear hd
        go_wp2_with fail
        go_roundg (n - (k + 1))
        case measure => omega
        case rel => exact ⟨k + 1, by omega, .inr hlt, rfl, by go_num, HE2, HB2⟩
      · have HN2 : Hid (¬ PRise L) := fun hr => hcm (hr j x y HX.out (by rw [← HJ.out]; exact HY.out))
        have hd : 0 ≤ cmpB x.1 y.1 := by omega
        clear hcm
        generalize cmpB x.1 y.1 = z at *
        go_wp2_with fail
        go_ret
        exact ⟨⟨false, rfl, by simpa using HN2.out⟩, HB2.out⟩
    · have HR : Hid (PRise L) := fun i a b ha hb => HE.out i a b (by
        have := (List.getElem?_eq_some_iff.1 hb).1
        rw [← HN.out] at this
        omega) ha hb
      have hge : n ≤ k := by omega
      have hd : decide ((k : Int) < (n : Int)) = false := by simp; omega
      clear hlt
      go_wp2_with fail
      go_ret
      exact ⟨⟨true, rfl, by simpa using HR.out⟩, HB.out⟩
set_option maxRecDepth 100000 in
set_option maxHeartbeats 2000000 in
theorem RSame_any {W : World} {A A' : Option Addr} {c c' : Nat} {L L' : List Pr} (h : PL W A L) (h' : PL W A' L') (hl : L.length ≤ 1048576) (_ : L'.length ≤ 1048576) : Calls Try.prog 28 #[.slice A L.length c, .slice A' L'.length c'] W fun e w' => (∃ v : Bool, e = .returned (.bool v) ∧ (v = true ↔ L = L')) ∧ Below W.heap.size W w' := by
  obtain ⟨n, hn⟩ : ∃ n, n = L.length := ⟨_, rfl⟩
  by_cases hnn : L.length = L'.length
  case neg =>
    have HR : Hid (¬ L = L') := fun e => hnn (by rw [e])
    have hd : ((L.length : Int) != (L'.length : Int)) = true := by simp; omega
    clear h h' hn hl
    generalize L.length = n at *
    generalize L'.length = n' at *
    clear hnn
    go_enter Try.func28, Try.ntmps28
    go_wp2
    go_ret
    exact ⟨⟨false, rfl, by simpa using HR.out⟩, Below.refl _ _⟩
  rw [← hnn, ← hn]
  rw [← hn] at hl
  have HN := Lib.hid hn
  have HN' : Hid (n = L'.length) := hn.trans hnn
  have HH := Lib.hid h
  have HH' := Lib.hid h'
  clear h h' hn hnn
  go_enter Try.func28, Try.ntmps28
  go_wp2_with fail
  go_loopg [5] n (fun gk iv wr => ∃ k : Nat, k ≤ n ∧ gk = n - k ∧ iv = .int .i64 (k : Int) ∧ Hid (∀ i, i < k → L[i]? = L'[i]?) ∧ Hid (Below W.heap.size W wr))
  case atStart => exact ⟨0, Nat.zero_le _, rfl, rfl, fun i hi => by omega, Below.refl _ _⟩
  case round =>
    obtain ⟨k, hk, rfl, rfl, HE, HB⟩ := hrel
    by_cases hlt : k < n
    · have hj : k < L.length := by rw [← HN.out]; exact hlt
      have hj' : k < L'.length := by rw [← HN'.out]; exact hlt
      obtain ⟨x, hx⟩ : ∃ x, x = L[k] := ⟨_, rfl⟩
      obtain ⟨y, hy⟩ : ∃ y, y = L'[k] := ⟨_, rfl⟩
      have hx' := nat_len hj
      have hy' := nat_len hj'
      rw [← hx] at hx'
      rw [← hy] at hy'
      obtain ⟨b, o, e, -, c0, c1⟩ := RdK.pair (HH.out.kept HB.out) hx'
      subst e
      obtain ⟨b', o', e', -, d0, d1⟩ := RdK.pair (HH'.out.kept HB.out) hy'
      subst e'
      have HX := Lib.hid hx'
      have HY := Lib.hid hy'
      by_cases hxy : x = y
      · have hne : ∀ w, (binOp .neq 47 (.agg #[.string x.1, .string x.2]) (.agg #[.string y.1, .string y.2])).run Try.prog w = .ok (.bool false) w := fun w => (pr_ne x y w).trans (by simp [hxy])
        have HE2 : Hid (∀ i, i < k + 1 → L[i]? = L'[i]?) := fun i hi => by
          by_cases e : i = k
          · subst e
            rw [HX.out, HY.out, hxy]
          · exact HE.out i (by omega)
        clear hxy
        have z0 := fun q : Drift.Tide [] wr [] => Drift.Tide.cell c0 (by simp) q
        have z1 := fun q : Drift.Tide [] wr [] => Drift.Tide.cell c1 (by simp) q
        have x0 := fun q : Drift.Tide [] wr [] => Drift.Tide.cell d0 (by simp) q
        have x1 := fun q : Drift.Tide [] wr [] => Drift.Tide.cell d1 (by simp) q
        have hw2 : IntKind.i64.wrap ((k : Int) + 1) = ((k + 1 : Nat) : Int) := by rw [IntKind.wrap_i64]; omega
        clear c0 c1 d0 d1 hx hy hx' hy' hj hj'
        go_upto_region 6 with fail
        refine Drift.wp_region_drift [] [(0,[]),(1,[]),(2,[]),(3,[]),(4,[]),(5,[]),(6,[]),(7,[]),(8,[])] [] [] (by kernel_rfl) (by kernel_rfl) (by simp) ?_
        simp only [Drift.pick, Drift.opsAt, List.getElem?_toArray, List.getElem?_cons_zero, List.getElem?_cons_succ, List.cons_append, List.nil_append, List.filterMap_nil]
        repeat (refine Drift.walk_step (fun K hK => ?_); go_simp; (refine hK _ ?_; clear hK K))
        refine Drift.walk_nil ?_
        intro w2 hb _
        have HB2 := Lib.hid (HB.out.trans (hb.mono HB.out.size))
        clear z0 z1 x0 x1 hb HB hne
        simp only [List.length_cons, List.length_nil, List.drop_succ_cons, List.drop_nil, Nat.zero_add, Nat.reduceAdd]
        go_wp2_with fail
        go_roundg (n - (k + 1))
        case measure => omega
        case rel => exact ⟨k + 1, hlt, rfl, by go_num, HE2, HB2⟩
      · have hne : ∀ w, (binOp .neq 47 (.agg #[.string x.1, .string x.2]) (.agg #[.string y.1, .string y.2])).run Try.prog w = .ok (.bool true) w := fun w => (pr_ne x y w).trans (by simp [hxy])
        have HN2 : Hid (¬ L = L') := fun e => hxy (by
          have h1 := HX.out
          rw [e, HY.out] at h1
          exact (Option.some.inj h1).symm)
        clear hxy
        have z0 := fun q : Drift.Tide [] wr [] => Drift.Tide.cell c0 (by simp) q
        have z1 := fun q : Drift.Tide [] wr [] => Drift.Tide.cell c1 (by simp) q
        have x0 := fun q : Drift.Tide [] wr [] => Drift.Tide.cell d0 (by simp) q
        have x1 := fun q : Drift.Tide [] wr [] => Drift.Tide.cell d1 (by simp) q
        have hw2 : IntKind.i64.wrap ((k : Int) + 1) = ((k + 1 : Nat) : Int) := by rw [IntKind.wrap_i64]; omega
        clear c0 c1 d0 d1 hx hy hx' hy' hj hj'
        go_upto_region 6 with fail
        refine Drift.wp_region_drift [] [(0,[]),(1,[]),(2,[]),(3,[]),(4,[]),(5,[]),(6,[]),(7,[]),(8,[])] [] [] (by kernel_rfl) (by kernel_rfl) (by simp) ?_
        simp only [Drift.pick, Drift.opsAt, List.getElem?_toArray, List.getElem?_cons_zero, List.getElem?_cons_succ, List.cons_append, List.nil_append, List.filterMap_nil]
        repeat (refine Drift.walk_step (fun K hK => ?_); go_simp; (refine hK _ ?_; clear hK K))
        refine Drift.walk_nil ?_
        intro w2 hb _
        have HB2 := Lib.hid (HB.out.trans (hb.mono HB.out.size))
        clear z0 z1 x0 x1 hb HB hne
        simp only [List.length_cons, List.length_nil, List.drop_succ_cons, List.drop_nil, Nat.zero_add, Nat.reduceAdd]
        go_wp2_with fail
        go_ret
        exact ⟨⟨false, rfl, by simpa using HN2.out⟩, HB2.out⟩
    · have HR : Hid (L = L') := by
        refine List.ext_getElem? fun i => ?_
        by_cases hi : i < k
        · exact HE.out i hi
        · rw [List.getElem?_eq_none (by rw [← HN.out]; omega), List.getElem?_eq_none (by rw [← HN'.out]; omega)]
      obtain rfl : k = n := by omega
      clear hlt
      go_wp2_with fail
      go_ret
      exact ⟨⟨true, rfl, by simpa using HR.out⟩, HB.out⟩
end Lf
end Go.Proofs.Ytlabbmfiecbigaa

namespace Go.Proofs.Ytlabbmfiecbigaa
open Go.RowKit
namespace No
open Mem Lx Bu Lf Fa
/-- settings -/
structure Cfg where
  blocks : Int
  bytes : Int
  frames : Int
  fan : Int
  buffer : Int
  leaf : Int
  key : Int
  val : Int
def cfCs (c : Cfg) : Array Value := #[.int .i64 c.blocks, .int .i64 c.bytes, .int .i64 c.frames, .int .i64 c.fan, .int .i64 c.buffer, .int .i64 c.leaf, .int .i64 c.key, .int .i64 c.val]
def keyB (c : Cfg) (k : ByteArray) : Bool := decide (1 ≤ (k.size : Int)) && decide ((k.size : Int) ≤ c.key)
def PrOk (c : Cfg) (lo hi : ByteArray) (top : Bool) (p : Pr) : Prop := keyB c p.1 = true ∧ inB lo hi top p.1 = true ∧ (p.2.size : Int) ≤ c.val
structure OuterP (c : Cfg) (lo hi : ByteArray) (top : Bool) (n : Nd) : Prop where
  each : ∀ p, p ∈ n.prs → PrOk c lo hi top p
  kids : n.kids.length = 0
  piv : n.piv.length = 0
  buf : n.buf.length = 0
  few : (n.prs.length : Int) ≤ c.leaf
  rise : PRise n.prs
def MsOk (c : Cfg) (lo hi : ByteArray) (top : Bool) (m : Mg) : Prop := keyB c m.1 = true ∧ inB lo hi top m.1 = true ∧ (m.2.2.size : Int) ≤ c.val ∧ ¬ (m.2.1 = true ∧ m.2.2 ≠ ⟨#[]⟩)
def KidsOk (c : Cfg) (K : List Nat) : Prop := ∀ (i k : Nat), K[i]? = some k → (k ≠ 0 ∧ (k : Int) < c.blocks) ∧ ∀ (j m : Nat), j < i → K[j]? = some m → m ≠ k
structure InnerP (c : Cfg) (lo hi : ByteArray) (top : Bool) (n : Nd) : Prop where
  kids : KidsOk c n.kids
  piv : ∀ p, p ∈ n.piv → keyB c p = true
  buf : ∀ m, m ∈ n.buf → MsOk c lo hi top m
  lv : n.lv ≤ 40
  prs : n.prs.length = 0
  one : 1 ≤ n.kids.length
  fan : (n.kids.length : Int) ≤ c.fan
  fewer : n.piv.length + 1 = n.kids.length
  right : RightS n.piv lo hi top
  few : (n.buf.length : Int) ≤ c.buffer
  rise : Bu.Rise n.buf
def RightN (c : Cfg) (lo hi : ByteArray) (top : Bool) (n : Nd) : Prop := (n.lv = 0 → OuterP c lo hi top n) ∧ (n.lv ≠ 0 → 0 < n.lv ∧ InnerP c lo hi top n)
theorem box8 {w : World} {b : Nat} {c0 c1 c2 c3 c4 c5 c6 c7 : Value} {U : TypeId} (h : w.heap[b]? = some (.cells #[c0, c1, c2, c3, c4, c5, c6, c7] U (0, 0))) : w.cell? ⟨b, 0, none⟩ = some c0 ∧ w.cell? ⟨b, 1, none⟩ = some c1 ∧ w.cell? ⟨b, 2, none⟩ = some c2 ∧ w.cell? ⟨b, 3, none⟩ = some c3 ∧ w.cell? ⟨b, 4, none⟩ = some c4 ∧ w.cell? ⟨b, 5, none⟩ = some c5 ∧ w.cell? ⟨b, 6, none⟩ = some c6 ∧ w.cell? ⟨b, 7, none⟩ = some c7 := by
  simp [World.cell?, h]
/-- three boxes: settings, a span, a node -/
structure B3 (W : World) (g : Nat) (X Y Z : Obj) (w : World) : Prop where
  below : Below W.heap.size W w
  at_ : W.heap.size ≤ g
  x : w.heap[g]? = some X
  y : w.heap[g + 1]? = some Y
  z : w.heap[g + 2]? = some Z
theorem B3.kept {W : World} {g : Nat} {X Y Z : Obj} {w w' : World} (h : B3 W g X Y Z w) (hb : Below w.heap.size w w') : B3 W g X Y Z w' := ⟨h.below.trans (hb.mono h.below.size), h.at_, kept3 h.x hb, kept3 h.y hb, kept3 h.z hb⟩
theorem B3.new (W : World) (X Y Z : Obj) : B3 W W.heap.size X Y Z (((W.alloc X).alloc Y).alloc Z) := by
  have h2 := two_new W X Y
  have hb3 : Below ((W.alloc X).alloc Y).heap.size ((W.alloc X).alloc Y) (((W.alloc X).alloc Y).alloc Z) := (Below.refl _ _).alloc (Nat.le_refl _) _
  refine ⟨h2.2.2.trans (hb3.mono h2.2.2.size), Nat.le_refl _, kept3 h2.1 hb3, kept3 h2.2.1 hb3, ?_⟩
  have := heap_alloc_new ((W.alloc X).alloc Y) Z
  simpa using this
end No
end Go.Proofs.Ytlabbmfiecbigaa

namespace Go.Proofs.Ytlabbmfiecbigaa
namespace Bu
open Lx
/-- keys rise, said of any two -/
abbrev Ri (L : List Mg) : Prop := L.Pairwise fun a b => cmpB a.1 b.1 < 0
theorem rise_iff {L : List Mg} : Rise L ↔ Ri L := by
  constructor
  · intro h
    induction L with
    | nil => exact .nil
    | cons x xs ih =>
      have ih := ih fun i a b ha hb => h (i + 1) a b (by simpa using ha) (by simpa using hb)
      refine List.pairwise_cons.2 ⟨?_, ih⟩
      cases xs with
      | nil => intro a ha; cases ha
      | cons y ys =>
        have h0 := h 0 x y rfl rfl
        intro a ha
        rcases List.mem_cons.1 ha with rfl | ha
        · exact h0
        · exact cmpB_trans h0 ((List.pairwise_cons.1 ih).1 a ha)
  · intro h i a b ha hb
    obtain ⟨h1, e1⟩ := List.getElem?_eq_some_iff.1 ha
    obtain ⟨h2, e2⟩ := List.getElem?_eq_some_iff.1 hb
    subst e1 e2
    exact List.pairwise_iff_getElem.1 h i (i + 1) h1 h2 (by omega)
theorem Ri.ne {L : List Mg} (h : Ri L) : L.Pairwise fun a b => a.1 ≠ b.1 := List.pairwise_iff_getElem.2 fun i j hi hj hij => cmpB_ne (List.pairwise_iff_getElem.1 h i j hi hj hij)
end Bu
end Go.Proofs.Ytlabbmfiecbigaa

namespace Go.Proofs.Ytlabbmfiecbigaa
open Go.RowKit
namespace Bu
open Mem Lx
/-- a step of Put: whether the message is in, and what there is -/
def stepP (m : Mg) (s : Bool × List Mg) (x : Mg) : Bool × List Mg :=
  (s.1 || decide (cmpB m.1 x.1 ≤ 0), s.2 ++ (if (!s.1 && decide (cmpB m.1 x.1 ≤ 0)) = true then [m] else []) ++ (if x.1 = m.1 then [] else [x]))
def runP (m : Mg) (L : List Mg) : Bool × List Mg := L.foldl (stepP m) (false, [])
def putD (L : List Mg) (m : Mg) : List Mg := (runP m L).2 ++ (if (runP m L).1 = true then [] else [m])
theorem runP_next (m : Mg) {L : List Mg} {k : Nat} {x : Mg} (hx : L[k]? = some x) : runP m (L.take (k + 1)) = stepP m (runP m (L.take k)) x := by
  have hk := (List.getElem?_eq_some_iff.1 hx).1
  have e : L[k] = x := (List.getElem?_eq_some_iff.1 hx).2
  unfold runP
  rw [List.take_succ_eq_append_getElem hk, List.foldl_append, e]
  rfl
theorem stepP_len (m : Mg) (s : Bool × List Mg) (x : Mg) : (stepP m s x).2.length ≤ s.2.length + 2 := by
  unfold stepP
  simp only [List.length_append]
  split <;> split <;> simp
theorem runP_len (m : Mg) (L : List Mg) : ∀ k, k ≤ L.length → (runP m (L.take k)).2.length ≤ 2 * k
  | 0, _ => by simp [runP]
  | k + 1, hk => by
    have h1 := runP_len m L k (by omega)
    rw [runP_next m (nat_len (show k < L.length by omega))]
    have := stepP_len m (runP m (L.take k)) L[k]
    omega
theorem putD_len (L : List Mg) (m : Mg) : (putD L m).length ≤ 2 * L.length + 1 := by
  have h1 := runP_len m L L.length (Nat.le_refl _)
  rw [List.take_length] at h1
  unfold putD
  rw [List.length_append]
  split <;> simp <;> omega
end Bu
end Go.Proofs.Ytlabbmfiecbigaa

namespace Go.Proofs.Ytlabbmfiecbigaa
namespace Bu
open Lx
/-- two that rise and have the same messages are one -/
theorem Ri.ext : ∀ {L L' : List Mg}, Ri L → Ri L' → (∀ x, x ∈ L ↔ x ∈ L') → L = L'
  | [], [], _, _, _ => rfl
  | [], b :: bs, _, _, h => absurd ((h b).2 (by simp)) (by simp)
  | a :: us, [], _, _, h => absurd ((h a).1 (by simp)) (by simp)
  | a :: us, b :: bs, h, h', hm => by
    obtain ⟨h1, h2⟩ := List.pairwise_cons.1 h
    obtain ⟨k1, k2⟩ := List.pairwise_cons.1 h'
    have e : a = b := by
      rcases List.mem_cons.1 ((hm a).1 (by simp)) with e | ha
      · exact e
      · rcases List.mem_cons.1 ((hm b).2 (by simp)) with e | hb
        · exact e.symm
        · exact absurd (cmpB_self a.1) (by have := cmpB_trans (h1 b hb) (k1 a ha); omega)
    subst e
    rw [Ri.ext h2 k2 fun x => ⟨fun hx => ?_, fun hx => ?_⟩]
    · rcases List.mem_cons.1 ((hm x).1 (List.mem_cons_of_mem _ hx)) with rfl | hx'
      · exact absurd (h1 x hx) (by have := cmpB_self x.1; omega)
      · exact hx'
    · rcases List.mem_cons.1 ((hm x).2 (List.mem_cons_of_mem _ hx)) with rfl | hx'
      · exact absurd (k1 x hx) (by have := cmpB_self x.1; omega)
      · exact hx'
def insD : List Mg → Mg → List Mg
  | [], m => [m]
  | x :: xs, m => if cmpB m.1 x.1 ≤ 0 then m :: (x :: xs).filter (fun y => !decide (y.1 = m.1)) else x :: insD xs m
theorem fold_true (m : Mg) : ∀ (L O : List Mg), L.foldl (stepP m) (true, O) = (true, O ++ L.filter (fun y => !decide (y.1 = m.1)))
  | [], O => by simp
  | x :: xs, O => by
    rw [List.foldl_cons, List.filter_cons]
    by_cases h : x.1 = m.1 <;> simp [stepP, h, fold_true m xs]
theorem fold_false (m : Mg) : ∀ (L O : List Mg), (L.foldl (stepP m) (false, O)).2 ++ (if (L.foldl (stepP m) (false, O)).1 = true then [] else [m]) = O ++ insD L m
  | [], O => by simp [insD]
  | x :: xs, O => by
    rw [List.foldl_cons, insD]
    by_cases h : cmpB m.1 x.1 ≤ 0
    · rw [if_pos h]
      have e : stepP m (false, O) x = (true, O ++ [m] ++ if x.1 = m.1 then [] else [x]) := by simp [stepP, h]
      rw [e, fold_true, List.filter_cons]
      by_cases k : x.1 = m.1 <;> simp [k]
    · rw [if_neg h]
      have hne : x.1 ≠ m.1 := fun e => by rw [e, cmpB_self] at h; omega
      have e : stepP m (false, O) x = (false, O ++ [x]) := by simp [stepP, h, hne]
      rw [e, fold_false m xs]
      simp
theorem putD_eq (L : List Mg) (m : Mg) : putD L m = insD L m := by
  have := fold_false m L []
  rw [List.nil_append] at this
  exact this
theorem mem_insD {m x : Mg} : ∀ {L : List Mg}, x ∈ insD L m ↔ x = m ∨ (x ∈ L ∧ x.1 ≠ m.1)
  | [] => by simp [insD]
  | y :: ys => by
    rw [insD]
    split
    · simp
    · rename_i h
      have hne : y.1 ≠ m.1 := fun e => by rw [e, cmpB_self] at h; omega
      rw [List.mem_cons, List.mem_cons, mem_insD]
      constructor
      · rintro (rfl | h | h)
        · exact .inr ⟨.inl rfl, hne⟩
        · exact .inl h
        · exact .inr ⟨.inr h.1, h.2⟩
      · rintro (h | ⟨rfl | h, k⟩)
        · exact .inr (.inl h)
        · exact .inl rfl
        · exact .inr (.inr ⟨h, k⟩)
theorem mem_putD {L : List Mg} {m x : Mg} : x ∈ putD L m ↔ x = m ∨ (x ∈ L ∧ x.1 ≠ m.1) := by rw [putD_eq]; exact mem_insD
theorem ri_insD {m : Mg} : ∀ {L : List Mg}, Ri L → Ri (insD L m) ∧ (insD L m).length ≤ L.length + 1
  | [], _ => by simp [insD]
  | y :: ys, h => by
    obtain ⟨h1, h2⟩ := List.pairwise_cons.1 h
    rw [insD]
    split
    · rename_i hle
      constructor
      · refine List.pairwise_cons.2 ⟨fun a ha => ?_, h.filter _⟩
        obtain ⟨ha, hk⟩ := List.mem_filter.1 ha
        have hk : a.1 ≠ m.1 := by simpa using hk
        have hz : cmpB m.1 a.1 ≤ 0 := by
          rcases List.mem_cons.1 ha with rfl | ha
          · exact hle
          · exact cmp_trans_le hle (by have := h1 a ha; exact Int.le_of_lt this)
        rcases cmpB_tri m.1 a.1 with h | h | h
        · exact h
        · exact absurd h.symm hk
        · have := cmpB_neg m.1 a.1
          omega
      · have := List.length_filter_le (fun y => !decide (y.1 = m.1)) (y :: ys)
        simp only [List.length_cons] at this ⊢
        omega
    · rename_i hgt
      obtain ⟨k1, k2⟩ := ri_insD (m := m) h2
      refine ⟨List.pairwise_cons.2 ⟨fun a ha => ?_, k1⟩, by simp only [List.length_cons]; omega⟩
      rcases mem_insD.1 ha with rfl | ⟨ha, _⟩
      · have := cmpB_neg a.1 y.1
        omega
      · exact h1 a ha
theorem Ri.put {L : List Mg} (h : Ri L) (m : Mg) : Ri (putD L m) := by rw [putD_eq]; exact (ri_insD h).1
theorem Ri.put_len {L : List Mg} (h : Ri L) (m : Mg) : (putD L m).length ≤ L.length + 1 := by rw [putD_eq]; exact (ri_insD h).2
def mergeD (a b : List Mg) : List Mg := a.foldl putD b
theorem Ri.merge : ∀ {a b : List Mg}, Ri b → Ri (mergeD a b) ∧ (mergeD a b).length ≤ a.length + b.length
  | [], b, h => ⟨h, by simp [mergeD]⟩
  | x :: xs, b, h => by
    obtain ⟨h1, h2⟩ := Ri.merge (a := xs) (h.put x)
    have := h.put_len x
    refine ⟨h1, ?_⟩
    show (mergeD xs (putD b x)).length ≤ _
    simp only [List.length_cons]
    omega
theorem mem_mergeD {x : Mg} : ∀ {a b : List Mg}, Ri a → (x ∈ mergeD a b ↔ x ∈ a ∨ (x ∈ b ∧ ∀ y, y ∈ a → y.1 ≠ x.1))
  | [], b, _ => by simp [mergeD]
  | z :: zs, b, h => by
    obtain ⟨h1, h2⟩ := List.pairwise_cons.1 h
    show x ∈ mergeD zs (putD b z) ↔ _
    rw [mem_mergeD h2, mem_putD, List.mem_cons]
    constructor
    · rintro (h | ⟨rfl | ⟨hb, hn⟩, hz⟩)
      · exact .inl (.inr h)
      · exact .inl (.inl rfl)
      · exact .inr ⟨hb, fun y hy => by
          rcases List.mem_cons.1 hy with rfl | hy
          · exact fun e => hn e.symm
          · exact hz y hy⟩
    · rintro ((rfl | h) | ⟨hb, hn⟩)
      · exact .inr ⟨.inl rfl, fun y hy e => cmpB_ne (h1 y hy) e.symm⟩
      · exact .inl h
      · exact .inr ⟨.inr ⟨hb, fun e => hn z (by simp) e.symm⟩, fun y hy => hn y (by simp [hy])⟩
theorem mergeD_next {a b : List Mg} {k : Nat} {x : Mg} (hx : a[k]? = some x) : mergeD (a.take (k + 1)) b = putD (mergeD (a.take k) b) x := by
  have hk := (List.getElem?_eq_some_iff.1 hx).1
  have e : a[k] = x := (List.getElem?_eq_some_iff.1 hx).2
  unfold mergeD
  rw [List.take_succ_eq_append_getElem hk, List.foldl_append, e]
  rfl
/-- a step of Take -/
def stepT (p : Mg → Bool) (most : Int) (s : List Mg × List Mg) (x : Mg) : List Mg × List Mg :=
  if (p x && decide ((s.1.length : Int) < most)) = true then (s.1 ++ [x], s.2) else (s.1, s.2 ++ [x])
def takeD (p : Mg → Bool) (most : Int) (L : List Mg) : List Mg × List Mg := L.foldl (stepT p most) ([], [])
theorem takeD_next {p : Mg → Bool} {most : Int} {L : List Mg} {k : Nat} {x : Mg} (hx : L[k]? = some x) : takeD p most (L.take (k + 1)) = stepT p most (takeD p most (L.take k)) x := by
  have hk := (List.getElem?_eq_some_iff.1 hx).1
  have e : L[k] = x := (List.getElem?_eq_some_iff.1 hx).2
  unfold takeD
  rw [List.take_succ_eq_append_getElem hk, List.foldl_append, e]
  rfl
theorem foldT_len (p : Mg → Bool) (most : Int) : ∀ (L : List Mg) (s : List Mg × List Mg), (L.foldl (stepT p most) s).1.length + (L.foldl (stepT p most) s).2.length = s.1.length + s.2.length + L.length
  | [], s => rfl
  | x :: xs, s => by
    rw [List.foldl_cons, foldT_len p most xs]
    unfold stepT
    split <;> simp <;> omega
theorem foldT_out (p : Mg → Bool) (most : Int) : ∀ (L : List Mg) (s : List Mg × List Mg), (∀ x, x ∈ L → p x = false) → L.foldl (stepT p most) s = (s.1, s.2 ++ L)
  | [], s, _ => by simp
  | x :: xs, s, h => by
    have hx := h x (by simp)
    have e : stepT p most s x = (s.1, s.2 ++ [x]) := by simp [stepT, hx]
    rw [List.foldl_cons, e, foldT_out p most xs _ fun y hy => h y (by simp [hy])]
    simp
theorem foldT_in (p : Mg → Bool) (most : Int) : ∀ (L : List Mg) (s : List Mg × List Mg), (∀ x, x ∈ L → p x = true) → L.foldl (stepT p most) s = (s.1 ++ L.take (most - s.1.length).toNat, s.2 ++ L.drop (most - s.1.length).toNat)
  | [], s, _ => by simp
  | x :: xs, s, h => by
    have hx := h x (by simp)
    rw [List.foldl_cons, foldT_in p most xs _ fun y hy => h y (by simp [hy])]
    unfold stepT
    by_cases hl : (s.1.length : Int) < most
    · obtain ⟨j, hj⟩ : ∃ j, (most - (s.1.length : Int)).toNat = j + 1 := ⟨(most - (s.1.length : Int)).toNat - 1, by omega⟩
      have hj' : (most - ((s.1.length + 1 : Nat) : Int)).toNat = j := by omega
      simp only [hx, hl, decide_true, Bool.and_self, if_true, List.length_append, List.length_cons, List.length_nil, Nat.zero_add, hj, hj', List.take_succ_cons, List.drop_succ_cons, List.append_assoc, List.cons_append, List.nil_append]
    · have hj : (most - (s.1.length : Int)).toNat = 0 := by omega
      simp [hx, hl, hj]
/-- where those within lie together: what is taken, and what is left -/
theorem takeD_parts {p : Mg → Bool} {most : Int} {a b c : List Mg} (ha : ∀ x, x ∈ a → p x = false) (hb : ∀ x, x ∈ b → p x = true) (hc : ∀ x, x ∈ c → p x = false) :
    takeD p most (a ++ b ++ c) = (b.take most.toNat, a ++ b.drop most.toNat ++ c) := by
  unfold takeD
  rw [List.foldl_append, List.foldl_append, foldT_out p most a _ ha, foldT_in p most b _ hb, foldT_out p most c _ hc]
  simp
theorem foldT_perm (p : Mg → Bool) (most : Int) : ∀ (L : List Mg) (s : List Mg × List Mg), ((L.foldl (stepT p most) s).1 ++ (L.foldl (stepT p most) s).2).Perm (s.1 ++ s.2 ++ L)
  | [], s => by simp
  | x :: xs, s => by
    rw [List.foldl_cons]
    refine (foldT_perm p most xs _).trans ?_
    unfold stepT
    split
    · simp only [List.append_assoc]
      refine List.Perm.append_left _ ?_
      simp only [List.cons_append, List.nil_append]
      exact (List.perm_middle (a := x) (l₁ := s.2) (l₂ := xs)).symm
    · simp
theorem foldT_sub (p : Mg → Bool) (most : Int) : ∀ (L : List Mg) (s : List Mg × List Mg), ((L.foldl (stepT p most) s).1).Sublist (s.1 ++ L) ∧ ((L.foldl (stepT p most) s).2).Sublist (s.2 ++ L)
  | [], s => by simp
  | x :: xs, s => by
    rw [List.foldl_cons]
    obtain ⟨h1, h2⟩ := foldT_sub p most xs (stepT p most s x)
    revert h1 h2
    generalize xs.foldl (stepT p most) (stepT p most s x) = r
    unfold stepT
    split
    · intro h1 h2
      exact ⟨by simpa using h1, h2.trans (List.Sublist.append_left (List.sublist_cons_self _ _) _)⟩
    · intro h1 h2
      exact ⟨h1.trans (List.Sublist.append_left (List.sublist_cons_self _ _) _), by simpa using h2⟩
theorem Ri.taken {L : List Mg} (h : Ri L) (p : Mg → Bool) (most : Int) : Ri (takeD p most L).1 ∧ Ri (takeD p most L).2 := by
  obtain ⟨h1, h2⟩ := foldT_sub p most L ([], [])
  rw [List.nil_append] at h1 h2
  exact ⟨h.sublist h1, h.sublist h2⟩
/-- what is taken, and what is left, merged, is the buffer -/
theorem Ri.whole {L : List Mg} (h : Ri L) (p : Mg → Bool) (most : Int) : mergeD (takeD p most L).1 (takeD p most L).2 = L := by
  obtain ⟨h1, h2⟩ := h.taken p most
  have hp : ((takeD p most L).1 ++ (takeD p most L).2).Perm L := foldT_perm p most L ([], [])
  have hd : ((takeD p most L).1 ++ (takeD p most L).2).Pairwise fun a b => a.1 ≠ b.1 := (hp.pairwise_iff fun h e => h e.symm).2 h.ne
  refine Ri.ext (Ri.merge h2).1 h fun x => ?_
  rw [mem_mergeD h1, ← hp.mem_iff, List.mem_append]
  constructor
  · rintro (h | h)
    · exact .inl h
    · exact .inr h.1
  · rintro (h | h)
    · exact .inl h
    · exact .inr ⟨h, fun y hy => (List.pairwise_append.1 hd).2.2 y hy x h⟩
end Bu
end Go.Proofs.Ytlabbmfiecbigaa

namespace Go.Proofs.Ytlabbmfiecbigaa
namespace Lf
open Lx Bu
/-- keys rise, said of any two -/
abbrev PRi (L : List Pr) : Prop := L.Pairwise fun a b => cmpB a.1 b.1 < 0
theorem prise_iff {L : List Pr} : PRise L ↔ PRi L := by
  constructor
  · intro h
    induction L with
    | nil => exact .nil
    | cons x xs ih =>
      have ih := ih fun i a b ha hb => h (i + 1) a b (by simpa using ha) (by simpa using hb)
      refine List.pairwise_cons.2 ⟨?_, ih⟩
      cases xs with
      | nil => intro a ha; cases ha
      | cons y ys =>
        have h0 := h 0 x y rfl rfl
        intro a ha
        rcases List.mem_cons.1 ha with rfl | ha
        · exact h0
        · exact cmpB_trans h0 ((List.pairwise_cons.1 ih).1 a ha)
  · intro h i a b ha hb
    obtain ⟨h1, e1⟩ := List.getElem?_eq_some_iff.1 ha
    obtain ⟨h2, e2⟩ := List.getElem?_eq_some_iff.1 hb
    subst e1 e2
    exact List.pairwise_iff_getElem.1 h i (i + 1) h1 h2 (by omega)
theorem PRi.at_ {L : List Pr} (h : PRi L) {i j : Nat} {x y : Pr} (hx : L[i]? = some x) (hy : L[j]? = some y) (hij : i < j) : cmpB x.1 y.1 < 0 := by
  obtain ⟨h1, e1⟩ := List.getElem?_eq_some_iff.1 hx
  obtain ⟨h2, e2⟩ := List.getElem?_eq_some_iff.1 hy
  subst e1 e2
  exact List.pairwise_iff_getElem.1 h i j h1 h2 hij
/-- the first half, the others, the pivot, whether there are any -/
def halfP (L : List Pr) : List Pr × List Pr × ByteArray × Bool :=
  match L[(L.length + 1) / 2 - 1]?, L[(L.length + 1) / 2]? with
  | some x, some y => (L.take ((L.length + 1) / 2), L.drop ((L.length + 1) / 2), (cutB x.1 y.1).1, true)
  | _, _ => ([], [], ⟨#[]⟩, false)
theorem halfP_few {L : List Pr} (h : L.length < 2) : halfP L = ([], [], ⟨#[]⟩, false) := by
  unfold halfP
  rw [List.getElem?_eq_none (l := L) (i := (L.length + 1) / 2) (by omega)]
  split
  · rename_i h2
    cases h2
  · rfl
theorem halfP_some {L : List Pr} {x y : Pr} (hx : L[(L.length + 1) / 2 - 1]? = some x) (hy : L[(L.length + 1) / 2]? = some y) : halfP L = (L.take ((L.length + 1) / 2), L.drop ((L.length + 1) / 2), (cutB x.1 y.1).1, true) := by
  unfold halfP
  rw [hx, hy]
/-- a cut is behind the one, not behind the other -/
theorem cutB_mid {a b : ByteArray} (h : cmpB a b < 0) : cmpB a (cutB a b).1 < 0 ∧ cmpB (cutB a b).1 b ≤ 0 := by
  rw [cutB_some (by omega)]
  refine ⟨?_, ?_⟩
  · have := cmp_take_cut a.data.toList b.data.toList h
    unfold cmpB
    rw [extract_list]
    exact this
  · have : ∀ (k : Nat) (l : List UInt8), Lib.compareBytes (l.take k) l ≤ 0 := by
      intro k
      induction k with
      | zero => intro l; cases l <;> simp [Lib.compareBytes]
      | succ k ih =>
        intro l
        cases l with
        | nil => simp [Lib.compareBytes]
        | cons z l =>
          rw [List.take_succ_cons, cmp_cons_eq]
          exact ih l
    unfold cmpB
    rw [extract_list]
    exact this _ _
end Lf
end Go.Proofs.Ytlabbmfiecbigaa
namespace Go.Proofs.Ytlabbmfiecbigaa
open Go.RowKit
namespace Lf
open Mem Lx Bu
theorem run_cutP (A : Option Addr) (n c m : Nat) (hk : m ≤ n) (w : World) : (Instr.slice 27 (.slice A n c) (some (.int .i64 (m : Int))) none none).run Try.prog w = .ok (.slice (cutK 2 A c m) (n - m) (c - m)) w := run_cutK Try.underlying27 prinfo A n c m hk w
theorem run_upToP (A : Option Addr) (n c m : Nat) (hk : m ≤ c) (w : World) : (Instr.slice 27 (.slice A n c) none (some (.int .i64 (m : Int))) none).run Try.prog w = .ok (.slice A m c) w := run_upToK Try.underlying27 prinfo A n c m hk w
end Lf
end Go.Proofs.Ytlabbmfiecbigaa

namespace Go.Proofs.Ytlabbmfiecbigaa
open Go.RowKit
namespace Lf
open Mem Lx Bu
/-- the value of a key -/
def getP (L : List Pr) (key : ByteArray) : Option ByteArray := (L.find? fun m => decide (m.1 = key)).map (·.2)
theorem getP_at {L : List Pr} {key : ByteArray} {k : Nat} {x : Pr} (hx : L[k]? = some x) (h : x.1 = key) (hn : ∀ (i : Nat) (m : Pr), i < k → L[i]? = some m → m.1 ≠ key) : getP L key = some x.2 := by
  unfold getP
  have : L.find? (fun m => decide (m.1 = key)) = some x := by
    rw [List.find?_eq_some_iff_getElem]
    have hk := (List.getElem?_eq_some_iff.1 hx).1
    refine ⟨by simpa using h, k, hk, ?_, fun j hj => ?_⟩
    · rw [List.getElem?_eq_getElem hk] at hx
      exact Option.some.inj hx
    · have := hn j L[j] hj (List.getElem?_eq_getElem (Nat.lt_trans hj hk))
      simpa using this
  rw [this]
  rfl
theorem getP_none {L : List Pr} {key : ByteArray} (hn : ∀ (i : Nat) (m : Pr), i < L.length → L[i]? = some m → m.1 ≠ key) : getP L key = none := by
  unfold getP
  have : L.find? (fun m => decide (m.1 = key)) = none := by
    rw [List.find?_eq_none]
    intro x hx
    obtain ⟨j, hj⟩ := List.getElem?_of_mem hx
    have := hn j x (List.getElem?_eq_some_iff.1 hj).1 hj
    simpa using this
  rw [this]
  rfl
end Lf
end Go.Proofs.Ytlabbmfiecbigaa

namespace Go.Proofs.Ytlabbmfiecbigaa
namespace Lf
open Lx Bu
/-- two that rise and have the same pairs are one -/
theorem PRi.ext : ∀ {L L' : List Pr}, PRi L → PRi L' → (∀ x, x ∈ L ↔ x ∈ L') → L = L'
  | [], [], _, _, _ => rfl
  | [], b :: bs, _, _, h => absurd ((h b).2 (by simp)) (by simp)
  | a :: us, [], _, _, h => absurd ((h a).1 (by simp)) (by simp)
  | a :: us, b :: bs, h, h', hm => by
    obtain ⟨h1, h2⟩ := List.pairwise_cons.1 h
    obtain ⟨k1, k2⟩ := List.pairwise_cons.1 h'
    have e : a = b := by
      rcases List.mem_cons.1 ((hm a).1 (by simp)) with e | ha
      · exact e
      · rcases List.mem_cons.1 ((hm b).2 (by simp)) with e | hb
        · exact e.symm
        · exact absurd (cmpB_self a.1) (by have := cmpB_trans (h1 b hb) (k1 a ha); omega)
    subst e
    rw [PRi.ext h2 k2 fun x => ⟨fun hx => ?_, fun hx => ?_⟩]
    · rcases List.mem_cons.1 ((hm x).1 (List.mem_cons_of_mem _ hx)) with rfl | hx'
      · exact absurd (h1 x hx) (by have := cmpB_self x.1; omega)
      · exact hx'
    · rcases List.mem_cons.1 ((hm x).2 (List.mem_cons_of_mem _ hx)) with rfl | hx'
      · exact absurd (k1 x hx) (by have := cmpB_self x.1; omega)
      · exact hx'
/-- the pairs but the key's -/
def cutP (L : List Pr) (key : ByteArray) : List Pr := L.filter fun x => !decide (x.1 = key)
theorem mem_cutP {L : List Pr} {key : ByteArray} {x : Pr} : x ∈ cutP L key ↔ x ∈ L ∧ x.1 ≠ key := by simp [cutP]
theorem PRi.cut {L : List Pr} (h : PRi L) (key : ByteArray) : PRi (cutP L key) := h.filter _
theorem cutP_len (L : List Pr) (key : ByteArray) : (cutP L key).length ≤ L.length := List.length_filter_le _ _
theorem cutP_next {L : List Pr} {key : ByteArray} {k : Nat} {x : Pr} (hx : L[k]? = some x) : cutP (L.take (k + 1)) key = cutP (L.take k) key ++ if x.1 = key then [] else [x] := by
  have hk := (List.getElem?_eq_some_iff.1 hx).1
  have e : L[k] = x := (List.getElem?_eq_some_iff.1 hx).2
  unfold cutP
  rw [List.take_succ_eq_append_getElem hk, List.filter_append, e]
  by_cases h : x.1 = key <;> simp [h]
/-- ahead of the key -/
def ahead (key : ByteArray) (x : Pr) : Bool := decide (cmpB x.1 key < 0)
/-- the pairs with the key's -/
def putP (L : List Pr) (key val : ByteArray) : List Pr := (cutP L key).takeWhile (ahead key) ++ [(key, val)] ++ (cutP L key).dropWhile (ahead key)
theorem while_at {P : Pr → Bool} : ∀ {C : List Pr} {p : Nat}, p ≤ C.length → (∀ (i : Nat) (x : Pr), i < p → C[i]? = some x → P x = true) → (∀ x, C[p]? = some x → P x = false) → C.takeWhile P = C.take p ∧ C.dropWhile P = C.drop p
  | [], p, _, _, _ => by simp
  | c :: cs, 0, _, _, h2 => by
    have := h2 c rfl
    simp [this]
  | c :: cs, p + 1, hp, h1, h2 => by
    have h0 := h1 0 c (by omega) rfl
    obtain ⟨e1, e2⟩ := while_at (C := cs) (p := p) (by simpa using hp) (fun i x hi hx => h1 (i + 1) x (by omega) (by simpa using hx)) (fun x hx => h2 x (by simpa using hx))
    simp [h0, e1, e2]
theorem PRi.drop_behind : ∀ {C : List Pr} {key : ByteArray}, PRi C → (∀ x, x ∈ C → x.1 ≠ key) → ∀ x, x ∈ C.dropWhile (ahead key) → cmpB key x.1 < 0
  | [], _, _, _, x, hx => by cases hx
  | c :: cs, key, h, hn, x, hx => by
    obtain ⟨h1, h2⟩ := List.pairwise_cons.1 h
    rw [List.dropWhile_cons] at hx
    by_cases hc : cmpB c.1 key < 0
    · have : ahead key c = true := by simpa [ahead] using hc
      rw [if_pos this] at hx
      exact PRi.drop_behind h2 (fun y hy => hn y (by simp [hy])) x hx
    · have : ahead key c = false := by simpa [ahead] using hc
      rw [this] at hx
      have hkc : cmpB key c.1 < 0 := by
        rcases cmpB_tri key c.1 with h3 | h3 | h3
        · exact h3
        · exact absurd h3.symm (hn c (by simp))
        · exact absurd h3 hc
      rcases List.mem_cons.1 hx with rfl | hx
      · exact hkc
      · exact cmpB_trans hkc (h1 x hx)
theorem take_ahead {C : List Pr} {key : ByteArray} : ∀ x, x ∈ C.takeWhile (ahead key) → cmpB x.1 key < 0 := by
  induction C with
  | nil => intro x hx; cases hx
  | cons c cs ih =>
    intro x hx
    rw [List.takeWhile_cons] at hx
    by_cases hc : cmpB c.1 key < 0
    · have : ahead key c = true := by simpa [ahead] using hc
      rw [if_pos this] at hx
      rcases List.mem_cons.1 hx with rfl | hx
      · exact hc
      · exact ih x hx
    · have : ahead key c = false := by simpa [ahead] using hc
      rw [this] at hx
      cases hx
theorem mem_putP {L : List Pr} {key val : ByteArray} {x : Pr} : x ∈ putP L key val ↔ x = (key, val) ∨ (x ∈ L ∧ x.1 ≠ key) := by
  have : x ∈ cutP L key ↔ x ∈ (cutP L key).takeWhile (ahead key) ∨ x ∈ (cutP L key).dropWhile (ahead key) := by
    rw [← List.mem_append, List.takeWhile_append_dropWhile]
  rw [← mem_cutP, this]
  unfold putP
  rw [List.mem_append, List.mem_append, List.mem_singleton]
  constructor
  · rintro ((h | h) | h)
    · exact .inr (.inl h)
    · exact .inl h
    · exact .inr (.inr h)
  · rintro (h | h | h)
    · exact .inl (.inr h)
    · exact .inl (.inl h)
    · exact .inr h
theorem PRi.put {L : List Pr} (h : PRi L) (key val : ByteArray) : PRi (putP L key val) := by
  have hc := h.cut key
  have h2 := hc.drop_behind (key := key) fun x hx => (mem_cutP.1 hx).2
  unfold putP
  refine List.pairwise_append.2 ⟨List.pairwise_append.2 ⟨hc.sublist (List.takeWhile_sublist _), List.pairwise_singleton _ _, fun a ha b hb => ?_⟩, hc.sublist (List.dropWhile_sublist _), fun a ha b hb => ?_⟩
  · obtain rfl : b = (key, val) := by simpa using hb
    exact take_ahead a ha
  · rcases List.mem_append.1 ha with ha | ha
    · exact cmpB_trans (take_ahead a ha) (h2 b hb)
    · obtain rfl : a = (key, val) := by simpa using ha
      exact h2 b hb
theorem putP_len (L : List Pr) (key val : ByteArray) : (putP L key val).length ≤ L.length + 1 := by
  have h1 := cutP_len L key
  have h2 : ((cutP L key).takeWhile (ahead key)).length + ((cutP L key).dropWhile (ahead key)).length = (cutP L key).length := by
    rw [← List.length_append, List.takeWhile_append_dropWhile]
  unfold putP
  rw [List.length_append, List.length_append, List.length_singleton]
  omega
/-- a message done -/
def doP (L : List Pr) (m : Mg) : List Pr := if m.2.1 = true then cutP L m.1 else putP L m.1 m.2.2
def applyP (L : List Pr) (M : List Mg) : List Pr := M.foldl doP L
theorem applyP_next {L : List Pr} {M : List Mg} {k : Nat} {m : Mg} (hm : M[k]? = some m) : applyP L (M.take (k + 1)) = doP (applyP L (M.take k)) m := by
  have hk := (List.getElem?_eq_some_iff.1 hm).1
  have e : M[k] = m := (List.getElem?_eq_some_iff.1 hm).2
  unfold applyP
  rw [List.take_succ_eq_append_getElem hk, List.foldl_append, e]
  rfl
theorem doP_len (L : List Pr) (m : Mg) : (doP L m).length ≤ L.length + 1 := by
  unfold doP
  split
  · have := cutP_len L m.1
    omega
  · exact putP_len _ _ _
theorem applyP_len : ∀ (M : List Mg) (L : List Pr), (applyP L M).length ≤ L.length + M.length
  | [], L => Nat.le_refl _
  | m :: M, L => by
    have h1 := applyP_len M (doP L m)
    have h2 := doP_len L m
    show (applyP (doP L m) M).length ≤ _
    rw [List.length_cons]
    omega
theorem PRi.done {L : List Pr} (h : PRi L) (m : Mg) : PRi (doP L m) := by
  unfold doP
  split
  · exact h.cut _
  · exact h.put _ _
theorem PRi.apply : ∀ {M : List Mg} {L : List Pr}, PRi L → PRi (applyP L M)
  | [], _, h => h
  | m :: M, _, h => PRi.apply (M := M) (h.done m)
theorem mem_doP {L : List Pr} {m : Mg} {x : Pr} (h : x ∈ doP L m) : x = (m.1, m.2.2) ∨ x ∈ L := by
  unfold doP at h
  split at h
  · exact .inr (mem_cutP.1 h).1
  · rcases mem_putP.1 h with h | h
    · exact .inl h
    · exact .inr h.1
theorem key_apply {n : Nat} : ∀ {M : List Mg} {L : List Pr}, (∀ x, x ∈ L → x.1.size ≤ n) → (∀ m, m ∈ M → m.1.size ≤ n) → ∀ x, x ∈ applyP L M → x.1.size ≤ n
  | [], _, h, _, x, hx => h x hx
  | m :: M, L, h, hM, x, hx => key_apply (M := M) (L := doP L m) (fun y hy => by
      rcases mem_doP hy with rfl | hy
      · exact hM m (by simp)
      · exact h y hy) (fun y hy => hM y (by simp [hy])) x hx
/-! ### as a map -/
theorem PRi.get {L : List Pr} (h : PRi L) {key v : ByteArray} : getP L key = some v ↔ (key, v) ∈ L := by
  constructor
  · intro hg
    unfold getP at hg
    cases hf : L.find? (fun m => decide (m.1 = key)) with
    | none => rw [hf] at hg; cases hg
    | some x =>
      rw [hf] at hg
      have h1 := List.find?_some hf
      have h2 := List.mem_of_find?_eq_some hf
      have h3 : x.1 = key := by simpa using h1
      have h4 : x.2 = v := by simpa using hg
      rw [← h3, ← h4]
      exact h2
  · intro hm
    obtain ⟨i, hi⟩ := List.getElem?_of_mem hm
    exact getP_at (x := (key, v)) hi rfl fun j m hj hx e => by
      have := h.at_ hx hi hj
      rw [e, cmpB_self] at this
      omega
theorem opt_ext {a b : Option ByteArray} (h : ∀ v, a = some v ↔ b = some v) : a = b := by
  cases a with
  | none =>
    cases b with
    | none => rfl
    | some y => exact absurd ((h y).2 rfl) (by simp)
  | some x => exact ((h x).1 rfl).symm
/-- what a message says of a key -/
def sayP (key : ByteArray) (s : Option ByteArray) (m : Mg) : Option ByteArray := if m.1 = key then (if m.2.1 = true then none else some m.2.2) else s
theorem get_doP {L : List Pr} (h : PRi L) (m : Mg) (key : ByteArray) : getP (doP L m) key = sayP key (getP L key) m := by
  refine opt_ext fun v => ?_
  rw [(h.done m).get]
  unfold doP sayP
  by_cases hk : m.1 = key
  · rw [if_pos hk]
    by_cases hd : m.2.1 = true
    · rw [if_pos hd, if_pos hd, mem_cutP]
      simp [hk]
    · rw [if_neg hd, if_neg hd, mem_putP]
      constructor
      · rintro (h1 | ⟨_, h1⟩)
        · simp only [Prod.mk.injEq] at h1
          rw [h1.2]
        · exact absurd hk.symm h1
      · intro h1
        left
        rw [← hk, Option.some.inj h1]
  · rw [if_neg hk, h.get]
    by_cases hd : m.2.1 = true
    · rw [if_pos hd, mem_cutP]
      simp only [and_iff_left_iff_imp]
      exact fun _ => fun e => hk e.symm
    · rw [if_neg hd, mem_putP]
      constructor
      · rintro (h1 | ⟨h1, _⟩)
        · simp only [Prod.mk.injEq] at h1
          exact absurd h1.1.symm hk
        · exact h1
      · exact fun h1 => .inr ⟨h1, fun e => hk e.symm⟩
theorem get_applyP (key : ByteArray) : ∀ {M : List Mg} {L : List Pr}, PRi L → getP (applyP L M) key = M.foldl (sayP key) (getP L key)
  | [], _, _ => rfl
  | m :: M, L, h => by
    show getP (applyP (doP L m) M) key = M.foldl (sayP key) (sayP key (getP L key) m)
    rw [get_applyP key (M := M) (h.done m), get_doP h]
/-! ### a span's first -/
def partP (p : Pr → Bool) (most : Int) (L : List Pr) : List Pr := (L.filter p).take most.toNat
theorem filter_next {p : Pr → Bool} {L : List Pr} {k : Nat} {x : Pr} (hx : L[k]? = some x) : (L.take (k + 1)).filter p = (L.take k).filter p ++ if p x = true then [x] else [] := by
  have hk := (List.getElem?_eq_some_iff.1 hx).1
  have e : L[k] = x := (List.getElem?_eq_some_iff.1 hx).2
  rw [List.take_succ_eq_append_getElem hk, List.filter_append, e]
  by_cases h : p x = true <;> simp [h]
/-- at the end, or where there are enough -/
theorem partP_at {p : Pr → Bool} {most : Int} {L : List Pr} {k : Nat} (hle : ((L.take k).filter p).length ≤ most.toNat) (h : L.length ≤ k ∨ most ≤ (((L.take k).filter p).length : Int)) : partP p most L = (L.take k).filter p := by
  unfold partP
  rcases h with h | h
  · rw [List.take_of_length_le h] at hle ⊢
    exact List.take_of_length_le hle
  · have e : most.toNat = ((L.take k).filter p).length := by omega
    rw [e]
    have : L.filter p = (L.take k).filter p ++ (L.drop k).filter p := by rw [← List.filter_append, List.take_append_drop]
    rw [this]
    simp
/-! ### halves -/
end Lf
end Go.Proofs.Ytlabbmfiecbigaa

namespace Go.Proofs.Ytlabbmfiecbigaa
open Go.RowKit
namespace No
open Mem Lx Bu Lf Fa
variable {c : Cfg} {p k : Nd} {i most : Int}
/-- how many may go -/
def roomN (c : Cfg) (k : Nd) (most : Int) : Int := if k.lv = 0 then most else min most (c.buffer - k.buf.length)
/-- those of a place -/
def wayIs (P : List ByteArray) (i : Int) (m : Mg) : Bool := decide (((wayS P m.1 : Nat) : Int) = i)
/-- what goes, and what is left -/
def goN (c : Cfg) (p : Nd) (i : Int) (k : Nd) (most : Int) : List Mg × List Mg := takeD (wayIs p.piv i) (roomN c k most) p.buf
def NoPour (p : Nd) (i : Int) (k : Nd) : Prop := i < 0 ∨ (p.kids.length : Int) ≤ i ∨ p.lv ≠ k.lv + 1
instance : Decidable (NoPour p i k) := by unfold NoPour; infer_instance
/-- a kid behind what comes -/
def intoN (k : Nd) (M : List Mg) : Nd := if k.lv = 0 then { k with prs := applyP k.prs M } else { k with buf := mergeD M k.buf }
def pourN (c : Cfg) (p : Nd) (i : Int) (k : Nd) (most : Int) : Nd × Nd × Nat :=
  if NoPour p i k then (p, k, 0) else ({ p with buf := (goN c p i k most).2 }, intoN k (goN c p i k most).1, (goN c p i k most).1.length)
theorem pourN_no (h : NoPour p i k) : pourN c p i k most = (p, k, 0) := if_pos h
theorem pourN_yes (h : ¬ NoPour p i k) : pourN c p i k most = ({ p with buf := (goN c p i k most).2 }, intoN k (goN c p i k most).1, (goN c p i k most).1.length) := if_neg h
/-! ### what is taken -/
theorem foldT_few (f : Mg → Bool) (m : Int) : ∀ (L : List Mg) (s : List Mg × List Mg), ((L.foldl (Bu.stepT f m) s).1.length : Int) ≤ max m s.1.length
  | [], s => by simp only [List.foldl_nil]; omega
  | x :: xs, s => by
    have ih := foldT_few f m xs (Bu.stepT f m s x)
    rw [List.foldl_cons]
    revert ih
    generalize xs.foldl (Bu.stepT f m) (Bu.stepT f m s x) = r
    unfold Bu.stepT
    split
    · rename_i h
      simp only [Bool.and_eq_true, decide_eq_true_eq] at h
      simp only [List.length_append, List.length_cons, List.length_nil]
      omega
    · exact id
theorem takeD_few (f : Mg → Bool) (m : Int) (L : List Mg) : ((takeD f m L).1.length : Int) ≤ max m 0 := foldT_few f m L ([], [])
theorem foldT_each (f : Mg → Bool) (m : Int) : ∀ (L : List Mg) (s : List Mg × List Mg), (∀ x, x ∈ s.1 → f x = true) → ∀ x, x ∈ (L.foldl (Bu.stepT f m) s).1 → f x = true
  | [], _, h => h
  | y :: xs, s, h => by
    rw [List.foldl_cons]
    refine foldT_each f m xs _ fun x hx => ?_
    unfold Bu.stepT at hx
    split at hx
    · rename_i hy
      simp only [Bool.and_eq_true] at hy
      rcases List.mem_append.1 hx with hx | hx
      · exact h x hx
      · rw [List.mem_singleton.1 hx]
        exact hy.1
    · exact h x hx
theorem takeD_each (f : Mg → Bool) (m : Int) (L : List Mg) : ∀ x, x ∈ (takeD f m L).1 → f x = true := foldT_each f m L ([], []) fun _ hx => by cases hx
theorem takeD_len (f : Mg → Bool) (m : Int) (L : List Mg) : (takeD f m L).1.length + (takeD f m L).2.length = L.length := by
  have := foldT_len f m L ([], [])
  unfold takeD
  simpa using this
theorem takeD_sub (f : Mg → Bool) (m : Int) (L : List Mg) : (takeD f m L).1.Sublist L ∧ (takeD f m L).2.Sublist L := by
  have := foldT_sub f m L ([], [])
  unfold takeD
  simpa using this
/-! ### pairs -/
theorem cutP_less : ∀ {L : List Pr} {key : ByteArray}, PRi L → L.length ≤ (cutP L key).length + 1
  | [], _, _ => Nat.zero_le _
  | x :: xs, key, h => by
    have hx := List.pairwise_cons.1 h
    unfold cutP
    rw [List.filter_cons]
    by_cases e : x.1 = key
    · have : xs.filter (fun y => !decide (y.1 = key)) = xs := List.filter_eq_self.2 fun y hy => by
        have h1 : cmpB x.1 y.1 < 0 := hx.1 y hy
        have h2 : y.1 ≠ key := fun e2 => by
          rw [e, e2, cmpB_self] at h1
          omega
        simp [h2]
      rw [this]
      simp [e]
    · have ih := cutP_less (key := key) hx.2
      unfold cutP at ih
      simp [e]
      omega
theorem putP_less {L : List Pr} (key val : ByteArray) (h : PRi L) : L.length ≤ (putP L key val).length := by
  have h1 := cutP_less (key := key) h
  have h2 : (putP L key val).length = (cutP L key).length + 1 := by
    unfold putP
    have := congrArg List.length (List.takeWhile_append_dropWhile (p := Lf.ahead key) (l := cutP L key))
    rw [List.length_append] at this
    simp only [List.length_append, List.length_cons, List.length_nil]
    omega
  omega
theorem doP_less {L : List Pr} (m : Mg) (h : PRi L) : L.length ≤ (doP L m).length + 1 := by
  unfold doP
  split
  · exact cutP_less h
  · exact Nat.le_succ_of_le (putP_less _ _ h)
theorem applyP_less : ∀ {M : List Mg} {L : List Pr}, PRi L → L.length ≤ (applyP L M).length + M.length
  | [], _, _ => Nat.le_refl _
  | m :: M, L, h => by
    have h1 := doP_less m h
    have h2 := applyP_less (M := M) (h.done m)
    have e : applyP L (m :: M) = applyP (doP L m) M := rfl
    rw [e, List.length_cons]
    omega
theorem mem_applyP {x : Pr} : ∀ {M : List Mg} {L : List Pr}, x ∈ applyP L M → (∃ m, m ∈ M ∧ x = (m.1, m.2.2)) ∨ x ∈ L
  | [], _, h => .inr h
  | m :: M, L, h => by
    rcases mem_applyP (M := M) (L := doP L m) h with ⟨y, hy, e⟩ | h
    · exact .inl ⟨y, List.mem_cons_of_mem _ hy, e⟩
    · rcases mem_doP h with h | h
      · exact .inl ⟨m, List.mem_cons_self, h⟩
      · exact .inr h
/-! ### what is poured is right -/
theorem rightS_all {L : List ByteArray} (h : RightS L ⟨#[]⟩ ⟨#[]⟩ true) : SRi L := srise_iff.1 h.2
/-- the kid's span -/
def kidS (p : Nd) (i : Int) : (ByteArray × ByteArray × Bool) × Bool := spanS p.piv i ⟨#[]⟩ ⟨#[]⟩ true
def RightIn (c : Cfg) (s : ByteArray × ByteArray × Bool) (n : Nd) : Prop := RightN c s.1 s.2.1 s.2.2 n
theorem kid_in (h : SRi p.piv) (hi : ¬ (i < 0 ∨ (p.piv.length : Int) < i)) {s : ByteArray × ByteArray × Bool} (hs : kidS p i = (s, true)) (key : ByteArray) : inB s.1 s.2.1 s.2.2 key = decide (((wayS p.piv key : Nat) : Int) = i) := by
  obtain ⟨n, rfl⟩ : ∃ n : Nat, i = n := ⟨i.toNat, by omega⟩
  have h1 := spanS_one h n (by omega) ⟨#[]⟩ ⟨#[]⟩ true key
  have h2 : spanS p.piv n ⟨#[]⟩ ⟨#[]⟩ true = (s, true) := hs
  rw [h2] at h1
  have h3 : inB ⟨#[]⟩ ⟨#[]⟩ true key = true := inB_iff.2 ⟨by
    unfold cmpB Lib.compareBytes
    split <;> simp_all, .inl rfl⟩
  rw [h3] at h1
  simp only [Bool.true_and, Bool.and_true] at h1
  rw [h1]
  by_cases e : n = wayS p.piv key
  · rw [← e]
    simp
  · have : ¬ ((wayS p.piv key : Nat) : Int) = n := by omega
    simp [e, this]
theorem kid_some (h : RightS p.piv ⟨#[]⟩ ⟨#[]⟩ true) (hi : ¬ (i < 0 ∨ (p.piv.length : Int) < i)) : ∃ s, kidS p i = (s, true) := by
  obtain ⟨n, rfl⟩ : ∃ n : Nat, i = n := ⟨i.toNat, by omega⟩
  have := spanS_all h (by rfl) n (by omega)
  exact ⟨(kidS p n).1, Prod.ext rfl this⟩
theorem RightN.inner {lo hi : ByteArray} {top : Bool} (h : RightN c lo hi top p) (hl : 1 ≤ p.lv) : InnerP c lo hi top p := (h.2 (by omega)).2
theorem pour_yes (hp : RightN c ⟨#[]⟩ ⟨#[]⟩ true p) (hl : 1 ≤ p.lv) (hn : ¬ NoPour p i k) : (¬ (i < 0 ∨ (p.piv.length : Int) < i)) ∧ p.lv = k.lv + 1 := by
  have h := (hp.inner hl).fewer
  unfold NoPour at hn
  omega
theorem into_counts (M : List Mg) {s : ByteArray × ByteArray × Bool} (hk : RightIn c s k) : (intoN k M).buf.length ≤ k.buf.length + M.length ∧ (intoN k M).prs.length ≤ k.prs.length + M.length ∧ k.prs.length ≤ (intoN k M).prs.length + M.length := by
  unfold intoN
  split
  · rename_i e
    have hq := prise_iff.1 (hk.1 e).rise
    have h1 := applyP_len M k.prs
    have h2 := applyP_less (M := M) hq
    exact ⟨Nat.le_add_right _ _, h1, h2⟩
  · rename_i e
    have hq := rise_iff.1 (hk.2 e).2.rise
    have h1 := (Ri.merge (a := M) hq).2
    exact ⟨by simp only; omega, Nat.le_add_right _ _, Nat.le_add_right _ _⟩
theorem pour_counts (hp : RightN c ⟨#[]⟩ ⟨#[]⟩ true p) (hl : 1 ≤ p.lv) (hk : ∀ s, kidS p i = (s, true) → RightIn c s k) :
    (pourN c p i k most).1.buf.length + (pourN c p i k most).2.2 = p.buf.length ∧ ((pourN c p i k most).2.2 : Int) ≤ max 0 most ∧ (pourN c p i k most).2.1.buf.length ≤ k.buf.length + (pourN c p i k most).2.2 ∧ (pourN c p i k most).2.1.prs.length ≤ k.prs.length + (pourN c p i k most).2.2 ∧ k.prs.length ≤ (pourN c p i k most).2.1.prs.length + (pourN c p i k most).2.2 := by
  by_cases hn : NoPour p i k
  · rw [pourN_no hn]
    exact ⟨rfl, by simp only; omega, Nat.le_refl _, Nat.le_refl _, Nat.le_refl _⟩
  rw [pourN_yes hn]
  obtain ⟨hi, hlv⟩ := pour_yes hp hl hn
  obtain ⟨s, hs⟩ := kid_some (hp.inner hl).right hi
  have h1 := takeD_len (wayIs p.piv i) (roomN c k most) p.buf
  have h2 := takeD_few (wayIs p.piv i) (roomN c k most) p.buf
  have h3 := into_counts (goN c p i k most).1 (hk s hs)
  have h4 : roomN c k most ≤ most := by
    unfold roomN
    split <;> omega
  refine ⟨?_, ?_, h3⟩
  · simp only [goN]
    omega
  · simp only [goN]
    omega
/-- the node that poured is right -/
theorem pour_left (hp : RightN c ⟨#[]⟩ ⟨#[]⟩ true p) (hl : 1 ≤ p.lv) : RightN c ⟨#[]⟩ ⟨#[]⟩ true (pourN c p i k most).1 := by
  by_cases hn : NoPour p i k
  · rw [pourN_no hn]
    exact hp
  rw [pourN_yes hn]
  have h := hp.inner hl
  have h1 := takeD_sub (wayIs p.piv i) (roomN c k most) p.buf
  have h2 := h.few
  have h3 := h1.2.length_le
  refine ⟨fun e => absurd e (by simp only; omega), fun _ => ⟨by simp only; omega, h.kids, h.piv, fun m hm => h.buf m (h1.2.subset hm), h.lv, h.prs, h.one, h.fan, h.fewer, h.right, by simp only [goN]; omega, rise_iff.2 ((rise_iff.1 h.rise).taken _ _).2⟩⟩
/-- settings whose leaves hold so many more -/
def moreC (c : Cfg) (n : Int) : Cfg := { c with leaf := c.leaf + n }
/-- the kid is right, but that a leaf may have more pairs -/
theorem pour_kid (hp : RightN c ⟨#[]⟩ ⟨#[]⟩ true p) (hl : 1 ≤ p.lv) (hk : ∀ s, kidS p i = (s, true) → RightIn c s k) (s : ByteArray × ByteArray × Bool) (hs : kidS p i = (s, true)) : RightIn (moreC c (pourN c p i k most).2.2) s (pourN c p i k most).2.1 := by
  have hk1 := hk s hs
  have hmore : ∀ n : Nat, RightIn (moreC c n) s k := fun n => ⟨fun e => by
    have h := hk1.1 e
    have := h.few
    exact ⟨h.each, h.kids, h.piv, h.buf, by simp only [moreC]; omega, h.rise⟩, fun e => by
    obtain ⟨h0, h⟩ := hk1.2 e
    exact ⟨h0, h.kids, h.piv, h.buf, h.lv, h.prs, h.one, h.fan, h.fewer, h.right, h.few, h.rise⟩⟩
  by_cases hn : NoPour p i k
  · rw [pourN_no hn]
    exact hmore 0
  rw [pourN_yes hn]
  obtain ⟨hi, hlv⟩ := pour_yes hp hl hn
  have hri := rise_iff.1 (hp.inner hl).rise
  have hin := hp.inner hl
  have h1 := takeD_sub (wayIs p.piv i) (roomN c k most) p.buf
  have h2 := takeD_few (wayIs p.piv i) (roomN c k most) p.buf
  have hM : ∀ m, m ∈ (goN c p i k most).1 → MsOk c s.1 s.2.1 s.2.2 m := fun m hm => by
    have h3 := hin.buf m (h1.1.subset hm)
    have h4 := takeD_each (wayIs p.piv i) (roomN c k most) p.buf m hm
    exact ⟨h3.1, by rw [kid_in (srise_iff.1 hin.right.2) hi hs]; exact h4, h3.2.2⟩
  have hRi := (hri.taken (wayIs p.piv i) (roomN c k most)).1
  have hfew : ((goN c p i k most).1.length : Int) ≤ max (roomN c k most) 0 := h2
  change Ri (goN c p i k most).1 at hRi
  revert hM hRi hfew
  generalize (goN c p i k most).1 = M
  intro hM hfew hRi
  have hcn := into_counts M hk1
  simp only
  unfold RightIn intoN
  unfold intoN at hcn
  by_cases e : k.lv = 0
  · rw [if_pos e] at hcn ⊢
    have h := hk1.1 e
    have h5 := h.few
    refine ⟨fun _ => ⟨fun x hx => ?_, h.kids, h.piv, h.buf, ?_, prise_iff.2 (prise_iff.1 h.rise).apply⟩, fun e2 => absurd e e2⟩
    · rcases mem_applyP hx with ⟨m, hm, rfl⟩ | hx
      · have h6 := hM m hm
        exact ⟨h6.1, h6.2.1, h6.2.2.1⟩
      · exact h.each x hx
    · simp only [moreC] at hcn ⊢
      omega
  · rw [if_neg e] at hcn ⊢
    obtain ⟨h0, h⟩ := hk1.2 e
    have hkr := rise_iff.1 h.rise
    have h5 := h.few
    unfold roomN at hfew
    rw [if_neg e] at hfew
    refine ⟨fun e2 => absurd e2 e, fun _ => ⟨h0, h.kids, h.piv, fun m hm => ?_, h.lv, h.prs, h.one, h.fan, h.fewer, h.right, ?_, rise_iff.2 (Ri.merge (a := M) hkr).1⟩⟩
    · rcases (mem_mergeD hRi).1 hm with hm | hm
      · exact hM m hm
      · exact h.buf m hm.1
    · simp only [moreC] at hcn ⊢
      omega
end No
end Go.Proofs.Ytlabbmfiecbigaa
