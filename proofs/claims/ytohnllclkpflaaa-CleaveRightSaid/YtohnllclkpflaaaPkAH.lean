/-
  PairRS, NodeD, MsgArgs, PairArgs, StrArgs, KidArgs, NodeG, StrS. Put together by pack.py.
-/
import Derived.Test.YtohnllclkpflaaaPkAG
import Derived.Test.YtohnllclkpflaaaPkAE
import Derived.Test.YtohnllclkpflaaaPkAA
import Derived.Test.YtohnllclkpflaaaPkAC
import Derived.SliceStrings

namespace Go.Proofs.Ytohnllclkpflaaa
open Go.RowKit
namespace Lf
open Mem Lx Bu
/-- keys rise strictly -/
def PRise (L : List Pr) : Prop := ∀ (i : Nat) (a b : Pr), L[i]? = some a → L[i + 1]? = some b → cmpB a.1 b.1 < 0
set_option maxRecDepth 100000 in
set_option maxHeartbeats 2000000 in
theorem RRight_any {W : World} {A : Option Addr} {c : Nat} {L : List Pr} (h : PL W A L) (hk : ∀ m, m ∈ L → m.1.size ≤ maxLen) (hl : L.length ≤ 1048576) : Calls Try.prog 50 #[.slice A L.length c] W fun e w' => (∃ v : Bool, e = .returned (.bool v) ∧ (v = true ↔ PRise L)) ∧ Below W.heap.size W w' := by
  obtain ⟨n, hn⟩ : ∃ n, n = L.length := ⟨_, rfl⟩
  have HN := Lib.hid hn
  have HH := Lib.hid h
  have HK := Lib.hid hk
  rw [← hn] at hl ⊢
  clear h hk hn
  go_enter Try.func50, Try.ntmps50
  go_wp2_with fail
  go_loopg [3] (n - 1) (fun gk iv wr => ∃ k : Nat, 1 ≤ k ∧ (k = 1 ∨ k ≤ n) ∧ gk = n - k ∧ iv = .int .i64 (k : Int) ∧ Hid (∀ (i : Nat) (a b : Pr), i + 1 < k → L[i]? = some a → L[i + 1]? = some b → cmpB a.1 b.1 < 0) ∧ Hid (Below W.heap.size W wr))
  case atStart => exact ⟨1, Nat.le_refl _, .inl rfl, rfl, rfl, fun i a b hi => by omega, Below.refl _ _⟩
  case round =>
    obtain ⟨k, hk1, hkn, rfl, rfl, HE, HB⟩ := hrel
    by_cases hlt : k < n
    · obtain ⟨j, hjk⟩ : ∃ j, k = j + 1 := ⟨k - 1, by omega⟩
      have hj : j < L.length := by rw [← HN.out]; omega
      have hj1 : k < L.length := by rw [← HN.out]; omega
      obtain ⟨x, hx⟩ : ∃ x, x = L[j] := ⟨_, rfl⟩
      obtain ⟨y, hy⟩ : ∃ y, y = L[k] := ⟨_, rfl⟩
      have hx' := nat_len hj
      have hy' := nat_len hj1
      rw [← hx] at hx'
      rw [← hy] at hy'
      obtain ⟨b, o, e, hc⟩ := RdK.pplace (HH.out.kept HB.out) (Nat.lt_of_le_of_lt (Nat.zero_le _) hj)
      subst e
      obtain ⟨c0, -⟩ := hc j x hx'
      obtain ⟨c1, -⟩ := hc k y hy'
      have cC := fun w => Lib.hid (RCmp x.1 y.1 (HK.out x (List.mem_of_getElem? hx')) w)
      have HX := Lib.hid hx'
      have HY := Lib.hid hy'
      have z0 := fun q : Drift.Tide [] wr [] => Drift.Tide.cell c0 (by simp) q
      have z1 := fun q : Drift.Tide [] wr [] => Drift.Tide.cell c1 (by simp) q
      have hw1 : IntKind.i64.wrap ((k : Int) - 1) = (j : Int) := by rw [IntKind.wrap_i64]; omega
      have hw2 : IntKind.i64.wrap ((k : Int) + 1) = ((k + 1 : Nat) : Int) := by rw [IntKind.wrap_i64]; omega
      have HJ := Lib.hid hjk
      have hjn : j < n := by omega
      clear hc c0 c1 hx hy hx' hy' hj hj1 hjk
      go_upto_region 4 with fail
      refine Drift.wp_region_drift [] [(0,[]),(1,[]),(2,[]),(3,[]),(4,[]),(5,[]),(6,[]),(7,[]),(8,[]),(9,[]),(10,[]),(11,[]),(12,[])] [] [] (by kernel_rfl) (by kernel_rfl) (by simp) ?_
      simp only [Drift.pick, Drift.opsAt, List.getElem?_toArray, List.getElem?_cons_zero, List.getElem?_cons_succ, List.cons_append, List.nil_append, List.filterMap_nil]
      repeat (refine Drift.walk_step (fun K hK => ?_); go_simp; first | (refine hK _ ?_; clear hK K) | (apply Exists.intro; refine ⟨fun q => ?_, hK _ ?_⟩; (go_at_call 26; exact (cC _).out); clear hK K))
      refine Drift.walk_nil ?_
      intro w2 hb _
      have HB2 := Lib.hid (HB.out.trans (hb.mono HB.out.size))
      clear z0 z1 hw1 hb HB cC
      simp only [List.length_cons, List.length_nil, List.drop_succ_cons, List.drop_nil, Nat.zero_add, Nat.reduceAdd]
      by_cases hcm : cmpB x.1 y.1 < 0
      · have hd : decide (0 ≤ cmpB x.1 y.1) = false := by simpa using hcm
        have HE2 : Hid (∀ (i : Nat) (a b : Pr), i + 1 < k + 1 → L[i]? = some a → L[i + 1]? = some b → cmpB a.1 b.1 < 0) := fun i a b hi ha hb => by
          by_cases e : i = j
          · subst e
            rw [HX.out] at ha
            rw [← HJ.out, HY.out] at hb
            cases ha
            cases hb
            exact hcm
          · exact HE.out i a b (by have := HJ.out; omega) ha hb
        generalize cmpB x.1 y.1 = z at *
        clear hd
        go_wp2_with fail
        go_roundg (n - (k + 1))
        case measure => omega
        case rel => exact ⟨k + 1, by omega, .inr hlt, rfl, by go_num, HE2, HB2⟩
      · have HN2 : Hid (¬ PRise L) := fun hr => hcm (hr j x y HX.out (by rw [← HJ.out]; exact HY.out))
        have hd : 0 ≤ cmpB x.1 y.1 := by omega
        clear hcm
        generalize cmpB x.1 y.1 = z at *
        go_wp2_with fail
        go_ret
        exact ⟨⟨false, rfl, by simpa using HN2.out⟩, HB2.out⟩
    · have HR : Hid (PRise L) := fun i a b ha hb => HE.out i a b (by
        have := (List.getElem?_eq_some_iff.1 hb).1
        rw [← HN.out] at this
        omega) ha hb
      have hge : n ≤ k := by omega
      have hd : decide ((k : Int) < (n : Int)) = false := by simp; omega
      clear hlt
      go_wp2_with fail
      go_ret
      exact ⟨⟨true, rfl, by simpa using HR.out⟩, HB.out⟩
set_option maxRecDepth 100000 in
set_option maxHeartbeats 2000000 in
theorem RSame_any {W : World} {A A' : Option Addr} {c c' : Nat} {L L' : List Pr} (h : PL W A L) (h' : PL W A' L') (hl : L.length ≤ 1048576) (_ : L'.length ≤ 1048576) : Calls Try.prog 29 #[.slice A L.length c, .slice A' L'.length c'] W fun e w' => (∃ v : Bool, e = .returned (.bool v) ∧ (v = true ↔ L = L')) ∧ Below W.heap.size W w' := by
  obtain ⟨n, hn⟩ : ∃ n, n = L.length := ⟨_, rfl⟩
  by_cases hnn : L.length = L'.length
  case neg =>
    have HR : Hid (¬ L = L') := fun e => hnn (by rw [e])
    have hd : ((L.length : Int) != (L'.length : Int)) = true := by simp; omega
    clear h h' hn hl
    generalize L.length = n at *
    generalize L'.length = n' at *
    clear hnn
    go_enter Try.func29, Try.ntmps29
    go_wp2
    go_ret
    exact ⟨⟨false, rfl, by simpa using HR.out⟩, Below.refl _ _⟩
  rw [← hnn, ← hn]
  rw [← hn] at hl
  have HN := Lib.hid hn
  have HN' : Hid (n = L'.length) := hn.trans hnn
  have HH := Lib.hid h
  have HH' := Lib.hid h'
  clear h h' hn hnn
  go_enter Try.func29, Try.ntmps29
  go_wp2_with fail
  go_loopg [5] n (fun gk iv wr => ∃ k : Nat, k ≤ n ∧ gk = n - k ∧ iv = .int .i64 (k : Int) ∧ Hid (∀ i, i < k → L[i]? = L'[i]?) ∧ Hid (Below W.heap.size W wr))
  case atStart => exact ⟨0, Nat.zero_le _, rfl, rfl, fun i hi => by omega, Below.refl _ _⟩
  case round =>
    obtain ⟨k, hk, rfl, rfl, HE, HB⟩ := hrel
    by_cases hlt : k < n
    · have hj : k < L.length := by rw [← HN.out]; exact hlt
      have hj' : k < L'.length := by rw [← HN'.out]; exact hlt
      obtain ⟨x, hx⟩ : ∃ x, x = L[k] := ⟨_, rfl⟩
      obtain ⟨y, hy⟩ : ∃ y, y = L'[k] := ⟨_, rfl⟩
      have hx' := nat_len hj
      have hy' := nat_len hj'
      rw [← hx] at hx'
      rw [← hy] at hy'
      obtain ⟨b, o, e, -, c0, c1⟩ := RdK.pair (HH.out.kept HB.out) hx'
      subst e
      obtain ⟨b', o', e', -, d0, d1⟩ := RdK.pair (HH'.out.kept HB.out) hy'
      subst e'
      have HX := Lib.hid hx'
      have HY := Lib.hid hy'
      by_cases hxy : x = y
      · have hne : ∀ w, (binOp .neq 52 (.agg #[.string x.1, .string x.2]) (.agg #[.string y.1, .string y.2])).run Try.prog w = .ok (.bool false) w := fun w => (pr_ne x y w).trans (by simp [hxy])
        have HE2 : Hid (∀ i, i < k + 1 → L[i]? = L'[i]?) := fun i hi => by
          by_cases e : i = k
          · subst e
            rw [HX.out, HY.out, hxy]
          · exact HE.out i (by omega)
        clear hxy
        have z0 := fun q : Drift.Tide [] wr [] => Drift.Tide.cell c0 (by simp) q
        have z1 := fun q : Drift.Tide [] wr [] => Drift.Tide.cell c1 (by simp) q
        have x0 := fun q : Drift.Tide [] wr [] => Drift.Tide.cell d0 (by simp) q
        have x1 := fun q : Drift.Tide [] wr [] => Drift.Tide.cell d1 (by simp) q
        have hw2 : IntKind.i64.wrap ((k : Int) + 1) = ((k + 1 : Nat) : Int) := by rw [IntKind.wrap_i64]; omega
        clear c0 c1 d0 d1 hx hy hx' hy' hj hj'
        go_upto_region 6 with fail
        refine Drift.wp_region_drift [] [(0,[]),(1,[]),(2,[]),(3,[]),(4,[]),(5,[]),(6,[]),(7,[]),(8,[])] [] [] (by kernel_rfl) (by kernel_rfl) (by simp) ?_
        simp only [Drift.pick, Drift.opsAt, List.getElem?_toArray, List.getElem?_cons_zero, List.getElem?_cons_succ, List.cons_append, List.nil_append, List.filterMap_nil]
        repeat (refine Drift.walk_step (fun K hK => ?_); go_simp; (refine hK _ ?_; clear hK K))
        refine Drift.walk_nil ?_
        intro w2 hb _
        have HB2 := Lib.hid (HB.out.trans (hb.mono HB.out.size))
        clear z0 z1 x0 x1 hb HB hne
        simp only [List.length_cons, List.length_nil, List.drop_succ_cons, List.drop_nil, Nat.zero_add, Nat.reduceAdd]
        go_wp2_with fail
        go_roundg (n - (k + 1))
        case measure => omega
        case rel => exact ⟨k + 1, hlt, rfl, by go_num, HE2, HB2⟩
      · have hne : ∀ w, (binOp .neq 52 (.agg #[.string x.1, .string x.2]) (.agg #[.string y.1, .string y.2])).run Try.prog w = .ok (.bool true) w := fun w => (pr_ne x y w).trans (by simp [hxy])
        have HN2 : Hid (¬ L = L') := fun e => hxy (by
          have h1 := HX.out
          rw [e, HY.out] at h1
          exact (Option.some.inj h1).symm)
        clear hxy
        have z0 := fun q : Drift.Tide [] wr [] => Drift.Tide.cell c0 (by simp) q
        have z1 := fun q : Drift.Tide [] wr [] => Drift.Tide.cell c1 (by simp) q
        have x0 := fun q : Drift.Tide [] wr [] => Drift.Tide.cell d0 (by simp) q
        have x1 := fun q : Drift.Tide [] wr [] => Drift.Tide.cell d1 (by simp) q
        have hw2 : IntKind.i64.wrap ((k : Int) + 1) = ((k + 1 : Nat) : Int) := by rw [IntKind.wrap_i64]; omega
        clear c0 c1 d0 d1 hx hy hx' hy' hj hj'
        go_upto_region 6 with fail
        refine Drift.wp_region_drift [] [(0,[]),(1,[]),(2,[]),(3,[]),(4,[]),(5,[]),(6,[]),(7,[]),(8,[])] [] [] (by kernel_rfl) (by kernel_rfl) (by simp) ?_
        simp only [Drift.pick, Drift.opsAt, List.getElem?_toArray, List.getElem?_cons_zero, List.getElem?_cons_succ, List.cons_append, List.nil_append, List.filterMap_nil]
        repeat (refine Drift.walk_step (fun K hK => ?_); go_simp; (refine hK _ ?_; clear hK K))
        refine Drift.walk_nil ?_
        intro w2 hb _
        have HB2 := Lib.hid (HB.out.trans (hb.mono HB.out.size))
        clear z0 z1 x0 x1 hb HB hne
        simp only [List.length_cons, List.length_nil, List.drop_succ_cons, List.drop_nil, Nat.zero_add, Nat.reduceAdd]
        go_wp2_with fail
        go_ret
        exact ⟨⟨false, rfl, by simpa using HN2.out⟩, HB2.out⟩
    · have HR : Hid (L = L') := by
        refine List.ext_getElem? fun i => ?_
        by_cases hi : i < k
        · exact HE.out i hi
        · rw [List.getElem?_eq_none (by rw [← HN.out]; omega), List.getElem?_eq_none (by rw [← HN'.out]; omega)]
      obtain rfl : k = n := by omega
      clear hlt
      go_wp2_with fail
      go_ret
      exact ⟨⟨true, rfl, by simpa using HR.out⟩, HB.out⟩
end Lf
end Go.Proofs.Ytohnllclkpflaaa

namespace Go.Proofs.Ytohnllclkpflaaa
open Go.RowKit
namespace No
open Mem Lx Bu Lf Fa
/-- settings -/
structure Cfg where
  blocks : Int
  bytes : Int
  frames : Int
  fan : Int
  buffer : Int
  leaf : Int
  key : Int
  val : Int
def cfCs (c : Cfg) : Array Value := #[.int .i64 c.blocks, .int .i64 c.bytes, .int .i64 c.frames, .int .i64 c.fan, .int .i64 c.buffer, .int .i64 c.leaf, .int .i64 c.key, .int .i64 c.val]
def keyB (c : Cfg) (k : ByteArray) : Bool := decide (1 ≤ (k.size : Int)) && decide ((k.size : Int) ≤ c.key)
def PrOk (c : Cfg) (lo hi : ByteArray) (top : Bool) (p : Pr) : Prop := keyB c p.1 = true ∧ inB lo hi top p.1 = true ∧ (p.2.size : Int) ≤ c.val
structure OuterP (c : Cfg) (lo hi : ByteArray) (top : Bool) (n : Nd) : Prop where
  each : ∀ p, p ∈ n.prs → PrOk c lo hi top p
  kids : n.kids.length = 0
  piv : n.piv.length = 0
  buf : n.buf.length = 0
  few : (n.prs.length : Int) ≤ c.leaf
  rise : PRise n.prs
def MsOk (c : Cfg) (lo hi : ByteArray) (top : Bool) (m : Mg) : Prop := keyB c m.1 = true ∧ inB lo hi top m.1 = true ∧ (m.2.2.size : Int) ≤ c.val ∧ ¬ (m.2.1 = true ∧ m.2.2 ≠ ⟨#[]⟩)
def KidsOk (c : Cfg) (K : List Nat) : Prop := ∀ (i k : Nat), K[i]? = some k → (k ≠ 0 ∧ (k : Int) < c.blocks) ∧ ∀ (j m : Nat), j < i → K[j]? = some m → m ≠ k
structure InnerP (c : Cfg) (lo hi : ByteArray) (top : Bool) (n : Nd) : Prop where
  kids : KidsOk c n.kids
  piv : ∀ p, p ∈ n.piv → keyB c p = true
  buf : ∀ m, m ∈ n.buf → MsOk c lo hi top m
  lv : n.lv ≤ 40
  prs : n.prs.length = 0
  one : 1 ≤ n.kids.length
  fan : (n.kids.length : Int) ≤ c.fan
  fewer : n.piv.length + 1 = n.kids.length
  right : RightS n.piv lo hi top
  few : (n.buf.length : Int) ≤ c.buffer
  rise : Bu.Rise n.buf
def RightN (c : Cfg) (lo hi : ByteArray) (top : Bool) (n : Nd) : Prop := (n.lv = 0 → OuterP c lo hi top n) ∧ (n.lv ≠ 0 → 0 < n.lv ∧ InnerP c lo hi top n)
theorem box8 {w : World} {b : Nat} {c0 c1 c2 c3 c4 c5 c6 c7 : Value} {U : TypeId} (h : w.heap[b]? = some (.cells #[c0, c1, c2, c3, c4, c5, c6, c7] U (0, 0))) : w.cell? ⟨b, 0, none⟩ = some c0 ∧ w.cell? ⟨b, 1, none⟩ = some c1 ∧ w.cell? ⟨b, 2, none⟩ = some c2 ∧ w.cell? ⟨b, 3, none⟩ = some c3 ∧ w.cell? ⟨b, 4, none⟩ = some c4 ∧ w.cell? ⟨b, 5, none⟩ = some c5 ∧ w.cell? ⟨b, 6, none⟩ = some c6 ∧ w.cell? ⟨b, 7, none⟩ = some c7 := by
  simp [World.cell?, h]
/-- three boxes: settings, a span, a node -/
structure B3 (W : World) (g : Nat) (X Y Z : Obj) (w : World) : Prop where
  below : Below W.heap.size W w
  at_ : W.heap.size ≤ g
  x : w.heap[g]? = some X
  y : w.heap[g + 1]? = some Y
  z : w.heap[g + 2]? = some Z
theorem B3.kept {W : World} {g : Nat} {X Y Z : Obj} {w w' : World} (h : B3 W g X Y Z w) (hb : Below w.heap.size w w') : B3 W g X Y Z w' := ⟨h.below.trans (hb.mono h.below.size), h.at_, kept3 h.x hb, kept3 h.y hb, kept3 h.z hb⟩
theorem B3.new (W : World) (X Y Z : Obj) : B3 W W.heap.size X Y Z (((W.alloc X).alloc Y).alloc Z) := by
  have h2 := two_new W X Y
  have hb3 : Below ((W.alloc X).alloc Y).heap.size ((W.alloc X).alloc Y) (((W.alloc X).alloc Y).alloc Z) := (Below.refl _ _).alloc (Nat.le_refl _) _
  refine ⟨h2.2.2.trans (hb3.mono h2.2.2.size), Nat.le_refl _, kept3 h2.1 hb3, kept3 h2.2.1 hb3, ?_⟩
  have := heap_alloc_new ((W.alloc X).alloc Y) Z
  simpa using this
end No
end Go.Proofs.Ytohnllclkpflaaa

namespace Go.Proofs.Ytohnllclkpflaaa
open Go.RowKit Go.WideShapes Go.ChangeShapes
namespace Bu
open Mem
set_option maxRecDepth 100000 in
theorem open_msgs_t {H : Type} {enc : TypeId × Value → H} {W : World} {v : Value} {d : DataW H} {p : List MemPlace} {fuel : Nat} (h : DataW.trod enc Try.prog W 0 (fun _ => true) true fuel 28 [v] = some (d, p)) :
    ∃ (A : Option Addr) (L : List Mg) (c : Nat), v = .slice A L.length c ∧ RC MgK W A c L ∧ L.length ≤ c ∧ c ≤ maxLen := by
  obtain ⟨A, len, c, rfl, hl, hm, hc⟩ := Args.open_structs_t Try.underlying28 Try.underlying48 (by kernel_rfl) (by kernel_rfl) (by decide) h
  by_cases h0 : 0 < len
  · obtain ⟨b, o, rfl, hcell⟩ := hc h0
    have each : ∀ i, i < len → ∃ m : Mg, W.cell? ⟨b, o + (i * 3 + 0), none⟩ = some (.string m.1) ∧ W.cell? ⟨b, o + (i * 3 + 1), none⟩ = some (.bool m.2.1) ∧ W.cell? ⟨b, o + (i * 3 + 2), none⟩ = some (.string m.2.2) := by
      intro i hi
      obtain ⟨u0, y0, n0, h0, k0, -⟩ := hcell i hi 0 _ rfl
      obtain ⟨u1, y1, n1, h1, k1, -⟩ := hcell i hi 1 _ rfl
      obtain ⟨u2, y2, n2, h2, k2, -⟩ := hcell i hi 2 _ rfl
      obtain ⟨s0, e0, _, _⟩ := DataW.trod_string Try.underlying9 k0
      obtain ⟨s1, e1, _⟩ := DataW.trod_bool Try.underlying4 k1
      obtain ⟨s2, e2, _, _⟩ := DataW.trod_string Try.underlying9 k2
      obtain rfl : u0 = _ := by simpa using e0
      obtain rfl : u1 = _ := by simpa using e1
      obtain rfl : u2 = _ := by simpa using e2
      exact ⟨(s0, s1, s2), h0, h1, h2⟩
    have each' : ∀ i, ∃ m : Mg, i < len → W.cell? ⟨b, o + (i * 3 + 0), none⟩ = some (.string m.1) ∧ W.cell? ⟨b, o + (i * 3 + 1), none⟩ = some (.bool m.2.1) ∧ W.cell? ⟨b, o + (i * 3 + 2), none⟩ = some (.string m.2.2) := fun i => by
      by_cases hi : i < len
      · obtain ⟨m, hm⟩ := each i hi
        exact ⟨m, fun _ => hm⟩
      · exact ⟨zeroM, fun h => absurd h hi⟩
    let F := fun i => Classical.choose (each' i)
    have hF : ∀ i, i < len → W.cell? ⟨b, o + (i * 3 + 0), none⟩ = some (.string (F i).1) ∧ W.cell? ⟨b, o + (i * 3 + 1), none⟩ = some (.bool (F i).2.1) ∧ W.cell? ⟨b, o + (i * 3 + 2), none⟩ = some (.string (F i).2.2) := fun i => Classical.choose_spec (each' i)
    have hb : b < W.heap.size := by
      have := (hF 0 h0).1
      rcases Nat.lt_or_ge b W.heap.size with h' | h'
      · exact h'
      · simp [World.cell?, Array.getElem?_eq_none h'] at this
    refine ⟨some ⟨b, o, none⟩, (List.range len).map F, c, by simp, ⟨fun _ => ⟨b, o, rfl, hb, fun i x hx j u hu => ?_⟩, by simpa using hl⟩, by simpa using hl, hm⟩
    obtain ⟨hi, hx⟩ := List.getElem?_eq_some_iff.1 hx
    have hi' : i < len := by simpa using hi
    obtain rfl : F i = x := by simpa using hx
    obtain ⟨e0, e1, e2⟩ := hF i hi'
    match j, hu with
    | 0, hu =>
      obtain rfl : Value.string (F i).1 = u := by simpa [MgK] using hu
      exact e0
    | 1, hu =>
      obtain rfl : Value.bool (F i).2.1 = u := by simpa [MgK] using hu
      exact e1
    | 2, hu =>
      obtain rfl : Value.string (F i).2.2 = u := by simpa [MgK] using hu
      exact e2
    | j + 3, hu => simp [MgK] at hu
  · obtain rfl : len = 0 := by omega
    exact ⟨A, [], c, rfl, ⟨fun h => absurd h (by simp), Nat.zero_le _⟩, Nat.zero_le _, hm⟩
set_option maxRecDepth 100000 in
theorem open_msgs {H : Type} {enc : TypeId × Value → H} {W : World} {v : Value} {d : DataW H} {p : List MemPlace} {r : Reach} {b0 : Nat} (hv : Value.okWide Try.prog W r b0 28 v) (h : DataW.Trod enc Try.prog W 0 (fun _ => true) true 28 v d p) :
    ∃ (A : Option Addr) (L : List Mg) (c : Nat), v = .slice A L.length c ∧ RC MgK W A c L ∧ L.length ≤ c ∧ c ≤ maxLen := by
  obtain ⟨a0, len, cap, rfl⟩ := okWide_slice Try.underlying28 hv
  obtain ⟨fuel, hf⟩ := h
  exact open_msgs_t hf
end Bu
end Go.Proofs.Ytohnllclkpflaaa

namespace Go.Proofs.Ytohnllclkpflaaa
open Go.RowKit Go.WideShapes Go.ChangeShapes
namespace Lf
open Mem Bu
theorem size_toList (s : ByteArray) : s.data.toList.length = s.size := by rw [Array.length_toList]; rfl
set_option maxRecDepth 100000 in
theorem open_prs_t {H : Type} {enc : TypeId × Value → H} {W : World} {v : Value} {d : DataW H} {p : List MemPlace} {fuel : Nat} (h : DataW.trod enc Try.prog W 0 (fun _ => true) true fuel 29 [v] = some (d, p)) :
    ∃ (A : Option Addr) (L : List Pr) (c : Nat), v = .slice A L.length c ∧ PC W A c L ∧ L.length ≤ c ∧ c ≤ maxLen ∧ ∀ m, m ∈ L → m.1.size ∈ d.weights Try.prog 29 ∧ m.2.size ∈ d.weights Try.prog 29 := by
  obtain ⟨A, len, c, rfl, hl, hm, hc⟩ := Args.open_structs_t Try.underlying29 Try.underlying52 (by kernel_rfl) (by kernel_rfl) (by decide) h
  by_cases h0 : 0 < len
  · obtain ⟨b, o, rfl, hcell⟩ := hc h0
    have each : ∀ i, i < len → ∃ m : Pr, W.cell? ⟨b, o + (i * 2 + 0), none⟩ = some (.string m.1) ∧ W.cell? ⟨b, o + (i * 2 + 1), none⟩ = some (.string m.2) ∧ m.1.size ∈ d.weights Try.prog 29 ∧ m.2.size ∈ d.weights Try.prog 29 := by
      intro i hi
      obtain ⟨u0, y0, n0, h0, k0, z0⟩ := hcell i hi 0 _ rfl
      obtain ⟨u1, y1, n1, h1, k1, z1⟩ := hcell i hi 1 _ rfl
      obtain ⟨s0, e0, rfl, _⟩ := DataW.trod_string Try.underlying9 k0
      obtain ⟨s1, e1, rfl, _⟩ := DataW.trod_string Try.underlying9 k1
      obtain rfl : u0 = _ := by simpa using e0
      obtain rfl : u1 = _ := by simpa using e1
      exact ⟨(s0, s1), h0, h1, z0 _ (by simp [DataW.weights]), z1 _ (by simp [DataW.weights])⟩
    have each' : ∀ i, ∃ m : Pr, i < len → W.cell? ⟨b, o + (i * 2 + 0), none⟩ = some (.string m.1) ∧ W.cell? ⟨b, o + (i * 2 + 1), none⟩ = some (.string m.2) ∧ m.1.size ∈ d.weights Try.prog 29 ∧ m.2.size ∈ d.weights Try.prog 29 := fun i => by
      by_cases hi : i < len
      · obtain ⟨m, hm⟩ := each i hi
        exact ⟨m, fun _ => hm⟩
      · exact ⟨(⟨#[]⟩, ⟨#[]⟩), fun h => absurd h hi⟩
    let F := fun i => Classical.choose (each' i)
    have hF : ∀ i, i < len → W.cell? ⟨b, o + (i * 2 + 0), none⟩ = some (.string (F i).1) ∧ W.cell? ⟨b, o + (i * 2 + 1), none⟩ = some (.string (F i).2) ∧ (F i).1.size ∈ d.weights Try.prog 29 ∧ (F i).2.size ∈ d.weights Try.prog 29 := fun i => Classical.choose_spec (each' i)
    have hb : b < W.heap.size := by
      have := (hF 0 h0).1
      rcases Nat.lt_or_ge b W.heap.size with h' | h'
      · exact h'
      · simp [World.cell?, Array.getElem?_eq_none h'] at this
    refine ⟨some ⟨b, o, none⟩, (List.range len).map F, c, by simp, ⟨fun _ => ⟨b, o, rfl, hb, fun i x hx j u hu => ?_⟩, by simpa using hl⟩, by simpa using hl, hm, fun m hmm => ?_⟩
    rotate_left
    · obtain ⟨i, hi, rfl⟩ := List.mem_map.1 hmm
      exact (hF i (by simpa using hi)).2.2
    obtain ⟨hi, hx⟩ := List.getElem?_eq_some_iff.1 hx
    have hi' : i < len := by simpa using hi
    obtain rfl : F i = x := by simpa using hx
    obtain ⟨e0, e1, -⟩ := hF i hi'
    match j, hu with
    | 0, hu =>
      obtain rfl : Value.string (F i).1 = u := by simpa [PrK] using hu
      exact e0
    | 1, hu =>
      obtain rfl : Value.string (F i).2 = u := by simpa [PrK] using hu
      exact e1
    | j + 2, hu => simp [PrK] at hu
  · obtain rfl : len = 0 := by omega
    exact ⟨A, [], c, rfl, ⟨fun h => absurd h (by simp), Nat.zero_le _⟩, Nat.zero_le _, hm, fun m hmm => by cases hmm⟩
set_option maxRecDepth 100000 in
theorem open_prs {H : Type} {enc : TypeId × Value → H} {W : World} {v : Value} {d : DataW H} {p : List MemPlace} {r : Reach} {b0 : Nat} (hv : Value.okWide Try.prog W r b0 29 v) (h : DataW.Trod enc Try.prog W 0 (fun _ => true) true 29 v d p) :
    ∃ (A : Option Addr) (L : List Pr) (c : Nat), v = .slice A L.length c ∧ PC W A c L ∧ L.length ≤ c ∧ c ≤ maxLen := by
  obtain ⟨a0, len, cap, rfl⟩ := okWide_slice Try.underlying29 hv
  obtain ⟨fuel, hf⟩ := h
  obtain ⟨A, L, c, e1, e2, e3, e4, _⟩ := open_prs_t hf
  exact ⟨A, L, c, e1, e2, e3, e4⟩
end Lf
end Go.Proofs.Ytohnllclkpflaaa

namespace Go.Proofs.Ytohnllclkpflaaa
open Go.RowKit Go.WideShapes Go.ChangeShapes
namespace Fa
open Mem
set_option maxRecDepth 100000 in
theorem open_strs_t {H : Type} {enc : TypeId × Value → H} {W : World} {v : Value} {d : DataW H} {p : List MemPlace} {fuel : Nat} (hf : DataW.trod enc Try.prog W 0 (fun _ => true) true fuel 27 [v] = some (d, p)) :
    ∃ (A : Option Addr) (L : List ByteArray) (c : Nat), v = .slice A L.length c ∧ SC W A c L ∧ L.length ≤ c ∧ c ≤ maxLen := by
  rcases open_strings Try.underlying27 Try.underlying9 (by kernel_rfl) hf with ⟨hcs, _⟩ | ⟨a, len, cap, ss, hcs, _, hl, hm, hz, _, hcell⟩
  · obtain rfl : v = _ := by simpa using hcs
    exact ⟨none, [], 0, rfl, RC.nil _ _ _, Nat.le_refl _, Nat.zero_le _⟩
  · obtain rfl : v = _ := by simpa using hcs
    simp only [if_true] at hz
    have htl : (ss.take len).length = len := by simp; omega
    refine ⟨some a, ss.take len, cap, by rw [htl], ⟨fun hpos => ?_, by rw [htl]; exact hl⟩, by rw [htl]; exact hl, hm⟩
    rw [htl] at hpos
    obtain ⟨b, o, sp⟩ := a
    have h0 := hcell.1 0 (by omega)
    obtain rfl : sp = none := by simpa [Addr.add] using World.cell?_spot h0
    have hb : b < W.heap.size := by
      rcases Nat.lt_or_ge b W.heap.size with h' | h'
      · exact h'
      · simp [Addr.add, World.cell?, Array.getElem?_eq_none h'] at h0
    refine ⟨b, o, rfl, hb, fun i x hx j u hu => ?_⟩
    obtain ⟨hi, hx⟩ := List.getElem?_eq_some_iff.1 hx
    rw [htl] at hi
    have h1 := hcell.1 i (by omega)
    have e : (⟨b, o, none⟩ : Addr).add i = ⟨b, o + i, none⟩ := by unfold Addr.add; split <;> simp_all
    rw [e] at h1
    have hj : j = 0 := by
      have := (List.getElem?_eq_some_iff.1 hu).1
      simp only [StK, List.length_cons, List.length_nil] at this
      omega
    subst hj
    obtain rfl : Value.string x = u := by simpa [StK] using hu
    have hk : StK.k = 1 := rfl
    rw [hk, Nat.mul_one, Nat.add_zero, h1, ← hx]
    simp [List.getD, show i < ss.length by omega]
set_option maxRecDepth 100000 in
theorem open_strs {H : Type} {enc : TypeId × Value → H} {W : World} {v : Value} {d : DataW H} {p : List MemPlace} {r : Reach} {b0 : Nat} (hv : Value.okWide Try.prog W r b0 27 v) (h : DataW.Trod enc Try.prog W 0 (fun _ => true) true 27 v d p) :
    ∃ (A : Option Addr) (L : List ByteArray) (c : Nat), v = .slice A L.length c ∧ SC W A c L ∧ L.length ≤ c ∧ c ≤ maxLen := by
  obtain ⟨a0, len, cap, rfl⟩ := okWide_slice Try.underlying27 hv
  obtain ⟨fuel, hf⟩ := h
  exact open_strs_t hf
end Fa
end Go.Proofs.Ytohnllclkpflaaa

namespace Go.Proofs.Ytohnllclkpflaaa
open Go.RowKit Go.WideShapes Go.ChangeShapes Go.Deep
namespace No
open Mem
set_option maxRecDepth 100000 in
theorem open_kids_t {H : Type} {enc : TypeId × Value → H} {W : World} {v : Value} {d : DataW H} {p : List MemPlace} {fuel : Nat} (hf : DataW.trod enc Try.prog W 0 (fun _ => true) true fuel 26 [v] = some (d, p)) :
    ∃ (A : Option Addr) (L : List Nat) (c : Nat), v = .slice A L.length c ∧ KC W A c L ∧ L.length ≤ c ∧ c ≤ maxLen ∧ ∀ n, n ∈ L → n < 4294967296 := by
  rcases open_ints Try.underlying26 Try.underlying46 (by kernel_rfl) hf with ⟨hcs, _⟩ | ⟨a, len, cap, zs, hcs, _, hl, hm, hz, _, hcell, hwz⟩
  · obtain rfl : v = _ := by simpa using hcs
    exact ⟨none, [], 0, rfl, RC.nil _ _ _, Nat.le_refl _, Nat.zero_le _, fun n hn => by cases hn⟩
  · obtain rfl : v = _ := by simpa using hcs
    simp only [if_true] at hz
    have htl : (zs.take len).length = len := by simp; omega
    have hnat : ∀ z, z ∈ zs → ∃ n : Nat, z = (n : Int) ∧ n < 4294967296 := fun z hz' => Args.nat_of_u32 (hwz z hz')
    refine ⟨some a, (zs.take len).map Int.toNat, cap, by rw [List.length_map, htl], ⟨fun hpos => ?_, by rw [List.length_map, htl]; exact hl⟩, by rw [List.length_map, htl]; exact hl, hm, fun n hn => ?_⟩
    · rw [List.length_map, htl] at hpos
      obtain ⟨b, o, sp⟩ := a
      have h0 := hcell 0 (by omega)
      obtain rfl : sp = none := by simpa [Addr.add] using World.cell?_spot h0
      have hb : b < W.heap.size := by
        rcases Nat.lt_or_ge b W.heap.size with h' | h'
        · exact h'
        · simp [Addr.add, World.cell?, Array.getElem?_eq_none h'] at h0
      refine ⟨b, o, rfl, hb, fun i x hx j u hu => ?_⟩
      rw [List.getElem?_map, Option.map_eq_some_iff] at hx
      obtain ⟨z, hx, rfl⟩ := hx
      obtain ⟨hi, hx⟩ := List.getElem?_eq_some_iff.1 hx
      rw [htl] at hi
      have h1 := hcell i (by omega)
      have e : (⟨b, o, none⟩ : Addr).add i = ⟨b, o + i, none⟩ := by unfold Addr.add; split <;> simp_all
      rw [e] at h1
      have hj : j = 0 := by
        have := (List.getElem?_eq_some_iff.1 hu).1
        simp only [KdK, List.length_cons, List.length_nil] at this
        omega
      subst hj
      rw [List.getElem_take] at hx
      obtain ⟨n, hn, -⟩ := hnat z (by rw [← hx]; exact List.getElem_mem _)
      obtain rfl : Value.int .u32 (z.toNat : Int) = u := by simpa [KdK] using hu
      have hk : KdK.k = 1 := rfl
      rw [hk, Nat.mul_one, Nat.add_zero, h1]
      have e2 : zs.getD i 0 = z := by simp [List.getD, show i < zs.length by omega, hx]
      first | rw [e2, hn]; rfl | (simp [List.getD, show i < zs.length by omega, hx, hn])
    · obtain ⟨z, hz', rfl⟩ := List.mem_map.1 hn
      obtain ⟨n, rfl, hlt⟩ := hnat z (List.mem_of_mem_take hz')
      simpa using hlt
/-- what an argument's node keeps: lists that memory has room for, values that memory reaches -/
structure NdOk (n : Nd) : Prop where
  lv : -9223372036854775808 ≤ n.lv ∧ n.lv ≤ 9223372036854775807
  kids : n.kids.length ≤ maxLen
  piv : n.piv.length ≤ maxLen
  buf : n.buf.length ≤ maxLen
  prs : n.prs.length ≤ maxLen
  kid : ∀ k, k ∈ n.kids → k < 4294967296
  val : ∀ m, m ∈ n.prs → m.2.size ≤ reachBytes
theorem array5 {α : Type} {cs : Array α} (h : cs.size = 5) : ∃ c0 c1 c2 c3 c4, cs = #[c0, c1, c2, c3, c4] := by
  obtain ⟨l⟩ := cs
  match l, h with
  | [c0, c1, c2, c3, c4], _ => exact ⟨c0, c1, c2, c3, c4, rfl⟩
theorem node_one : oneCellFields Try.prog (Try.prog.fieldsOf 31) = true := by kernel_rfl
set_option maxRecDepth 100000 in
theorem open_node {H : Type} {enc : TypeId × Value → H} {W : World} {v : Value} {d : DataW H} {p : List MemPlace} {r : Reach} {b0 : Nat} (hv : Value.okWide Try.prog W r b0 31 v) (h : DataW.Trod enc Try.prog W 0 (fun _ => true) true 31 v d p) (hw : ∀ n ∈ d.weights Try.prog 31, n ≤ reachBytes) :
    ∃ (n : Nd) (a : At), v = .agg (ndCs n a) ∧ NdIn W n a ∧ NdOk n := by
  have hu : Try.prog.underlying 31 = some (.struct (Try.prog.fieldsOf 31)) := by kernel_rfl
  obtain ⟨cs, rfl, hsz⟩ := okWide_struct hu hv
  have h5 : Try.prog.cellsOf 31 = 5 := by kernel_rfl
  rw [h5] at hsz
  obtain ⟨fuel, hf⟩ := h
  obtain ⟨ys, n', _, hD, hlen, hyl, hfl⟩ := DataW.trod_struct hu hf
  have hsz2 : (Try.prog.fieldsOf 31).size = 5 := by kernel_rfl
  have each : ∀ (j : Nat) (u : Value) (T : TypeId), cs[j]? = some u → ((Try.prog.fieldsOf 31)[j]?.map fun f => f.type) = some T → ∃ y : DataW H × List MemPlace, DataW.trod enc Try.prog W 0 (fun _ => true) true n' T [u] = some y ∧ ∀ k ∈ y.1.weights Try.prog T, k ≤ reachBytes := fun j u T hj hT => by
    rw [Option.map_eq_some_iff] at hT
    obtain ⟨f, hfj, rfl⟩ := hT
    obtain ⟨ho, hk⟩ := hone_of node_one j f hfj
    have h1 := hfl j f hfj
    rw [ho, hk] at h1
    have hu1 : ((Value.agg cs).cells.toList.drop j).take 1 = [u] := by
      simp only [Value.cells]
      have hl : cs.toList[j]? = some u := by simpa using hj
      rw [List.getElem?_eq_some_iff] at hl
      obtain ⟨h2, h3⟩ := hl
      rw [List.drop_eq_getElem_cons h2, h3]
      rfl
    rw [hu1] at h1
    have hj' : j < ys.length := by
      rw [hyl]
      exact (Array.getElem?_eq_some_iff.1 hfj).1
    rw [List.getElem?_eq_getElem hj'] at h1
    refine ⟨_, h1, fun k hk => hw k ?_⟩
    simp only [Prod.mk.injEq] at hD
    rw [hD.1]
    simp only [DataW.weights, hu]
    refine Args.w_each (j := j) (t := f.type) (d := (ys[j]'hj').1) ?_ ?_ k hk
    · rw [List.getElem?_map, Array.getElem?_toList, hfj]; rfl
    · rw [List.getElem?_map, List.getElem?_eq_getElem hj']; rfl
  obtain ⟨c0, c1, c2, c3, c4, rfl⟩ := array5 hsz
  obtain ⟨⟨y0, q0⟩, k0, -⟩ := each 0 c0 3 rfl (by decide +kernel)
  obtain ⟨⟨y1, q1⟩, k1, -⟩ := each 1 c1 26 rfl (by decide +kernel)
  obtain ⟨⟨y2, q2⟩, k2, -⟩ := each 2 c2 27 rfl (by decide +kernel)
  obtain ⟨⟨y3, q3⟩, k3, -⟩ := each 3 c3 28 rfl (by decide +kernel)
  obtain ⟨⟨y4, q4⟩, k4, w4⟩ := each 4 c4 29 rfl (by decide +kernel)
  obtain ⟨z, hz, -, hwf⟩ := DataW.trod_int Try.underlying3 k0
  obtain rfl : c0 = _ := by simpa using hz
  obtain ⟨kA, K, kc, rfl, hK, lK, mK, bK⟩ := open_kids_t k1
  obtain ⟨pA, P, pc, rfl, hP, lP, mP⟩ := Fa.open_strs_t k2
  obtain ⟨bA, B, bc, rfl, hB, lB, mB⟩ := Bu.open_msgs_t k3
  obtain ⟨qA, Q, qc, rfl, hQ, lQ, mQ, wQ⟩ := Lf.open_prs_t k4
  exact ⟨⟨z, K, P, B, Q⟩, ⟨kA, kc, pA, pc, bA, bc, qA, qc⟩, rfl, ⟨hK, hP, hB, hQ⟩, ⟨Args.i64_bounds hwf, Nat.le_trans lK mK, Nat.le_trans lP mP, Nat.le_trans lB mB, Nat.le_trans lQ mQ, bK, fun m hm => w4 _ (wQ m hm).2⟩⟩
end No
end Go.Proofs.Ytohnllclkpflaaa

namespace Go.Proofs.Ytohnllclkpflaaa
open Go.RowKit
namespace No
open Mem Lx Bu Lf Fa
/-- a node that is not too much for a statement -/
structure Fit (n : Nd) : Prop where
  kids : n.kids.length ≤ 80
  piv : n.piv.length ≤ 80
  buf : n.buf.length ≤ 150
  prs : n.prs.length ≤ 150
  pk : ∀ p, p ∈ n.piv → p.size ≤ 200
  bk : ∀ m, m ∈ n.buf → m.1.size ≤ 200
  qk : ∀ m, m ∈ n.prs → m.1.size ≤ 200
set_option maxRecDepth 100000 in
set_option maxHeartbeats 4000000 in
theorem Great_any {W : World} {n : Nd} {a : At} (h : NdIn W n a) (hok : NdOk n) : Calls Try.prog 20 #[.agg (ndCs n a)] W fun e w' => (∃ v : Bool, e = .returned (.bool v) ∧ (v = false ↔ Fit n)) ∧ Below W.heap.size W w' := by
  obtain ⟨P, hP⟩ : ∃ P : Prop, P = Fit n := ⟨_, rfl⟩
  have HP : Hid (P → Fit n) := fun h => by rw [hP] at h; exact h
  have HQ : Hid (Fit n → P) := fun h => by rw [hP]; exact h
  rw [← hP]
  clear hP
  obtain ⟨lv, K, L, B, Q⟩ := n
  obtain ⟨kA, kc, pA, pc, bA, bc, qA, qc⟩ := a
  have h2 := hok.kids
  have h3 := hok.piv
  have h4 := hok.buf
  have h5 := hok.prs
  have HL : Hid (SL W pA L) := h.piv.1
  have HB : Hid (RdK MgK W bA B) := h.buf.1
  have HR : Hid (PL W qA Q) := h.prs.1
  unfold ndCs
  simp only at *
  unfold maxLen at h2 h3 h4 h5
  generalize hkn : K.length = kn at *
  generalize hpn : L.length = pn at *
  generalize hbn : B.length = bn at *
  generalize hqn : Q.length = qn at *
  have HKN := Lib.hid hkn
  have HPN := Lib.hid hpn
  have HBN := Lib.hid hbn
  have HQN := Lib.hid hqn
  clear h hok hkn hpn hbn hqn
  go_enter Try.func20, Try.ntmps20
  go_upto_region 1 with fail
  have hx := heap_alloc_new W (.cells #[.int .i64 lv, .slice kA kn kc, .slice pA pn pc, .slice bA bn bc, .slice qA qn qc] 31)
  have hb0 : Below W.heap.size W (W.alloc (.cells #[.int .i64 lv, .slice kA kn kc, .slice pA pn pc, .slice bA bn bc, .slice qA qn qc] 31)) := (Below.refl _ _).alloc (Nat.le_refl _) _
  generalize W.alloc (.cells #[.int .i64 lv, .slice kA kn kc, .slice pA pn pc, .slice bA bn bc, .slice qA qn qc] 31) = w1 at *
  have HW := Lib.hid hb0
  obtain ⟨g, hg⟩ : ∃ g, g = W.heap.size := ⟨_, rfl⟩
  simp only [← hg]
  rw [← hg] at hx
  obtain ⟨d0, d1, d2, d3, d4⟩ := box5 hx
  clear hx hb0 hg d0
  by_cases e0 : kn ≤ 80
  case neg =>
    have hd : (80 : Int) < (kn : Int) := by omega
    have HNO : Hid (¬ P) := fun h => e0 (by rw [← HKN.out]; exact (HP.out h).kids)
    clear e0
    go_wp2_with fail
    go_ret
    exact ⟨⟨true, rfl, (fun h => by cases h), fun h => absurd h HNO.out⟩, HW.out⟩
  have n0 : decide ((80 : Int) < (kn : Int)) = false := by simp; omega
  by_cases e1 : pn ≤ 80
  case neg =>
    have hd : (80 : Int) < (pn : Int) := by omega
    have HNO : Hid (¬ P) := fun h => e1 (by rw [← HPN.out]; exact (HP.out h).piv)
    clear e1
    go_wp2_with fail
    go_ret
    exact ⟨⟨true, rfl, (fun h => by cases h), fun h => absurd h HNO.out⟩, HW.out⟩
  have n1 : decide ((80 : Int) < (pn : Int)) = false := by simp; omega
  by_cases e2 : bn ≤ 150
  case neg =>
    have hd : (150 : Int) < (bn : Int) := by omega
    have HNO : Hid (¬ P) := fun h => e2 (by rw [← HBN.out]; exact (HP.out h).buf)
    clear e2
    go_wp2_with fail
    go_ret
    exact ⟨⟨true, rfl, (fun h => by cases h), fun h => absurd h HNO.out⟩, HW.out⟩
  have n2 : decide ((150 : Int) < (bn : Int)) = false := by simp; omega
  by_cases e3 : qn ≤ 150
  case neg =>
    have hd : (150 : Int) < (qn : Int) := by omega
    have HNO : Hid (¬ P) := fun h => e3 (by rw [← HQN.out]; exact (HP.out h).prs)
    clear e3
    go_wp2_with fail
    go_ret
    exact ⟨⟨true, rfl, (fun h => by cases h), fun h => absurd h HNO.out⟩, HW.out⟩
  have n3 : decide ((150 : Int) < (qn : Int)) = false := by simp; omega
  have HE : Hid (kn ≤ 80 ∧ pn ≤ 80 ∧ bn ≤ 150 ∧ qn ≤ 150) := ⟨e0, e1, e2, e3⟩
  clear e0 e1 e2 e3
  go_upto_block 0 with fail
  clear n0 n1 n2 n3
  go_cut [] (fun wx => Hid (∀ y, y ∈ L → y.size ≤ 200) ∧ w1 = wx)
  case first =>
    go_wp2_with fail
    go_loopg [3] pn (fun gk iv wx => ∃ j : Nat, j ≤ pn ∧ gk = pn - j ∧ iv = .int .i64 (j : Int) ∧ Hid (∀ (i : Nat) (y : ByteArray), i < j → L[i]? = some y → y.size ≤ 200) ∧ w1 = wx)
    case atStart => exact ⟨0, Nat.zero_le _, rfl, rfl, fun i x hi => by omega, rfl⟩
    case round =>
      obtain ⟨j, hj, rfl, rfl, HJ, rfl⟩ := hrel
      by_cases hlt2 : j < pn
      · have hjL : j < L.length := by rw [HPN.out]; exact hlt2
        obtain ⟨x, hxx⟩ : ∃ x, x = L[j] := ⟨_, rfl⟩
        have hx' := nat_lenS hjL
        rw [← hxx] at hx'
        obtain ⟨b, o, e, -, c0⟩ := RdK.str (HL.out.kept HW.out) hx'
        subst e
        have HXX := Lib.hid hx'
        have hw3 : IntKind.i64.wrap ((j : Int) + 1) = ((j + 1 : Nat) : Int) := by rw [IntKind.wrap_i64]; omega
        clear hxx hx' hjL
        by_cases hz : x.size ≤ 200
        · have HJ2 : Hid (∀ (i : Nat) (y : ByteArray), i < j + 1 → L[i]? = some y → y.size ≤ 200) := fun i y hi hy => by
            by_cases e : i = j
            · subst e
              rw [HXX.out] at hy
              cases hy
              exact hz
            · exact HJ.out i y (by omega) hy
          have hd : decide (200 < (x.size : Int)) = false := by simp; omega
          clear hz
          go_wp2_with fail
          go_roundg (pn - (j + 1))
          case measure => omega
          case rel => exact ⟨j + 1, hlt2, rfl, by go_num, HJ2, rfl⟩
        · have hd : (200 : Int) < (x.size : Int) := by omega
          have HNO : Hid (¬ P) := fun h => hz ((HP.out h).pk x (List.mem_of_getElem? HXX.out))
          clear hz
          go_wp2_with fail
          go_ret
          exact ⟨⟨true, rfl, (fun h => by cases h), fun h => absurd h HNO.out⟩, HW.out⟩
      · have HZ : Hid (∀ y, y ∈ L → y.size ≤ 200) := fun x hx => by
          obtain ⟨i, hi⟩ := List.getElem?_of_mem hx
          have := (List.getElem?_eq_some_iff.1 hi).1
          rw [HPN.out] at this
          exact HJ.out i x (by omega) hi
        obtain rfl : j = pn := by omega
        clear hlt2
        go_wp2_with fail
        go_meet
        exact ⟨HZ, rfl⟩
  case rest =>
  obtain ⟨Hx0, rfl⟩ := hcut
  go_upto_block 2 with fail
  skip
  go_cut [] (fun wx => Hid (∀ y, y ∈ B → y.1.size ≤ 200) ∧ w1 = wx)
  case first =>
    go_wp2_with fail
    go_loopg [4] bn (fun gk iv wx => ∃ j : Nat, j ≤ bn ∧ gk = bn - j ∧ iv = .int .i64 (j : Int) ∧ Hid (∀ (i : Nat) (y : Mg), i < j → B[i]? = some y → y.1.size ≤ 200) ∧ w1 = wx)
    case atStart => exact ⟨0, Nat.zero_le _, rfl, rfl, fun i x hi => by omega, rfl⟩
    case round =>
      obtain ⟨j, hj, rfl, rfl, HJ, rfl⟩ := hrel
      by_cases hlt2 : j < bn
      · have hjL : j < B.length := by rw [HBN.out]; exact hlt2
        obtain ⟨x, hxx⟩ : ∃ x, x = B[j] := ⟨_, rfl⟩
        have hx' := nat_len hjL
        rw [← hxx] at hx'
        obtain ⟨b, o, e, -, c0, -, -⟩ := RdK.msg (HB.out.kept HW.out) hx'
        subst e
        have HXX := Lib.hid hx'
        have hw3 : IntKind.i64.wrap ((j : Int) + 1) = ((j + 1 : Nat) : Int) := by rw [IntKind.wrap_i64]; omega
        clear hxx hx' hjL
        by_cases hz : x.1.size ≤ 200
        · have HJ2 : Hid (∀ (i : Nat) (y : Mg), i < j + 1 → B[i]? = some y → y.1.size ≤ 200) := fun i y hi hy => by
            by_cases e : i = j
            · subst e
              rw [HXX.out] at hy
              cases hy
              exact hz
            · exact HJ.out i y (by omega) hy
          have hd : decide (200 < (x.1.size : Int)) = false := by simp; omega
          clear hz
          go_wp2_with fail
          go_roundg (bn - (j + 1))
          case measure => omega
          case rel => exact ⟨j + 1, hlt2, rfl, by go_num, HJ2, rfl⟩
        · have hd : (200 : Int) < (x.1.size : Int) := by omega
          have HNO : Hid (¬ P) := fun h => hz ((HP.out h).bk x (List.mem_of_getElem? HXX.out))
          clear hz
          go_wp2_with fail
          go_ret
          exact ⟨⟨true, rfl, (fun h => by cases h), fun h => absurd h HNO.out⟩, HW.out⟩
      · have HZ : Hid (∀ y, y ∈ B → y.1.size ≤ 200) := fun x hx => by
          obtain ⟨i, hi⟩ := List.getElem?_of_mem hx
          have := (List.getElem?_eq_some_iff.1 hi).1
          rw [HBN.out] at this
          exact HJ.out i x (by omega) hi
        obtain rfl : j = bn := by omega
        clear hlt2
        go_wp2_with fail
        go_meet
        exact ⟨HZ, rfl⟩
  case rest =>
  obtain ⟨Hx1, rfl⟩ := hcut
  go_upto_block 4 with fail
  skip
  go_cut [] (fun wx => Hid (∀ y, y ∈ Q → y.1.size ≤ 200) ∧ w1 = wx)
  case first =>
    go_wp2_with fail
    go_loopg [5] qn (fun gk iv wx => ∃ j : Nat, j ≤ qn ∧ gk = qn - j ∧ iv = .int .i64 (j : Int) ∧ Hid (∀ (i : Nat) (y : Pr), i < j → Q[i]? = some y → y.1.size ≤ 200) ∧ w1 = wx)
    case atStart => exact ⟨0, Nat.zero_le _, rfl, rfl, fun i x hi => by omega, rfl⟩
    case round =>
      obtain ⟨j, hj, rfl, rfl, HJ, rfl⟩ := hrel
      by_cases hlt2 : j < qn
      · have hjL : j < Q.length := by rw [HQN.out]; exact hlt2
        obtain ⟨x, hxx⟩ : ∃ x, x = Q[j] := ⟨_, rfl⟩
        have hx' := nat_len hjL
        rw [← hxx] at hx'
        obtain ⟨b, o, e, -, c0, -⟩ := RdK.pair (HR.out.kept HW.out) hx'
        subst e
        have HXX := Lib.hid hx'
        have hw3 : IntKind.i64.wrap ((j : Int) + 1) = ((j + 1 : Nat) : Int) := by rw [IntKind.wrap_i64]; omega
        clear hxx hx' hjL
        by_cases hz : x.1.size ≤ 200
        · have HJ2 : Hid (∀ (i : Nat) (y : Pr), i < j + 1 → Q[i]? = some y → y.1.size ≤ 200) := fun i y hi hy => by
            by_cases e : i = j
            · subst e
              rw [HXX.out] at hy
              cases hy
              exact hz
            · exact HJ.out i y (by omega) hy
          have hd : decide (200 < (x.1.size : Int)) = false := by simp; omega
          clear hz
          go_wp2_with fail
          go_roundg (qn - (j + 1))
          case measure => omega
          case rel => exact ⟨j + 1, hlt2, rfl, by go_num, HJ2, rfl⟩
        · have hd : (200 : Int) < (x.1.size : Int) := by omega
          have HNO : Hid (¬ P) := fun h => hz ((HP.out h).qk x (List.mem_of_getElem? HXX.out))
          clear hz
          go_wp2_with fail
          go_ret
          exact ⟨⟨true, rfl, (fun h => by cases h), fun h => absurd h HNO.out⟩, HW.out⟩
      · have HZ : Hid (∀ y, y ∈ Q → y.1.size ≤ 200) := fun x hx => by
          obtain ⟨i, hi⟩ := List.getElem?_of_mem hx
          have := (List.getElem?_eq_some_iff.1 hi).1
          rw [HQN.out] at this
          exact HJ.out i x (by omega) hi
        obtain rfl : j = qn := by omega
        clear hlt2
        go_wp2_with fail
        go_meet
        exact ⟨HZ, rfl⟩
  case rest =>
  obtain ⟨Hx2, rfl⟩ := hcut
  have HT : Hid P := HQ.out ⟨by rw [HKN.out]; exact HE.out.1, by rw [HPN.out]; exact HE.out.2.1, by rw [HBN.out]; exact HE.out.2.2.1, by rw [HQN.out]; exact HE.out.2.2.2, Hx0.out, Hx1.out, Hx2.out⟩
  go_wp2_with fail
  go_ret
  exact ⟨⟨false, rfl, (fun _ => HT.out), fun _ => rfl⟩, HW.out⟩
end No
end Go.Proofs.Ytohnllclkpflaaa

namespace Go.Proofs.Ytohnllclkpflaaa
open Go.RowKit
namespace Fa
open Mem Lx Bu
set_option maxRecDepth 100000 in
set_option maxHeartbeats 2000000 in
theorem RSameS_any {W : World} {A A' : Option Addr} {c c' : Nat} {L L' : List ByteArray} (h : SL W A L) (h' : SL W A' L') (hl : L.length ≤ 1048576) (_ : L'.length ≤ 1048576) : Calls Try.prog 27 #[.slice A L.length c, .slice A' L'.length c'] W fun e w' => (∃ v : Bool, e = .returned (.bool v) ∧ (v = true ↔ L = L')) ∧ Below W.heap.size W w' := by
  obtain ⟨n, hn⟩ : ∃ n, n = L.length := ⟨_, rfl⟩
  by_cases hnn : L.length = L'.length
  case neg =>
    have HR : Hid (¬ L = L') := fun e => hnn (by rw [e])
    have hd : ((L.length : Int) != (L'.length : Int)) = true := by simp; omega
    clear h h' hn hl
    generalize L.length = n at *
    generalize L'.length = n' at *
    clear hnn
    go_enter Try.func27, Try.ntmps27
    go_wp2
    go_ret
    exact ⟨⟨false, rfl, by simpa using HR.out⟩, Below.refl _ _⟩
  rw [← hnn, ← hn]
  rw [← hn] at hl
  have HN := Lib.hid hn
  have HN' : Hid (n = L'.length) := hn.trans hnn
  have HH := Lib.hid h
  have HH' := Lib.hid h'
  clear h h' hn hnn
  go_enter Try.func27, Try.ntmps27
  go_wp2_with fail
  go_loopg [5] n (fun gk iv wr => ∃ k : Nat, k ≤ n ∧ gk = n - k ∧ iv = .int .i64 (k : Int) ∧ Hid (∀ i, i < k → L[i]? = L'[i]?) ∧ Hid (Below W.heap.size W wr))
  case atStart => exact ⟨0, Nat.zero_le _, rfl, rfl, fun i hi => by omega, Below.refl _ _⟩
  case round =>
    obtain ⟨k, hk, rfl, rfl, HE, HB⟩ := hrel
    by_cases hlt : k < n
    · have hj : k < L.length := by rw [← HN.out]; exact hlt
      have hj' : k < L'.length := by rw [← HN'.out]; exact hlt
      obtain ⟨x, hx⟩ : ∃ x, x = L[k] := ⟨_, rfl⟩
      obtain ⟨y, hy⟩ : ∃ y, y = L'[k] := ⟨_, rfl⟩
      have hx' := nat_lenS hj
      have hy' := nat_lenS hj'
      rw [← hx] at hx'
      rw [← hy] at hy'
      obtain ⟨b, o, e, -, c0⟩ := RdK.str (HH.out.kept HB.out) hx'
      subst e
      obtain ⟨b', o', e', -, d0⟩ := RdK.str (HH'.out.kept HB.out) hy'
      subst e'
      have HX := Lib.hid hx'
      have HY := Lib.hid hy'
      by_cases hxy : x = y
      · have hne : (x.toList == y.toList) = true := by rw [ba_toList]; simpa using hxy
        have HE2 : Hid (∀ i, i < k + 1 → L[i]? = L'[i]?) := fun i hi => by
          by_cases e : i = k
          · subst e
            rw [HX.out, HY.out, hxy]
          · exact HE.out i (by omega)
        clear hxy
        have z0 := fun q : Drift.Tide [] wr [] => Drift.Tide.cell c0 (by simp) q
        have x0 := fun q : Drift.Tide [] wr [] => Drift.Tide.cell d0 (by simp) q
        have hw2 : IntKind.i64.wrap ((k : Int) + 1) = ((k + 1 : Nat) : Int) := by rw [IntKind.wrap_i64]; omega
        clear c0 d0 hx hy hx' hy' hj hj'
        go_upto_region 6 with fail
        refine Drift.wp_region_drift [] [(0,[]),(1,[]),(2,[]),(3,[]),(4,[]),(5,[]),(6,[]),(7,[]),(8,[])] [] [] (by kernel_rfl) (by kernel_rfl) (by simp) ?_
        simp only [Drift.pick, Drift.opsAt, List.getElem?_toArray, List.getElem?_cons_zero, List.getElem?_cons_succ, List.cons_append, List.nil_append, List.filterMap_nil]
        repeat (refine Drift.walk_step (fun K hK => ?_); go_simp; (refine hK _ ?_; clear hK K))
        refine Drift.walk_nil ?_
        intro w2 hb _
        have HB2 := Lib.hid (HB.out.trans (hb.mono HB.out.size))
        clear z0 x0 hb HB
        simp only [List.length_cons, List.length_nil, List.drop_succ_cons, List.drop_nil, Nat.zero_add, Nat.reduceAdd]
        go_wp2_with fail
        go_roundg (n - (k + 1))
        case measure => omega
        case rel => exact ⟨k + 1, hlt, rfl, by go_num, HE2, HB2⟩
      · have hne : (x.toList == y.toList) = false := by rw [ba_toList]; simpa using hxy
        have HN2 : Hid (¬ L = L') := fun e => hxy (by
          have h1 := HX.out
          rw [e, HY.out] at h1
          exact (Option.some.inj h1).symm)
        clear hxy
        have z0 := fun q : Drift.Tide [] wr [] => Drift.Tide.cell c0 (by simp) q
        have x0 := fun q : Drift.Tide [] wr [] => Drift.Tide.cell d0 (by simp) q
        have hw2 : IntKind.i64.wrap ((k : Int) + 1) = ((k + 1 : Nat) : Int) := by rw [IntKind.wrap_i64]; omega
        clear c0 d0 hx hy hx' hy' hj hj'
        go_upto_region 6 with fail
        refine Drift.wp_region_drift [] [(0,[]),(1,[]),(2,[]),(3,[]),(4,[]),(5,[]),(6,[]),(7,[]),(8,[])] [] [] (by kernel_rfl) (by kernel_rfl) (by simp) ?_
        simp only [Drift.pick, Drift.opsAt, List.getElem?_toArray, List.getElem?_cons_zero, List.getElem?_cons_succ, List.cons_append, List.nil_append, List.filterMap_nil]
        repeat (refine Drift.walk_step (fun K hK => ?_); go_simp; (refine hK _ ?_; clear hK K))
        refine Drift.walk_nil ?_
        intro w2 hb _
        have HB2 := Lib.hid (HB.out.trans (hb.mono HB.out.size))
        clear z0 x0 hb HB
        simp only [List.length_cons, List.length_nil, List.drop_succ_cons, List.drop_nil, Nat.zero_add, Nat.reduceAdd]
        go_wp2_with fail
        go_ret
        exact ⟨⟨false, rfl, by simpa using HN2.out⟩, HB2.out⟩
    · have HR : Hid (L = L') := by
        refine List.ext_getElem? fun i => ?_
        by_cases hi : i < k
        · exact HE.out i hi
        · rw [List.getElem?_eq_none (by rw [← HN.out]; omega), List.getElem?_eq_none (by rw [← HN'.out]; omega)]
      obtain rfl : k = n := by omega
      clear hlt
      go_wp2_with fail
      go_ret
      exact ⟨⟨true, rfl, by simpa using HR.out⟩, HB.out⟩
end Fa
end Go.Proofs.Ytohnllclkpflaaa
