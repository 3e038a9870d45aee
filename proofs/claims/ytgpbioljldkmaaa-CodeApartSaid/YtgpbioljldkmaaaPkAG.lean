/-
  Box3, KidK, StrK, MsgK, PairK, FanP, NodeKS, MsgRS, PairRS, NodeD, ConfD, ConfD2, CodeP. Put together by pack.py.
-/
import Derived.Test.YtgpbioljldkmaaaPkAA
import Derived.Test.YtgpbioljldkmaaaPqDrift
import Derived.Test.YtgpbioljldkmaaaPkAB
import Derived.Test.YtgpbioljldkmaaaPkAE
import Derived.Deep.DeepCutAuto
import Derived.Deep.CutBlock
import Derived.Test.YtgpbioljldkmaaaChecked
import Derived.WalkKit
import Derived.WalkLawsBesides
import Derived.KernelRfl
import Derived.WalkSpells
import Derived.BigQuiet
import Derived.Lib.Hide

namespace Go.Proofs.Ytgpbioljldkmaaa
open Go.RowKit
namespace Bu
open Mem
theorem ba_toList {a b : ByteArray} : (a.toList == b.toList) = decide (a = b) := by
  by_cases h : a = b
  · subst h; simp
  · have : a.toList ≠ b.toList := fun e => h (by
      rw [ByteArray.toList_eq, ByteArray.toList_eq] at e
      obtain ⟨⟨x⟩⟩ := a
      obtain ⟨⟨y⟩⟩ := b
      simp at e
      rw [e])
    rw [decide_eq_false h]
    simpa using this
theorem box3 {w : World} {b : Nat} {v0 v1 v2 : Value} {U : TypeId} (h : w.heap[b]? = some (.cells #[v0, v1, v2] U (0, 0))) : w.cell? ⟨b, 0, none⟩ = some v0 ∧ w.cell? ⟨b, 1, none⟩ = some v1 ∧ w.cell? ⟨b, 2, none⟩ = some v2 := by
  simp [World.cell?, h]
theorem free3 {w : World} {b : Nat} {C : Array Value} {U : TypeId} (h : w.heap[b]? = some (.cells C U (0, 0))) (i : Nat) : w.frozen? ⟨b, i, none⟩ = false := by
  simp [World.frozen?, h]
/-- three cells stored -/
def set3 (w : World) (b : Nat) (v0 v1 v2 : Value) : World := ((w.setCell ⟨b, 0, none⟩ v0).setCell ⟨b, 1, none⟩ v1).setCell ⟨b, 2, none⟩ v2
theorem set3_at {w : World} {b : Nat} {u0 u1 u2 : Value} {U : TypeId} (h : w.heap[b]? = some (.cells #[u0, u1, u2] U (0, 0))) (v0 v1 v2 : Value) : (set3 w b v0 v1 v2).heap[b]? = some (.cells #[v0, v1, v2] U (0, 0)) := by
  unfold set3
  simp [World.setCell, Array.getElem?_modify, h]
theorem kept3 {w w' : World} {b : Nat} {o : Obj} (h : w.heap[b]? = some o) (hb : Below w.heap.size w w') : w'.heap[b]? = some o := (hb.block b (Array.getElem?_eq_some_iff.1 h).1).trans h
theorem bel3 {W w w' : World} (h : Below W.heap.size W w) (hb : Below w.heap.size w w') : Below W.heap.size W w' := h.trans (hb.mono h.size)
theorem bool_of (p : Prop) : ∃ r : Bool, r = true ↔ p := ⟨@decide p (Classical.propDecidable p), by simp⟩
theorem bool_one {v r : Bool} {p : Prop} (h : v = true ↔ p) (k : r = true ↔ p) : v = r := by
  cases v <;> cases r <;> simp_all
/-- two blocks laid one behind the other -/
theorem two_new (W : World) (X Y : Obj) : ((W.alloc X).alloc Y).heap[W.heap.size]? = some X ∧ ((W.alloc X).alloc Y).heap[W.heap.size + 1]? = some Y ∧ Below W.heap.size W ((W.alloc X).alloc Y) := by
  have hb : Below W.heap.size W (W.alloc X) := (Below.refl _ _).alloc (Nat.le_refl _) _
  have hb2 : Below (W.alloc X).heap.size (W.alloc X) ((W.alloc X).alloc Y) := (Below.refl _ _).alloc (Nat.le_refl _) _
  refine ⟨kept3 (heap_alloc_new W X) hb2, ?_, hb.trans (hb2.mono hb.size)⟩
  have := heap_alloc_new (W.alloc X) Y
  simpa using this
theorem set_other {w : World} {b k : Nat} {i : Nat} (v : Value) (hk : k ≠ b) : (w.setCell ⟨b, i, none⟩ v).heap[k]? = w.heap[k]? := Below.heap_setCell _ _ _ _ hk
end Bu
end Go.Proofs.Ytgpbioljldkmaaa

namespace Go.Proofs.Ytgpbioljldkmaaa
open Go.RowKit
namespace No
open Mem Lx Bu
def KdK : Kind Nat := ⟨69, 1, fun n => [.int .u32 (n : Int)], fun _ => rfl, fun m u hu => by
  obtain rfl : u = .int .u32 (m : Int) := by simpa using hu
  rfl⟩
/-- a slice of numbers that reads as L -/
abbrev KL (w : World) (A : Option Addr) (L : List Nat) : Prop := RdK KdK w A L
abbrev KC (w : World) (A : Option Addr) (c : Nat) (L : List Nat) : Prop := RC KdK w A c L
theorem RdK.kid {w : World} {A : Option Addr} {L : List Nat} (h : KL w A L) {i : Nat} {m : Nat} (hm : L[i]? = some m) : ∃ b o, A = some ⟨b, o, none⟩ ∧ b < w.heap.size ∧ w.cell? ⟨b, o + i, none⟩ = some (.int .u32 (m : Int)) := by
  obtain ⟨b, o, e, hl, hc⟩ := h (Nat.lt_of_le_of_lt (Nat.zero_le _) (List.getElem?_eq_some_iff.1 hm).1)
  have h0 := hc i m hm 0 (.int .u32 (m : Int)) rfl
  exact ⟨b, o, e, hl, by simpa [KdK] using h0⟩
theorem nat_lenK {L : List Nat} {i : Nat} (h : i < L.length) : L[i]? = some L[i] := List.getElem?_eq_getElem h
set_option maxRecDepth 100000 in
set_option maxHeartbeats 2000000 in
theorem RBlocks_any {W : World} {A A' : Option Addr} {c c' : Nat} {L L' : List Nat} (h : KL W A L) (h' : KL W A' L') (hl : L.length ≤ 1048576) (_ : L'.length ≤ 1048576) : Calls Try.prog 13 #[.slice A L.length c, .slice A' L'.length c'] W fun e w' => (∃ v : Bool, e = .returned (.bool v) ∧ (v = true ↔ L = L')) ∧ Below W.heap.size W w' := by
  obtain ⟨n, hn⟩ : ∃ n, n = L.length := ⟨_, rfl⟩
  by_cases hnn : L.length = L'.length
  case neg =>
    have HR : Hid (¬ L = L') := fun e => hnn (by rw [e])
    have hd : ((L.length : Int) != (L'.length : Int)) = true := by simp; omega
    clear h h' hn hl
    generalize L.length = n at *
    generalize L'.length = n' at *
    clear hnn
    go_enter Try.func13, Try.ntmps13
    go_wp2
    go_ret
    exact ⟨⟨false, rfl, by simpa using HR.out⟩, Below.refl _ _⟩
  rw [← hnn, ← hn]
  rw [← hn] at hl
  have HN := Lib.hid hn
  have HN' : Hid (n = L'.length) := hn.trans hnn
  have HH := Lib.hid h
  have HH' := Lib.hid h'
  clear h h' hn hnn
  go_enter Try.func13, Try.ntmps13
  go_wp2_with fail
  go_loopg [5] n (fun gk iv wr => ∃ k : Nat, k ≤ n ∧ gk = n - k ∧ iv = .int .i64 (k : Int) ∧ Hid (∀ i, i < k → L[i]? = L'[i]?) ∧ Hid (Below W.heap.size W wr))
  case atStart => exact ⟨0, Nat.zero_le _, rfl, rfl, fun i hi => by omega, Below.refl _ _⟩
  case round =>
    obtain ⟨k, hk, rfl, rfl, HE, HB⟩ := hrel
    by_cases hlt : k < n
    · have hj : k < L.length := by rw [← HN.out]; exact hlt
      have hj' : k < L'.length := by rw [← HN'.out]; exact hlt
      obtain ⟨x, hx⟩ : ∃ x, x = L[k] := ⟨_, rfl⟩
      obtain ⟨y, hy⟩ : ∃ y, y = L'[k] := ⟨_, rfl⟩
      have hx' := nat_lenK hj
      have hy' := nat_lenK hj'
      rw [← hx] at hx'
      rw [← hy] at hy'
      obtain ⟨b, o, e, -, c0⟩ := RdK.kid (HH.out.kept HB.out) hx'
      subst e
      obtain ⟨b', o', e', -, d0⟩ := RdK.kid (HH'.out.kept HB.out) hy'
      subst e'
      have HX := Lib.hid hx'
      have HY := Lib.hid hy'
      by_cases hxy : x = y
      · have hne : ((x : Int) != (y : Int)) = false := by simp [hxy]
        have HE2 : Hid (∀ i, i < k + 1 → L[i]? = L'[i]?) := fun i hi => by
          by_cases e : i = k
          · subst e
            rw [HX.out, HY.out, hxy]
          · exact HE.out i (by omega)
        clear hxy
        have z0 := fun q : Drift.Tide [] wr [] => Drift.Tide.cell c0 (by simp) q
        have x0 := fun q : Drift.Tide [] wr [] => Drift.Tide.cell d0 (by simp) q
        have hw2 : IntKind.i64.wrap ((k : Int) + 1) = ((k + 1 : Nat) : Int) := by rw [IntKind.wrap_i64]; omega
        clear c0 d0 hx hy hx' hy' hj hj'
        go_upto_region 6 with fail
        refine Drift.wp_region_drift [] [(0,[]),(1,[]),(2,[]),(3,[]),(4,[]),(5,[]),(6,[]),(7,[]),(8,[])] [] [] (by kernel_rfl) (by kernel_rfl) (by simp) ?_
        simp only [Drift.pick, Drift.opsAt, List.getElem?_toArray, List.getElem?_cons_zero, List.getElem?_cons_succ, List.cons_append, List.nil_append, List.filterMap_nil]
        repeat (refine Drift.walk_step (fun K hK => ?_); go_simp; (refine hK _ ?_; clear hK K))
        refine Drift.walk_nil ?_
        intro w2 hb _
        have HB2 := Lib.hid (HB.out.trans (hb.mono HB.out.size))
        clear z0 x0 hb HB
        simp only [List.length_cons, List.length_nil, List.drop_succ_cons, List.drop_nil, Nat.zero_add, Nat.reduceAdd]
        go_wp2_with fail
        go_roundg (n - (k + 1))
        case measure => omega
        case rel => exact ⟨k + 1, hlt, rfl, by go_num, HE2, HB2⟩
      · have hne : ((x : Int) != (y : Int)) = true := by simp; omega
        have HN2 : Hid (¬ L = L') := fun e => hxy (by
          have h1 := HX.out
          rw [e, HY.out] at h1
          exact (Option.some.inj h1).symm)
        clear hxy
        have z0 := fun q : Drift.Tide [] wr [] => Drift.Tide.cell c0 (by simp) q
        have x0 := fun q : Drift.Tide [] wr [] => Drift.Tide.cell d0 (by simp) q
        have hw2 : IntKind.i64.wrap ((k : Int) + 1) = ((k + 1 : Nat) : Int) := by rw [IntKind.wrap_i64]; omega
        clear c0 d0 hx hy hx' hy' hj hj'
        go_upto_region 6 with fail
        refine Drift.wp_region_drift [] [(0,[]),(1,[]),(2,[]),(3,[]),(4,[]),(5,[]),(6,[]),(7,[]),(8,[])] [] [] (by kernel_rfl) (by kernel_rfl) (by simp) ?_
        simp only [Drift.pick, Drift.opsAt, List.getElem?_toArray, List.getElem?_cons_zero, List.getElem?_cons_succ, List.cons_append, List.nil_append, List.filterMap_nil]
        repeat (refine Drift.walk_step (fun K hK => ?_); go_simp; (refine hK _ ?_; clear hK K))
        refine Drift.walk_nil ?_
        intro w2 hb _
        have HB2 := Lib.hid (HB.out.trans (hb.mono HB.out.size))
        clear z0 x0 hb HB
        simp only [List.length_cons, List.length_nil, List.drop_succ_cons, List.drop_nil, Nat.zero_add, Nat.reduceAdd]
        go_wp2_with fail
        go_ret
        exact ⟨⟨false, rfl, by simpa using HN2.out⟩, HB2.out⟩
    · have HR : Hid (L = L') := by
        refine List.ext_getElem? fun i => ?_
        by_cases hi : i < k
        · exact HE.out i hi
        · rw [List.getElem?_eq_none (by rw [← HN.out]; omega), List.getElem?_eq_none (by rw [← HN'.out]; omega)]
      obtain rfl : k = n := by omega
      clear hlt
      go_wp2_with fail
      go_ret
      exact ⟨⟨true, rfl, by simpa using HR.out⟩, HB.out⟩
end No
end Go.Proofs.Ytgpbioljldkmaaa

namespace Go.Proofs.Ytgpbioljldkmaaa
open Go.RowKit
namespace Fa
open Mem Lx Bu
def StK : Kind ByteArray := ⟨9, 1, fun m => [.string m], fun _ => rfl, fun m u hu => by
  obtain rfl : u = .string m := by simpa using hu
  rfl⟩
/-- a slice of texts that reads as L -/
abbrev SL (w : World) (A : Option Addr) (L : List ByteArray) : Prop := RdK StK w A L
abbrev SC (w : World) (A : Option Addr) (c : Nat) (L : List ByteArray) : Prop := RC StK w A c L
theorem RdK.str {w : World} {A : Option Addr} {L : List ByteArray} (h : SL w A L) {i : Nat} {m : ByteArray} (hm : L[i]? = some m) : ∃ b o, A = some ⟨b, o, none⟩ ∧ b < w.heap.size ∧ w.cell? ⟨b, o + i, none⟩ = some (.string m) := by
  obtain ⟨b, o, e, hl, hc⟩ := h (Nat.lt_of_le_of_lt (Nat.zero_le _) (List.getElem?_eq_some_iff.1 hm).1)
  have h0 := hc i m hm 0 (.string m) rfl
  exact ⟨b, o, e, hl, by simpa [StK] using h0⟩
theorem nat_lenS {L : List ByteArray} {i : Nat} (h : i < L.length) : L[i]? = some L[i] := List.getElem?_eq_getElem h
end Fa
end Go.Proofs.Ytgpbioljldkmaaa

namespace Go.Proofs.Ytgpbioljldkmaaa
open Go.RowKit
namespace Bu
open Mem Lx
/-- a message: its key, whether there is none of it, its value -/
abbrev Mg := ByteArray × Bool × ByteArray
def MgK : Kind Mg := ⟨40, 3, fun m => [.string m.1, .bool m.2.1, .string m.2.2], fun _ => rfl, fun m u hu => by
  simp only [List.mem_cons, List.not_mem_nil, or_false] at hu
  rcases hu with rfl | rfl | rfl <;> rfl⟩
/-- a slice of messages that reads as L -/
abbrev ML (w : World) (A : Option Addr) (L : List Mg) : Prop := RdK MgK w A L
theorem RdK.msg {w : World} {A : Option Addr} {L : List Mg} (h : ML w A L) {i : Nat} {m : Mg} (hm : L[i]? = some m) : ∃ b o, A = some ⟨b, o, none⟩ ∧ b < w.heap.size ∧ w.cell? ⟨b, o + i * 3, none⟩ = some (.string m.1) ∧ w.cell? ⟨b, o + i * 3 + 1, none⟩ = some (.bool m.2.1) ∧ w.cell? ⟨b, o + i * 3 + 2, none⟩ = some (.string m.2.2) := by
  obtain ⟨b, o, e, hl, hc⟩ := h (Nat.lt_of_le_of_lt (Nat.zero_le _) (List.getElem?_eq_some_iff.1 hm).1)
  have h0 := hc i m hm 0 (.string m.1) rfl
  have h1 := hc i m hm 1 (.bool m.2.1) rfl
  have h2 := hc i m hm 2 (.string m.2.2) rfl
  exact ⟨b, o, e, hl, by simpa [MgK] using h0, by simpa [MgK, Nat.add_assoc] using h1, by simpa [MgK, Nat.add_assoc] using h2⟩
/-- its place, whatever it reads as -/
theorem RdK.place {w : World} {A : Option Addr} {L : List Mg} (h : ML w A L) (h0 : 0 < L.length) : ∃ b o, A = some ⟨b, o, none⟩ ∧ ∀ (i : Nat) (m : Mg), L[i]? = some m → w.cell? ⟨b, o + i * 3, none⟩ = some (.string m.1) ∧ w.cell? ⟨b, o + i * 3 + 1, none⟩ = some (.bool m.2.1) ∧ w.cell? ⟨b, o + i * 3 + 2, none⟩ = some (.string m.2.2) := by
  obtain ⟨b, o, e, _, _⟩ := h h0
  subst e
  refine ⟨b, o, rfl, fun i m hm => ?_⟩
  obtain ⟨b', o', e', _, h1⟩ := RdK.msg h hm
  obtain ⟨rfl, rfl⟩ : b = b' ∧ o = o' := by simpa using e'
  exact h1
theorem mginfo : (Try.prog.info? 40).map (fun i => (i.zero, i.size, i.bytes)) = some (some (.agg #[.string ⟨#[]⟩, .bool false, .string ⟨#[]⟩]), 3, 40) := by kernel_rfl
theorem nat_len {α : Type} {L : List α} {i : Nat} (h : i < L.length) : L[i]? = some L[i] := List.getElem?_eq_getElem h
theorem mg_ne (m m' : Mg) (w : World) : (binOp .neq 40 (.agg #[.string m.1, .bool m.2.1, .string m.2.2]) (.agg #[.string m'.1, .bool m'.2.1, .string m'.2.2])).run Try.prog w = .ok (.bool (!decide (m = m'))) w := by
  obtain ⟨k, d, v⟩ := m
  obtain ⟨k', d', v'⟩ := m'
  by_cases h0 : k = k'
  case neg => simp [go_sem, h0, ba_toList]
  by_cases h1 : d = d'
  case neg => simp [go_sem, h0, h1, ba_toList]
  by_cases h2 : v = v' <;> simp [go_sem, h0, h1, h2, ba_toList]
def zeroM : Mg := (⟨#[]⟩, false, ⟨#[]⟩)
end Bu
end Go.Proofs.Ytgpbioljldkmaaa

namespace Go.Proofs.Ytgpbioljldkmaaa
open Go.RowKit
namespace Lf
open Mem Lx Bu
/-- a pair: its key, its value -/
abbrev Pr := ByteArray × ByteArray
def PrK : Kind Pr := ⟨42, 2, fun m => [.string m.1, .string m.2], fun _ => rfl, fun m u hu => by
  simp only [List.mem_cons, List.not_mem_nil, or_false] at hu
  rcases hu with rfl | rfl <;> rfl⟩
/-- a slice of pairs that reads as L -/
abbrev PL (w : World) (A : Option Addr) (L : List Pr) : Prop := RdK PrK w A L
/-- one of the call's own -/
abbrev P3 (w : World) (B : Nat) (A : Option Addr) (c : Nat) (L : List Pr) : Prop := VK PrK w B A c L
/-- with its room -/
abbrev PC (w : World) (A : Option Addr) (c : Nat) (L : List Pr) : Prop := RC PrK w A c L
theorem RdK.pair {w : World} {A : Option Addr} {L : List Pr} (h : PL w A L) {i : Nat} {m : Pr} (hm : L[i]? = some m) : ∃ b o, A = some ⟨b, o, none⟩ ∧ b < w.heap.size ∧ w.cell? ⟨b, o + i * 2, none⟩ = some (.string m.1) ∧ w.cell? ⟨b, o + i * 2 + 1, none⟩ = some (.string m.2) := by
  obtain ⟨b, o, e, hl, hc⟩ := h (Nat.lt_of_le_of_lt (Nat.zero_le _) (List.getElem?_eq_some_iff.1 hm).1)
  have h0 := hc i m hm 0 (.string m.1) rfl
  have h1 := hc i m hm 1 (.string m.2) rfl
  exact ⟨b, o, e, hl, by simpa [PrK] using h0, by simpa [PrK, Nat.add_assoc] using h1⟩
/-- its place, whatever it reads as -/
theorem RdK.pplace {w : World} {A : Option Addr} {L : List Pr} (h : PL w A L) (h0 : 0 < L.length) : ∃ b o, A = some ⟨b, o, none⟩ ∧ ∀ (i : Nat) (m : Pr), L[i]? = some m → w.cell? ⟨b, o + i * 2, none⟩ = some (.string m.1) ∧ w.cell? ⟨b, o + i * 2 + 1, none⟩ = some (.string m.2) := by
  obtain ⟨b, o, e, _, _⟩ := h h0
  subst e
  refine ⟨b, o, rfl, fun i m hm => ?_⟩
  obtain ⟨b', o', e', _, h1⟩ := RdK.pair h hm
  obtain ⟨rfl, rfl⟩ : b = b' ∧ o = o' := by simpa using e'
  exact h1
theorem prinfo : (Try.prog.info? 42).map (fun i => (i.zero, i.size, i.bytes)) = some (some (.agg #[.string ⟨#[]⟩, .string ⟨#[]⟩]), 2, 32) := by kernel_rfl
theorem pr_ne (m m' : Pr) (w : World) : (binOp .neq 42 (.agg #[.string m.1, .string m.2]) (.agg #[.string m'.1, .string m'.2])).run Try.prog w = .ok (.bool (!decide (m = m'))) w := by
  obtain ⟨k, v⟩ := m
  obtain ⟨k', v'⟩ := m'
  by_cases h0 : k = k'
  case neg => simp [go_sem, h0, ba_toList]
  by_cases h2 : v = v' <;> simp [go_sem, h0, h2, ba_toList]
end Lf
end Go.Proofs.Ytgpbioljldkmaaa

namespace Go.Proofs.Ytgpbioljldkmaaa
namespace Fa
open Lx Bu
/-- texts rise strictly -/
abbrev SRi (L : List ByteArray) : Prop := L.Pairwise fun a b => cmpB a b < 0
def SRise (L : List ByteArray) : Prop := ∀ (i : Nat) (a b : ByteArray), L[i]? = some a → L[i + 1]? = some b → cmpB a b < 0
theorem srise_iff {L : List ByteArray} : SRise L ↔ SRi L := by
  constructor
  · intro h
    induction L with
    | nil => exact .nil
    | cons x xs ih =>
      have ih := ih fun i a b ha hb => h (i + 1) a b (by simpa using ha) (by simpa using hb)
      refine List.pairwise_cons.2 ⟨?_, ih⟩
      cases xs with
      | nil => intro a ha; cases ha
      | cons y ys =>
        have h0 := h 0 x y rfl rfl
        intro a ha
        rcases List.mem_cons.1 ha with rfl | ha
        · exact h0
        · exact cmpB_trans h0 ((List.pairwise_cons.1 ih).1 a ha)
  · intro h i a b ha hb
    obtain ⟨h1, e1⟩ := List.getElem?_eq_some_iff.1 ha
    obtain ⟨h2, e2⟩ := List.getElem?_eq_some_iff.1 hb
    subst e1 e2
    exact List.pairwise_iff_getElem.1 h i (i + 1) h1 h2 (by omega)
theorem SRi.at_ {L : List ByteArray} (h : SRi L) {i j : Nat} {x y : ByteArray} (hx : L[i]? = some x) (hy : L[j]? = some y) (hij : i < j) : cmpB x y < 0 := by
  obtain ⟨h1, e1⟩ := List.getElem?_eq_some_iff.1 hx
  obtain ⟨h2, e2⟩ := List.getElem?_eq_some_iff.1 hy
  subst e1 e2
  exact List.pairwise_iff_getElem.1 h i j h1 h2 hij
/-- a key's way: how many are not behind it -/
def wayS (L : List ByteArray) (key : ByteArray) : Nat := (L.filter fun p => decide (cmpB p key ≤ 0)).length
/-- those ahead of the way are not behind the key, the others are -/
theorem SRi.way : ∀ {L : List ByteArray} {key : ByteArray}, SRi L → (∀ (i : Nat) (p : ByteArray), i < wayS L key → L[i]? = some p → cmpB p key ≤ 0) ∧ (∀ (i : Nat) (p : ByteArray), wayS L key ≤ i → L[i]? = some p → 0 < cmpB p key)
  | [], key, _ => ⟨fun i p _ h => by simp at h, fun i p _ h => by simp at h⟩
  | x :: xs, key, h => by
    obtain ⟨h1, h2⟩ := List.pairwise_cons.1 h
    obtain ⟨i1, i2⟩ := SRi.way (key := key) h2
    by_cases hx : cmpB x key ≤ 0
    · have e : wayS (x :: xs) key = wayS xs key + 1 := by simp [wayS, hx]
      rw [e]
      refine ⟨fun i p hi hp => ?_, fun i p hi hp => ?_⟩
      · cases i with
        | zero =>
          obtain rfl : x = p := by simpa using hp
          exact hx
        | succ i => exact i1 i p (by omega) (by simpa using hp)
      · cases i with
        | zero => omega
        | succ i => exact i2 i p (by omega) (by simpa using hp)
    · have hall : ∀ p, p ∈ xs → 0 < cmpB p key := fun p hp => by
        rcases Int.lt_or_le 0 (cmpB p key) with h3 | h3
        · exact h3
        · have h4 := h1 p hp
          have h5 : cmpB x key < 0 := by
            rcases cmpB_tri p key with h6 | h6 | h6
            · exact cmpB_trans h4 h6
            · rw [← h6]; exact h4
            · have := cmpB_neg p key
              omega
          omega
      have e0 : wayS xs key = 0 := by
        unfold wayS
        rw [List.filter_eq_nil_iff.2 fun p hp => by
          have := hall p hp
          simp
          omega]
        rfl
      have e : wayS (x :: xs) key = 0 := by
        have : wayS (x :: xs) key = wayS xs key := by simp [wayS, hx]
        rw [this, e0]
      rw [e]
      refine ⟨fun i p hi => by omega, fun i p _ hp => ?_⟩
      cases i with
      | zero =>
        obtain rfl : x = p := by simpa using hp
        omega
      | succ i => exact hall p (List.mem_of_getElem? (by simpa using hp))
/-- which pivots are right for a span -/
def RightS (L : List ByteArray) (lo hi : ByteArray) (top : Bool) : Prop := (∀ p, p ∈ L → inB lo hi top p = true ∧ p ≠ lo) ∧ SRise L
theorem inB_iff {lo hi : ByteArray} {top : Bool} {key : ByteArray} : inB lo hi top key = true ↔ cmpB lo key ≤ 0 ∧ (top = true ∨ cmpB key hi < 0) := by
  cases top <;> simp [inB]
end Fa
end Go.Proofs.Ytgpbioljldkmaaa

namespace Go.Proofs.Ytgpbioljldkmaaa
open Go.RowKit
namespace No
open Mem Lx Bu Lf Fa
/-- a node -/
structure Nd where
  lv : Int
  kids : List Nat
  piv : List ByteArray
  buf : List Mg
  prs : List Pr
/-- where its lists lie, and their room -/
structure At where
  kA : Option Addr
  kc : Nat
  pA : Option Addr
  pc : Nat
  bA : Option Addr
  bc : Nat
  qA : Option Addr
  qc : Nat
def ndCs (n : Nd) (a : At) : Array Value := #[.int .i64 n.lv, .slice a.kA n.kids.length a.kc, .slice a.pA n.piv.length a.pc, .slice a.bA n.buf.length a.bc, .slice a.qA n.prs.length a.qc]
structure NdIn (w : World) (n : Nd) (a : At) : Prop where
  kids : KC w a.kA a.kc n.kids
  piv : SC w a.pA a.pc n.piv
  buf : RC MgK w a.bA a.bc n.buf
  prs : PC w a.qA a.qc n.prs
theorem NdIn.kept {w w' : World} {n : Nd} {a : At} (h : NdIn w n a) (hb : Below w.heap.size w w') : NdIn w' n a := ⟨h.kids.kept hb, h.piv.kept hb, h.buf.kept hb, h.prs.kept hb⟩
theorem box5 {w : World} {b : Nat} {c0 c1 c2 c3 c4 : Value} {U : TypeId} (h : w.heap[b]? = some (.cells #[c0, c1, c2, c3, c4] U (0, 0))) : w.cell? ⟨b, 0, none⟩ = some c0 ∧ w.cell? ⟨b, 1, none⟩ = some c1 ∧ w.cell? ⟨b, 2, none⟩ = some c2 ∧ w.cell? ⟨b, 3, none⟩ = some c3 ∧ w.cell? ⟨b, 4, none⟩ = some c4 := by
  simp [World.cell?, h]
end No
end Go.Proofs.Ytgpbioljldkmaaa
namespace Go.Proofs.Ytgpbioljldkmaaa
open Go.RowKit
namespace No
open Mem Lx Bu
open Lf (Pr PrK PL P3 PC)
open Fa (StK SL SC wayS SRise RightS)
/-- of bounded lists -/
structure Sz (n : Nd) : Prop where
  piv : ∀ p, p ∈ n.piv → p.size ≤ maxLen
  buf : ∀ m, m ∈ n.buf → m.1.size ≤ maxLen
  prs : ∀ m, m ∈ n.prs → m.1.size ≤ maxLen
  kl : n.kids.length ≤ 1000
  pl : n.piv.length ≤ 1000
  bl : n.buf.length ≤ 1000
  ql : n.prs.length ≤ 1000
end No
end Go.Proofs.Ytgpbioljldkmaaa

namespace Go.Proofs.Ytgpbioljldkmaaa
open Go.RowKit
namespace Bu
open Mem Lx
/-- keys rise strictly -/
def Rise (L : List Mg) : Prop := ∀ (i : Nat) (a b : Mg), L[i]? = some a → L[i + 1]? = some b → cmpB a.1 b.1 < 0
set_option maxRecDepth 100000 in
set_option maxHeartbeats 2000000 in
theorem RSame_any {W : World} {A A' : Option Addr} {c c' : Nat} {L L' : List Mg} (h : ML W A L) (h' : ML W A' L') (hl : L.length ≤ 1048576) (_ : L'.length ≤ 1048576) : Calls Try.prog 15 #[.slice A L.length c, .slice A' L'.length c'] W fun e w' => (∃ v : Bool, e = .returned (.bool v) ∧ (v = true ↔ L = L')) ∧ Below W.heap.size W w' := by
  obtain ⟨n, hn⟩ : ∃ n, n = L.length := ⟨_, rfl⟩
  by_cases hnn : L.length = L'.length
  case neg =>
    have HR : Hid (¬ L = L') := fun e => hnn (by rw [e])
    have hd : ((L.length : Int) != (L'.length : Int)) = true := by simp; omega
    clear h h' hn hl
    generalize L.length = n at *
    generalize L'.length = n' at *
    clear hnn
    go_enter Try.func15, Try.ntmps15
    go_wp2
    go_ret
    exact ⟨⟨false, rfl, by simpa using HR.out⟩, Below.refl _ _⟩
  rw [← hnn, ← hn]
  rw [← hn] at hl
  have HN := Lib.hid hn
  have HN' : Hid (n = L'.length) := hn.trans hnn
  have HH := Lib.hid h
  have HH' := Lib.hid h'
  clear h h' hn hnn
  go_enter Try.func15, Try.ntmps15
  go_wp2_with fail
  go_loopg [5] n (fun gk iv wr => ∃ k : Nat, k ≤ n ∧ gk = n - k ∧ iv = .int .i64 (k : Int) ∧ Hid (∀ i, i < k → L[i]? = L'[i]?) ∧ Hid (Below W.heap.size W wr))
  case atStart => exact ⟨0, Nat.zero_le _, rfl, rfl, fun i hi => by omega, Below.refl _ _⟩
  case round =>
    obtain ⟨k, hk, rfl, rfl, HE, HB⟩ := hrel
    by_cases hlt : k < n
    · have hj : k < L.length := by rw [← HN.out]; exact hlt
      have hj' : k < L'.length := by rw [← HN'.out]; exact hlt
      obtain ⟨x, hx⟩ : ∃ x, x = L[k] := ⟨_, rfl⟩
      obtain ⟨y, hy⟩ : ∃ y, y = L'[k] := ⟨_, rfl⟩
      have hx' := nat_len hj
      have hy' := nat_len hj'
      rw [← hx] at hx'
      rw [← hy] at hy'
      obtain ⟨b, o, e, -, c0, c1, c2⟩ := RdK.msg (HH.out.kept HB.out) hx'
      subst e
      obtain ⟨b', o', e', -, d0, d1, d2⟩ := RdK.msg (HH'.out.kept HB.out) hy'
      subst e'
      have HX := Lib.hid hx'
      have HY := Lib.hid hy'
      by_cases hxy : x = y
      · have hne : ∀ w, (binOp .neq 40 (.agg #[.string x.1, .bool x.2.1, .string x.2.2]) (.agg #[.string y.1, .bool y.2.1, .string y.2.2])).run Try.prog w = .ok (.bool false) w := fun w => (mg_ne x y w).trans (by simp [hxy])
        have HE2 : Hid (∀ i, i < k + 1 → L[i]? = L'[i]?) := fun i hi => by
          by_cases e : i = k
          · subst e
            rw [HX.out, HY.out, hxy]
          · exact HE.out i (by omega)
        clear hxy
        have z0 := fun q : Drift.Tide [] wr [] => Drift.Tide.cell c0 (by simp) q
        have z1 := fun q : Drift.Tide [] wr [] => Drift.Tide.cell c1 (by simp) q
        have z2 := fun q : Drift.Tide [] wr [] => Drift.Tide.cell c2 (by simp) q
        have x0 := fun q : Drift.Tide [] wr [] => Drift.Tide.cell d0 (by simp) q
        have x1 := fun q : Drift.Tide [] wr [] => Drift.Tide.cell d1 (by simp) q
        have x2 := fun q : Drift.Tide [] wr [] => Drift.Tide.cell d2 (by simp) q
        have hw2 : IntKind.i64.wrap ((k : Int) + 1) = ((k + 1 : Nat) : Int) := by rw [IntKind.wrap_i64]; omega
        clear c0 c1 c2 d0 d1 d2 hx hy hx' hy' hj hj'
        go_upto_region 6 with fail
        refine Drift.wp_region_drift [] [(0,[]),(1,[]),(2,[]),(3,[]),(4,[]),(5,[]),(6,[]),(7,[]),(8,[])] [] [] (by kernel_rfl) (by kernel_rfl) (by simp) ?_
        simp only [Drift.pick, Drift.opsAt, List.getElem?_toArray, List.getElem?_cons_zero, List.getElem?_cons_succ, List.cons_append, List.nil_append, List.filterMap_nil]
        repeat (refine Drift.walk_step (fun K hK => ?_); go_simp; (refine hK _ ?_; clear hK K))
        refine Drift.walk_nil ?_
        intro w2 hb _
        have HB2 := Lib.hid (HB.out.trans (hb.mono HB.out.size))
        clear z0 z1 z2 x0 x1 x2 hb HB hne
        simp only [List.length_cons, List.length_nil, List.drop_succ_cons, List.drop_nil, Nat.zero_add, Nat.reduceAdd]
        go_wp2_with fail
        go_roundg (n - (k + 1))
        case measure => omega
        case rel => exact ⟨k + 1, hlt, rfl, by go_num, HE2, HB2⟩
      · have hne : ∀ w, (binOp .neq 40 (.agg #[.string x.1, .bool x.2.1, .string x.2.2]) (.agg #[.string y.1, .bool y.2.1, .string y.2.2])).run Try.prog w = .ok (.bool true) w := fun w => (mg_ne x y w).trans (by simp [hxy])
        have HN2 : Hid (¬ L = L') := fun e => hxy (by
          have h1 := HX.out
          rw [e, HY.out] at h1
          exact (Option.some.inj h1).symm)
        clear hxy
        have z0 := fun q : Drift.Tide [] wr [] => Drift.Tide.cell c0 (by simp) q
        have z1 := fun q : Drift.Tide [] wr [] => Drift.Tide.cell c1 (by simp) q
        have z2 := fun q : Drift.Tide [] wr [] => Drift.Tide.cell c2 (by simp) q
        have x0 := fun q : Drift.Tide [] wr [] => Drift.Tide.cell d0 (by simp) q
        have x1 := fun q : Drift.Tide [] wr [] => Drift.Tide.cell d1 (by simp) q
        have x2 := fun q : Drift.Tide [] wr [] => Drift.Tide.cell d2 (by simp) q
        have hw2 : IntKind.i64.wrap ((k : Int) + 1) = ((k + 1 : Nat) : Int) := by rw [IntKind.wrap_i64]; omega
        clear c0 c1 c2 d0 d1 d2 hx hy hx' hy' hj hj'
        go_upto_region 6 with fail
        refine Drift.wp_region_drift [] [(0,[]),(1,[]),(2,[]),(3,[]),(4,[]),(5,[]),(6,[]),(7,[]),(8,[])] [] [] (by kernel_rfl) (by kernel_rfl) (by simp) ?_
        simp only [Drift.pick, Drift.opsAt, List.getElem?_toArray, List.getElem?_cons_zero, List.getElem?_cons_succ, List.cons_append, List.nil_append, List.filterMap_nil]
        repeat (refine Drift.walk_step (fun K hK => ?_); go_simp; (refine hK _ ?_; clear hK K))
        refine Drift.walk_nil ?_
        intro w2 hb _
        have HB2 := Lib.hid (HB.out.trans (hb.mono HB.out.size))
        clear z0 z1 z2 x0 x1 x2 hb HB hne
        simp only [List.length_cons, List.length_nil, List.drop_succ_cons, List.drop_nil, Nat.zero_add, Nat.reduceAdd]
        go_wp2_with fail
        go_ret
        exact ⟨⟨false, rfl, by simpa using HN2.out⟩, HB2.out⟩
    · have HR : Hid (L = L') := by
        refine List.ext_getElem? fun i => ?_
        by_cases hi : i < k
        · exact HE.out i hi
        · rw [List.getElem?_eq_none (by rw [← HN.out]; omega), List.getElem?_eq_none (by rw [← HN'.out]; omega)]
      obtain rfl : k = n := by omega
      clear hlt
      go_wp2_with fail
      go_ret
      exact ⟨⟨true, rfl, by simpa using HR.out⟩, HB.out⟩
end Bu
end Go.Proofs.Ytgpbioljldkmaaa

namespace Go.Proofs.Ytgpbioljldkmaaa
open Go.RowKit
namespace Lf
open Mem Lx Bu
/-- keys rise strictly -/
def PRise (L : List Pr) : Prop := ∀ (i : Nat) (a b : Pr), L[i]? = some a → L[i + 1]? = some b → cmpB a.1 b.1 < 0
set_option maxRecDepth 100000 in
set_option maxHeartbeats 2000000 in
theorem RSame_any {W : World} {A A' : Option Addr} {c c' : Nat} {L L' : List Pr} (h : PL W A L) (h' : PL W A' L') (hl : L.length ≤ 1048576) (_ : L'.length ≤ 1048576) : Calls Try.prog 16 #[.slice A L.length c, .slice A' L'.length c'] W fun e w' => (∃ v : Bool, e = .returned (.bool v) ∧ (v = true ↔ L = L')) ∧ Below W.heap.size W w' := by
  obtain ⟨n, hn⟩ : ∃ n, n = L.length := ⟨_, rfl⟩
  by_cases hnn : L.length = L'.length
  case neg =>
    have HR : Hid (¬ L = L') := fun e => hnn (by rw [e])
    have hd : ((L.length : Int) != (L'.length : Int)) = true := by simp; omega
    clear h h' hn hl
    generalize L.length = n at *
    generalize L'.length = n' at *
    clear hnn
    go_enter Try.func16, Try.ntmps16
    go_wp2
    go_ret
    exact ⟨⟨false, rfl, by simpa using HR.out⟩, Below.refl _ _⟩
  rw [← hnn, ← hn]
  rw [← hn] at hl
  have HN := Lib.hid hn
  have HN' : Hid (n = L'.length) := hn.trans hnn
  have HH := Lib.hid h
  have HH' := Lib.hid h'
  clear h h' hn hnn
  go_enter Try.func16, Try.ntmps16
  go_wp2_with fail
  go_loopg [5] n (fun gk iv wr => ∃ k : Nat, k ≤ n ∧ gk = n - k ∧ iv = .int .i64 (k : Int) ∧ Hid (∀ i, i < k → L[i]? = L'[i]?) ∧ Hid (Below W.heap.size W wr))
  case atStart => exact ⟨0, Nat.zero_le _, rfl, rfl, fun i hi => by omega, Below.refl _ _⟩
  case round =>
    obtain ⟨k, hk, rfl, rfl, HE, HB⟩ := hrel
    by_cases hlt : k < n
    · have hj : k < L.length := by rw [← HN.out]; exact hlt
      have hj' : k < L'.length := by rw [← HN'.out]; exact hlt
      obtain ⟨x, hx⟩ : ∃ x, x = L[k] := ⟨_, rfl⟩
      obtain ⟨y, hy⟩ : ∃ y, y = L'[k] := ⟨_, rfl⟩
      have hx' := nat_len hj
      have hy' := nat_len hj'
      rw [← hx] at hx'
      rw [← hy] at hy'
      obtain ⟨b, o, e, -, c0, c1⟩ := RdK.pair (HH.out.kept HB.out) hx'
      subst e
      obtain ⟨b', o', e', -, d0, d1⟩ := RdK.pair (HH'.out.kept HB.out) hy'
      subst e'
      have HX := Lib.hid hx'
      have HY := Lib.hid hy'
      by_cases hxy : x = y
      · have hne : ∀ w, (binOp .neq 42 (.agg #[.string x.1, .string x.2]) (.agg #[.string y.1, .string y.2])).run Try.prog w = .ok (.bool false) w := fun w => (pr_ne x y w).trans (by simp [hxy])
        have HE2 : Hid (∀ i, i < k + 1 → L[i]? = L'[i]?) := fun i hi => by
          by_cases e : i = k
          · subst e
            rw [HX.out, HY.out, hxy]
          · exact HE.out i (by omega)
        clear hxy
        have z0 := fun q : Drift.Tide [] wr [] => Drift.Tide.cell c0 (by simp) q
        have z1 := fun q : Drift.Tide [] wr [] => Drift.Tide.cell c1 (by simp) q
        have x0 := fun q : Drift.Tide [] wr [] => Drift.Tide.cell d0 (by simp) q
        have x1 := fun q : Drift.Tide [] wr [] => Drift.Tide.cell d1 (by simp) q
        have hw2 : IntKind.i64.wrap ((k : Int) + 1) = ((k + 1 : Nat) : Int) := by rw [IntKind.wrap_i64]; omega
        clear c0 c1 d0 d1 hx hy hx' hy' hj hj'
        go_upto_region 6 with fail
        refine Drift.wp_region_drift [] [(0,[]),(1,[]),(2,[]),(3,[]),(4,[]),(5,[]),(6,[]),(7,[]),(8,[])] [] [] (by kernel_rfl) (by kernel_rfl) (by simp) ?_
        simp only [Drift.pick, Drift.opsAt, List.getElem?_toArray, List.getElem?_cons_zero, List.getElem?_cons_succ, List.cons_append, List.nil_append, List.filterMap_nil]
        repeat (refine Drift.walk_step (fun K hK => ?_); go_simp; (refine hK _ ?_; clear hK K))
        refine Drift.walk_nil ?_
        intro w2 hb _
        have HB2 := Lib.hid (HB.out.trans (hb.mono HB.out.size))
        clear z0 z1 x0 x1 hb HB hne
        simp only [List.length_cons, List.length_nil, List.drop_succ_cons, List.drop_nil, Nat.zero_add, Nat.reduceAdd]
        go_wp2_with fail
        go_roundg (n - (k + 1))
        case measure => omega
        case rel => exact ⟨k + 1, hlt, rfl, by go_num, HE2, HB2⟩
      · have hne : ∀ w, (binOp .neq 42 (.agg #[.string x.1, .string x.2]) (.agg #[.string y.1, .string y.2])).run Try.prog w = .ok (.bool true) w := fun w => (pr_ne x y w).trans (by simp [hxy])
        have HN2 : Hid (¬ L = L') := fun e => hxy (by
          have h1 := HX.out
          rw [e, HY.out] at h1
          exact (Option.some.inj h1).symm)
        clear hxy
        have z0 := fun q : Drift.Tide [] wr [] => Drift.Tide.cell c0 (by simp) q
        have z1 := fun q : Drift.Tide [] wr [] => Drift.Tide.cell c1 (by simp) q
        have x0 := fun q : Drift.Tide [] wr [] => Drift.Tide.cell d0 (by simp) q
        have x1 := fun q : Drift.Tide [] wr [] => Drift.Tide.cell d1 (by simp) q
        have hw2 : IntKind.i64.wrap ((k : Int) + 1) = ((k + 1 : Nat) : Int) := by rw [IntKind.wrap_i64]; omega
        clear c0 c1 d0 d1 hx hy hx' hy' hj hj'
        go_upto_region 6 with fail
        refine Drift.wp_region_drift [] [(0,[]),(1,[]),(2,[]),(3,[]),(4,[]),(5,[]),(6,[]),(7,[]),(8,[])] [] [] (by kernel_rfl) (by kernel_rfl) (by simp) ?_
        simp only [Drift.pick, Drift.opsAt, List.getElem?_toArray, List.getElem?_cons_zero, List.getElem?_cons_succ, List.cons_append, List.nil_append, List.filterMap_nil]
        repeat (refine Drift.walk_step (fun K hK => ?_); go_simp; (refine hK _ ?_; clear hK K))
        refine Drift.walk_nil ?_
        intro w2 hb _
        have HB2 := Lib.hid (HB.out.trans (hb.mono HB.out.size))
        clear z0 z1 x0 x1 hb HB hne
        simp only [List.length_cons, List.length_nil, List.drop_succ_cons, List.drop_nil, Nat.zero_add, Nat.reduceAdd]
        go_wp2_with fail
        go_ret
        exact ⟨⟨false, rfl, by simpa using HN2.out⟩, HB2.out⟩
    · have HR : Hid (L = L') := by
        refine List.ext_getElem? fun i => ?_
        by_cases hi : i < k
        · exact HE.out i hi
        · rw [List.getElem?_eq_none (by rw [← HN.out]; omega), List.getElem?_eq_none (by rw [← HN'.out]; omega)]
      obtain rfl : k = n := by omega
      clear hlt
      go_wp2_with fail
      go_ret
      exact ⟨⟨true, rfl, by simpa using HR.out⟩, HB.out⟩
end Lf
end Go.Proofs.Ytgpbioljldkmaaa

namespace Go.Proofs.Ytgpbioljldkmaaa
open Go.RowKit
namespace No
open Mem Lx Bu Lf Fa
/-- settings -/
structure Cfg where
  blocks : Int
  bytes : Int
  frames : Int
  fan : Int
  buffer : Int
  leaf : Int
  key : Int
  val : Int
def cfCs (c : Cfg) : Array Value := #[.int .i64 c.blocks, .int .i64 c.bytes, .int .i64 c.frames, .int .i64 c.fan, .int .i64 c.buffer, .int .i64 c.leaf, .int .i64 c.key, .int .i64 c.val]
def keyB (c : Cfg) (k : ByteArray) : Bool := decide (1 ≤ (k.size : Int)) && decide ((k.size : Int) ≤ c.key)
def PrOk (c : Cfg) (lo hi : ByteArray) (top : Bool) (p : Pr) : Prop := keyB c p.1 = true ∧ inB lo hi top p.1 = true ∧ (p.2.size : Int) ≤ c.val
structure OuterP (c : Cfg) (lo hi : ByteArray) (top : Bool) (n : Nd) : Prop where
  each : ∀ p, p ∈ n.prs → PrOk c lo hi top p
  kids : n.kids.length = 0
  piv : n.piv.length = 0
  buf : n.buf.length = 0
  few : (n.prs.length : Int) ≤ c.leaf
  rise : PRise n.prs
def MsOk (c : Cfg) (lo hi : ByteArray) (top : Bool) (m : Mg) : Prop := keyB c m.1 = true ∧ inB lo hi top m.1 = true ∧ (m.2.2.size : Int) ≤ c.val ∧ ¬ (m.2.1 = true ∧ m.2.2 ≠ ⟨#[]⟩)
def KidsOk (c : Cfg) (K : List Nat) : Prop := ∀ (i k : Nat), K[i]? = some k → (k ≠ 0 ∧ (k : Int) < c.blocks) ∧ ∀ (j m : Nat), j < i → K[j]? = some m → m ≠ k
structure InnerP (c : Cfg) (lo hi : ByteArray) (top : Bool) (n : Nd) : Prop where
  kids : KidsOk c n.kids
  piv : ∀ p, p ∈ n.piv → keyB c p = true
  buf : ∀ m, m ∈ n.buf → MsOk c lo hi top m
  lv : n.lv ≤ 40
  prs : n.prs.length = 0
  one : 1 ≤ n.kids.length
  fan : (n.kids.length : Int) ≤ c.fan
  fewer : n.piv.length + 1 = n.kids.length
  right : RightS n.piv lo hi top
  few : (n.buf.length : Int) ≤ c.buffer
  rise : Bu.Rise n.buf
def RightN (c : Cfg) (lo hi : ByteArray) (top : Bool) (n : Nd) : Prop := (n.lv = 0 → OuterP c lo hi top n) ∧ (n.lv ≠ 0 → 0 < n.lv ∧ InnerP c lo hi top n)
theorem box8 {w : World} {b : Nat} {c0 c1 c2 c3 c4 c5 c6 c7 : Value} {U : TypeId} (h : w.heap[b]? = some (.cells #[c0, c1, c2, c3, c4, c5, c6, c7] U (0, 0))) : w.cell? ⟨b, 0, none⟩ = some c0 ∧ w.cell? ⟨b, 1, none⟩ = some c1 ∧ w.cell? ⟨b, 2, none⟩ = some c2 ∧ w.cell? ⟨b, 3, none⟩ = some c3 ∧ w.cell? ⟨b, 4, none⟩ = some c4 ∧ w.cell? ⟨b, 5, none⟩ = some c5 ∧ w.cell? ⟨b, 6, none⟩ = some c6 ∧ w.cell? ⟨b, 7, none⟩ = some c7 := by
  simp [World.cell?, h]
/-- three boxes: settings, a span, a node -/
structure B3 (W : World) (g : Nat) (X Y Z : Obj) (w : World) : Prop where
  below : Below W.heap.size W w
  at_ : W.heap.size ≤ g
  x : w.heap[g]? = some X
  y : w.heap[g + 1]? = some Y
  z : w.heap[g + 2]? = some Z
theorem B3.kept {W : World} {g : Nat} {X Y Z : Obj} {w w' : World} (h : B3 W g X Y Z w) (hb : Below w.heap.size w w') : B3 W g X Y Z w' := ⟨h.below.trans (hb.mono h.below.size), h.at_, kept3 h.x hb, kept3 h.y hb, kept3 h.z hb⟩
theorem B3.new (W : World) (X Y Z : Obj) : B3 W W.heap.size X Y Z (((W.alloc X).alloc Y).alloc Z) := by
  have h2 := two_new W X Y
  have hb3 : Below ((W.alloc X).alloc Y).heap.size ((W.alloc X).alloc Y) (((W.alloc X).alloc Y).alloc Z) := (Below.refl _ _).alloc (Nat.le_refl _) _
  refine ⟨h2.2.2.trans (hb3.mono h2.2.2.size), Nat.le_refl _, kept3 h2.1 hb3, kept3 h2.2.1 hb3, ?_⟩
  have := heap_alloc_new ((W.alloc X).alloc Y) Z
  simpa using this
end No
end Go.Proofs.Ytgpbioljldkmaaa

namespace Go.Proofs.Ytgpbioljldkmaaa
open Go.RowKit
namespace Cf
theorem box8 {w : World} {b : Nat} {v0 v1 v2 v3 v4 v5 v6 v7 : Value} {U : TypeId} (h : w.heap[b]? = some (.cells #[v0, v1, v2, v3, v4, v5, v6, v7] U (0, 0))) : w.cell? ⟨b, 0, none⟩ = some v0 ∧ w.cell? ⟨b, 1, none⟩ = some v1 ∧ w.cell? ⟨b, 2, none⟩ = some v2 ∧ w.cell? ⟨b, 3, none⟩ = some v3 ∧ w.cell? ⟨b, 4, none⟩ = some v4 ∧ w.cell? ⟨b, 5, none⟩ = some v5 ∧ w.cell? ⟨b, 6, none⟩ = some v6 ∧ w.cell? ⟨b, 7, none⟩ = some v7 := by
  simp [World.cell?, h]
theorem kept8 {w w' : World} {b : Nat} {o : Obj} (h : w.heap[b]? = some o) (hb : Below w.heap.size w w') : w'.heap[b]? = some o := (hb.block b (Array.getElem?_eq_some_iff.1 h).1).trans h
theorem bel2 {W w w' : World} (h : Below W.heap.size W w) (hb : Below w.heap.size w w') : Below W.heap.size W w' := h.trans (hb.mono h.size)
/-- the settings that say what a node may have are right -/
def Shape (fa bu le ke va : Int) : Prop := (8 ≤ fa ∧ fa ≤ 64) ∧ (2 * fa ≤ bu ∧ bu ≤ 512) ∧ (bu ≤ le ∧ le ≤ 1024) ∧ (1 ≤ ke ∧ ke ≤ 64) ∧ (0 ≤ va ∧ va ≤ 256)
end Cf
end Go.Proofs.Ytgpbioljldkmaaa

namespace Go.Proofs.Ytgpbioljldkmaaa
open Go.RowKit
namespace Cf
def inn (fa bu ke va : Int) : Int := 8 + 4 * fa + (fa - 1) * (1 + ke) + bu * (4 + ke + va)
def out (le ke va : Int) : Int := 8 + le * (3 + ke + va)
theorem mul_in {a c A C : Int} (h0 : 0 ≤ a) (h1 : a ≤ A) (h2 : 0 ≤ c) (h3 : c ≤ C) : 0 ≤ a * c ∧ a * c ≤ A * C :=
  ⟨Int.mul_nonneg h0 h2, Int.mul_le_mul h1 h3 h2 (Int.le_trans h0 h1)⟩
/-- the fewest bytes -/
def few (fa bu le ke va : Int) : Int := max (max 64 (inn fa bu ke va)) (out le ke va)
end Cf
end Go.Proofs.Ytgpbioljldkmaaa
namespace Go.Proofs.Ytgpbioljldkmaaa
open Go.RowKit
namespace Cf
/-- settings are right -/
def Right (b y fr fa bu le ke va : Int) : Prop := Shape fa bu le ke va ∧ (5 ≤ b ∧ b ≤ 65536) ∧ (8 ≤ fr ∧ fr ≤ 64) ∧ (few fa bu le ke va ≤ y ∧ y ≤ 65536)
end Cf
end Go.Proofs.Ytgpbioljldkmaaa

namespace Go.Proofs.Ytgpbioljldkmaaa
open Go.RowKit
namespace No
open Mem Lx Bu Lf Fa
open Wd (be val be_length val_be)
/-- bytes 0 -/
def zs (n : Int) : List UInt8 := List.replicate n.toNat 0
theorem zs_len (n : Int) : (zs n).length = n.toNat := List.length_replicate
/-- a text's bytes -/
def txt (s : ByteArray) : List UInt8 := s.data.toList
theorem txt_len (s : ByteArray) : (txt s).length = s.size := rfl
theorem strOf_txt (s : ByteArray) : strOf (txt s) = s := rfl
theorem txt_strOf (l : List UInt8) : txt (strOf l) = l := rfl
/-- bytes, and noughts up to so many -/
def slotL (l : List UInt8) (most : Int) : List UInt8 := l ++ zs (most - l.length)
theorem slotL_len {l : List UInt8} {most : Int} (h : (l.length : Int) ≤ most) : (slotL l most).length = most.toNat := by
  unfold slotL
  rw [List.length_append, zs_len]
  omega
def pairL (c : Cfg) (key v : ByteArray) : List UInt8 := be 1 key.size ++ (be 2 v.size ++ (slotL (txt key) c.key ++ slotL (txt v) c.val))
def pvL (c : Cfg) (p : ByteArray) : List UInt8 := be 1 p.size ++ slotL (txt p) c.key
def kindB (d : Bool) : UInt8 := if d then 2 else 1
def msL (c : Cfg) (m : Mg) : List UInt8 := [kindB m.2.1] ++ pairL c m.1 m.2.2
def leafL (c : Cfg) (n : Nd) : List UInt8 := [1, 0] ++ (be 2 n.prs.length ++ (zs 4 ++ n.prs.flatMap fun x => pairL c x.1 x.2))
def innL (c : Cfg) (n : Nd) : List UInt8 := [2] ++ (be 1 n.lv.toNat ++ (be 2 n.kids.length ++ (be 2 n.buf.length ++ (zs 2 ++ (n.kids.flatMap (be 4) ++ (zs (4 * (c.fan - n.kids.length)) ++ (n.piv.flatMap (pvL c) ++ (zs ((1 + c.key) * (c.fan - 1 - n.piv.length)) ++ n.buf.flatMap (msL c)))))))))
def bodyL (c : Cfg) (n : Nd) : List UInt8 := if n.lv = 0 then leafL c n else innL c n
def blockL (c : Cfg) (n : Nd) : List UInt8 := slotL (bodyL c n) c.bytes
/-- right for the settings and all keys, the settings right -/
def RightA (c : Cfg) (n : Nd) : Prop := Cf.Right c.blocks c.bytes c.frames c.fan c.buffer c.leaf c.key c.val ∧ RightN c ⟨#[]⟩ ⟨#[]⟩ true n
/-! ### lists of chunks -/
section
variable {α : Type} {f : α → List UInt8} {S : Nat} {L : List α}
theorem chunk_len (hS : ∀ x ∈ L, (f x).length = S) : (L.flatMap f).length = L.length * S := by
  induction L with
  | nil => simp
  | cons x xs ih =>
    rw [List.flatMap_cons, List.length_append, ih (fun y hy => hS y (List.mem_cons_of_mem _ hy)), hS x List.mem_cons_self, List.length_cons, Nat.succ_mul, Nat.add_comm]
theorem chunk_drop (hS : ∀ x ∈ L, (f x).length = S) : ∀ {k : Nat} {x : α}, L[k]? = some x → ∃ R, (L.flatMap f).drop (k * S) = f x ++ R := by
  induction L with
  | nil => intro k x h; simp at h
  | cons y ys ih =>
    intro k x h
    cases k with
    | zero =>
      obtain rfl : y = x := by simpa using h
      exact ⟨ys.flatMap f, by simp⟩
    | succ k =>
      obtain ⟨R, hR⟩ := ih (fun z hz => hS z (List.mem_cons_of_mem _ hz)) (k := k) (x := x) (by simpa using h)
      refine ⟨R, ?_⟩
      rw [List.flatMap_cons, Nat.succ_mul, Nat.add_comm, ← List.drop_drop, List.drop_left' (hS y List.mem_cons_self), hR]
/-- what lies at a chunk's place -/
theorem chunk_at (hS : ∀ x ∈ L, (f x).length = S) (A R : List UInt8) {a k : Nat} {x : α} (ha : A.length = a) (hx : L[k]? = some x) : ∃ R', (A ++ (L.flatMap f ++ R)).drop (a + k * S) = f x ++ R' := by
  obtain ⟨R', h⟩ := chunk_drop hS hx
  refine ⟨R' ++ R, ?_⟩
  have hk : k < L.length := (List.getElem?_eq_some_iff.1 hx).1
  have hl := chunk_len hS
  have hm : k * S ≤ L.length * S := Nat.mul_le_mul_right _ (Nat.le_of_lt hk)
  rw [← List.drop_drop, List.drop_left' ha, List.drop_append_of_le_length (by omega), h, List.append_assoc]
end
/-! ### bytes read -/
def atL (b : List UInt8) (i w : Nat) : Nat := val ((b.drop i).take w)
def subL (b : List UInt8) (i n : Nat) : List UInt8 := (b.drop i).take n
theorem at_be {b R : List UInt8} {i w v : Nat} (h : b.drop i = be w v ++ R) (hv : v < 256 ^ w) : atL b i w = v := by
  unfold atL
  rw [h, List.take_left' (be_length w v), val_be, Nat.mod_eq_of_lt hv]
theorem drop_more {b X R : List UInt8} {i j : Nat} (h : b.drop i = X ++ R) (hj : X.length = j) : b.drop (i + j) = R := by
  rw [← List.drop_drop, h, List.drop_left' hj]
theorem sub_slot {b R : List UInt8} {i : Nat} {s : ByteArray} {most : Int} (h : b.drop i = slotL (txt s) most ++ R) : strOf (subL b i s.size) = s := by
  unfold subL slotL at *
  rw [h, List.append_assoc, List.take_left' (txt_len s)]
  exact strOf_txt s
/-- the pair at a place -/
def prAt (c : Cfg) (b : List UInt8) (i : Nat) : Pr := (strOf (subL b (i + 3) (atL b i 1)), strOf (subL b (i + 3 + c.key.toNat) (atL b (i + 1) 2)))
theorem pair_at {c : Cfg} {b R : List UInt8} {i : Nat} {key v : ByteArray} (h : b.drop i = pairL c key v ++ R) (hk : key.size < 256) (hv : v.size < 65536) (hk2 : (key.size : Int) ≤ c.key) : prAt c b i = (key, v) := by
  unfold pairL at h
  simp only [List.append_assoc] at h
  have h1 := drop_more h (be_length 1 _)
  have h2 := drop_more h1 (be_length 2 _)
  have h3 := drop_more h2 (slotL_len (by rw [txt_len]; exact hk2))
  unfold prAt
  rw [at_be h (by omega), at_be h1 (by omega)]
  refine Prod.ext ?_ ?_
  · exact sub_slot h2
  · exact sub_slot h3
/-- the pivot at a place -/
def pvAt (b : List UInt8) (i : Nat) : ByteArray := strOf (subL b (i + 1) (atL b i 1))
theorem piv_at {c : Cfg} {b R : List UInt8} {i : Nat} {p : ByteArray} (h : b.drop i = pvL c p ++ R) (hk : p.size < 256) : pvAt b i = p := by
  unfold pvL at h
  simp only [List.append_assoc] at h
  have h1 := drop_more h (be_length 1 _)
  unfold pvAt
  rw [at_be h (by omega)]
  exact sub_slot h1
/-- the message at a place -/
def msAt (c : Cfg) (b : List UInt8) (i : Nat) : Mg := (strOf (subL b (i + 4) (atL b (i + 1) 1)), decide (atL b i 1 = 2), strOf (subL b (i + 4 + c.key.toNat) (atL b (i + 2) 2)))
theorem msg_at {c : Cfg} {b R : List UInt8} {i : Nat} {m : Mg} (h : b.drop i = msL c m ++ R) (hk : m.1.size < 256) (hv : m.2.2.size < 65536) (hk2 : (m.1.size : Int) ≤ c.key) : msAt c b i = m := by
  unfold msL at h
  simp only [List.append_assoc] at h
  have h1 := drop_more (j := 1) h rfl
  have hp := pair_at h1 hk hv hk2
  have hd : atL b i 1 = (kindB m.2.1).toNat := by
    unfold atL
    rw [h]
    simp [val]
  obtain ⟨key, d, v⟩ := m
  unfold prAt at hp
  unfold msAt
  simp only [Prod.mk.injEq] at hp ⊢
  rw [hd]
  refine ⟨by rw [show i + 4 = i + 1 + 3 by omega]; exact hp.1, ?_, by rw [show i + 4 + c.key.toNat = i + 1 + 3 + c.key.toNat by omega, show i + 2 = i + 1 + 1 by omega]; exact hp.2⟩
  cases d <;> rfl
/-! ### how long -/
theorem pairL_len {c : Cfg} {key v : ByteArray} (hk : (key.size : Int) ≤ c.key) (hv : (v.size : Int) ≤ c.val) : (pairL c key v).length = 3 + c.key.toNat + c.val.toNat := by
  unfold pairL
  simp only [List.length_append, be_length]
  rw [slotL_len (by rw [txt_len]; exact hk), slotL_len (by rw [txt_len]; exact hv)]
  omega
theorem pvL_len {c : Cfg} {p : ByteArray} (hk : (p.size : Int) ≤ c.key) : (pvL c p).length = 1 + c.key.toNat := by
  unfold pvL
  simp only [List.length_append, be_length]
  rw [slotL_len (by rw [txt_len]; exact hk)]
theorem msL_len {c : Cfg} {m : Mg} (hk : (m.1.size : Int) ≤ c.key) (hv : (m.2.2.size : Int) ≤ c.val) : (msL c m).length = 4 + c.key.toNat + c.val.toNat := by
  unfold msL
  rw [List.length_append, pairL_len hk hv]
  simp
  omega
/-- how many of so many chunks there is room for -/
def manyF (cnt i S len : Nat) : Nat := min cnt ((len - i) / S)
theorem many_all {cnt i S len : Nat} (hS : 0 < S) (h : i + cnt * S ≤ len) : manyF cnt i S len = cnt := by
  unfold manyF
  refine Nat.min_eq_left ((Nat.le_div_iff_mul_le hS).2 (by omega))
theorem range_map {α : Type} {L : List α} {g : Nat → α} (h : ∀ k x, L[k]? = some x → g k = x) : (List.range L.length).map g = L := by
  refine List.ext_getElem? fun k => ?_
  rw [List.getElem?_map]
  rcases Nat.lt_or_ge k L.length with hk | hk
  · rw [List.getElem?_range hk, List.getElem?_eq_getElem hk, Option.map_some, h k _ (List.getElem?_eq_getElem hk)]
  · rw [List.getElem?_eq_none (by simpa using hk), List.getElem?_eq_none hk]
    rfl
/-- the only node that bytes could be -/
def candN (c : Cfg) (b : List UInt8) : Nd :=
  if atL b 1 1 = 0 then ⟨0, [], [], [], (List.range (manyF (atL b 2 2) 8 (3 + c.key.toNat + c.val.toNat) b.length)).map fun k => prAt c b (8 + k * (3 + c.key.toNat + c.val.toNat))⟩
  else ⟨atL b 1 1, (List.range (min (atL b 2 2) c.fan.toNat)).map fun k => atL b (8 + k * 4) 4, (List.range (min (atL b 2 2 - 1) (c.fan.toNat - 1))).map fun k => pvAt b (8 + 4 * c.fan.toNat + k * (1 + c.key.toNat)),
    (List.range (manyF (atL b 4 2) (8 + 4 * c.fan.toNat + (1 + c.key.toNat) * (c.fan.toNat - 1)) (4 + c.key.toNat + c.val.toNat) b.length)).map fun k => msAt c b (8 + 4 * c.fan.toNat + (1 + c.key.toNat) * (c.fan.toNat - 1) + k * (4 + c.key.toNat + c.val.toNat)), []⟩
end No
end Go.Proofs.Ytgpbioljldkmaaa
