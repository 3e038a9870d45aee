/-
  FanRightC, FanWayC, NodeK, NodeK2, Hvy, HvyC, HvyD, HvyS, NodeR1, SlCloneK, SlCloneS, BufRS, PourC4, ConfD, ConfD2. Put together by pack.py.
-/
import Derived.Test.YtlabbmfiecbigaaPkAG
import Derived.Test.YtlabbmfiecbigaaPkAE
import Derived.Test.YtlabbmfiecbigaaDrift
import Derived.Test.YtlabbmfiecbigaaPkAL
import Derived.Test.YtlabbmfiecbigaaPkAH
import Derived.Deep.RegionWith
import Derived.Test.YtlabbmfiecbigaaPkAC
import Derived.Test.YtlabbmfiecbigaaPkAA
import Derived.StillTailTactics
import Derived.Deep.QuietTactic
import Derived.Test.YtlabbmfiecbigaaPkAJ
import Derived.Deep.DeepCutAuto
import Derived.Deep.CutBlock
import Derived.Test.YtlabbmfiecbigaaPkAI
import Derived.Test.YtlabbmfiecbigaaChecked
import Derived.WalkKit
import Derived.WalkLawsBesides
import Derived.KernelRfl
import Derived.WalkSpells
import Derived.BigQuiet
import Derived.Lib.Hide

namespace Go.Proofs.Ytlabbmfiecbigaa
open Go.RowKit
namespace Fa
open Mem Lx Bu
/-- what stands ahead of place i: the span's front, or the pivot there -/
def ahdS (L : List ByteArray) (lo : ByteArray) : Nat → ByteArray
  | 0 => lo
  | i + 1 => (L[i]?).getD lo
theorem right_iff {L : List ByteArray} {lo hi : ByteArray} {top : Bool} : RightS L lo hi top ↔ ∀ (i : Nat) (x : ByteArray), L[i]? = some x → cmpB (ahdS L lo i) x < 0 ∧ inB lo hi top x = true := by
  constructor
  · rintro ⟨h1, h2⟩ i x hx
    have h3 := h1 x (List.mem_of_getElem? hx)
    refine ⟨?_, h3.1⟩
    cases i with
    | zero =>
      show cmpB lo x < 0
      have h4 := (inB_iff.1 h3.1).1
      rcases cmpB_tri lo x with h5 | h5 | h5
      · exact h5
      · exact absurd h5.symm h3.2
      · have := cmpB_neg lo x
        omega
    | succ i =>
      obtain ⟨y, hy⟩ : ∃ y, L[i]? = some y := ⟨L[i]'(by have := (List.getElem?_eq_some_iff.1 hx).1; omega), List.getElem?_eq_getElem _⟩
      show cmpB ((L[i]?).getD lo) x < 0
      rw [hy]
      exact h2 i y x hy hx
  · intro h
    have hr : SRise L := fun i a b ha hb => by
      have this : cmpB ((L[i]?).getD lo) b < 0 := (h (i + 1) b hb).1
      rw [ha] at this
      exact this
    refine ⟨fun p hp => ?_, hr⟩
    obtain ⟨i, hi⟩ := List.mem_iff_getElem?.1 hp
    refine ⟨(h i p hi).2, ?_⟩
    obtain ⟨x0, h0⟩ : ∃ x0, L[0]? = some x0 := ⟨L[0]'(by have := (List.getElem?_eq_some_iff.1 hi).1; omega), List.getElem?_eq_getElem _⟩
    have h1 := (h 0 _ h0).1
    rcases Nat.eq_zero_or_pos i with rfl | h2
    · rw [hi] at h0
      cases h0
      exact (cmpB_ne h1).symm
    · exact (cmpB_ne (cmpB_trans h1 ((srise_iff.1 hr).at_ h0 hi h2))).symm
end Fa
end Go.Proofs.Ytlabbmfiecbigaa

namespace Go.Proofs.Ytlabbmfiecbigaa
open Go.RowKit
namespace Fa
open Mem Lx Bu
/-- where a key stands, or would stand -/
structure Lb (L : List ByteArray) (key : ByteArray) (p : Nat) : Prop where
  le : p ≤ L.length
  lo : ∀ (i : Nat) (m : ByteArray), i < p → L[i]? = some m → cmpB m key < 0
  hi : ∀ (i : Nat) (m : ByteArray), p ≤ i → L[i]? = some m → 0 ≤ cmpB m key
theorem Lb.way {L : List ByteArray} (hr : SRi L) {key : ByteArray} {p : Nat} (h : Lb L key p) (b : Bool) (hb : b = true ↔ L[p]? = some key) : wayS L key = if b = true then p + 1 else p := by
  have hle := h.le
  cases b with
  | true =>
    have hp := hb.1 rfl
    have hlt := (List.getElem?_eq_some_iff.1 hp).1
    rw [if_pos rfl]
    refine ((hr.way_is key (p + 1) (by omega)).1 ⟨fun q _ hq => ?_, fun q hq => ?_⟩).symm
    · rw [Nat.add_sub_cancel, hp] at hq
      cases hq
      rw [cmpB_self]
      omega
    · exact hr.at_ hp hq (by omega)
  | false =>
    rw [if_neg (by simp)]
    refine ((hr.way_is key p hle).1 ⟨fun q h0 hq => ?_, fun q hq => ?_⟩).symm
    · have := h.lo (p - 1) q (by omega) hq
      omega
    · have h1 := h.hi p q (Nat.le_refl _) hq
      have h2 := cmpB_neg key q
      rcases cmpB_tri key q with h3 | h3 | h3
      · exact h3
      · subst h3
        exact absurd (hb.2 hq) (by simp)
      · omega
theorem SRi.lower {L : List ByteArray} (h : SRi L) {key : ByteArray} {j : Nat} {y : ByteArray} (hy : L[j]? = some y) (hk : cmpB y key < 0) : ∀ (i : Nat) (m : ByteArray), i < j + 1 → L[i]? = some m → cmpB m key < 0 := fun i m hi hm => by
  rcases Nat.lt_or_ge i j with hij | hij
  · exact cmpB_trans (h.at_ hm hy hij) hk
  · obtain rfl : i = j := by omega
    rw [hy] at hm
    cases hm
    exact hk
theorem SRi.upper {L : List ByteArray} (h : SRi L) {key : ByteArray} {j : Nat} {y : ByteArray} (hy : L[j]? = some y) (hk : 0 ≤ cmpB y key) : ∀ (i : Nat) (m : ByteArray), j ≤ i → L[i]? = some m → 0 ≤ cmpB m key := fun i m hi hm => by
  rcases Nat.lt_or_ge j i with hij | hij
  · have h1 := h.at_ hy hm hij
    rcases Int.lt_or_le (cmpB m key) 0 with h2 | h2
    · have := cmpB_trans h1 h2
      omega
    · exact h2
  · obtain rfl : i = j := by omega
    rw [hy] at hm
    cases hm
    exact hk
end Fa
end Go.Proofs.Ytlabbmfiecbigaa

namespace Go.Proofs.Ytlabbmfiecbigaa
open Go.RowKit
namespace No
open Mem Lx Bu Lf Fa
/-- how many messages go one way -/
def loadN (P : List ByteArray) (B : List Mg) (i : Int) : Nat := (B.filter fun m => decide ((wayS P m.1 : Int) = i)).length
theorem loadN_next {P : List ByteArray} {B : List Mg} {i : Int} {k : Nat} {m : Mg} (hm : B[k]? = some m) : loadN P (B.take (k + 1)) i = loadN P (B.take k) i + if (wayS P m.1 : Int) = i then 1 else 0 := by
  have hk := (List.getElem?_eq_some_iff.1 hm).1
  have e : B[k] = m := (List.getElem?_eq_some_iff.1 hm).2
  unfold loadN
  rw [List.take_succ_eq_append_getElem hk, List.filter_append, List.length_append, e]
  by_cases h : (wayS P m.1 : Int) = i <;> simp [h]
theorem loadN_le (P : List ByteArray) (B : List Mg) (i : Int) : loadN P B i ≤ B.length := List.length_filter_le _ _
end No
end Go.Proofs.Ytlabbmfiecbigaa

namespace Go.Proofs.Ytlabbmfiecbigaa
open Go.RowKit
namespace No
open Mem Lx Bu
open Lf (Pr PrK PL P3 PC)
open Fa (StK SL SC wayS SRise RightS)
/-- the first of so many that none has more than -/
def heavN (f : Nat → Nat) : Nat → Nat
  | 0 => 0
  | k + 1 => if f (heavN f k) < f k then k else heavN f k
theorem heavN_lt (f : Nat → Nat) : ∀ {n : Nat}, 0 < n → heavN f n < n
  | 0, h => absurd h (Nat.lt_irrefl _)
  | 1, _ => by simp [heavN]
  | n + 2, _ => by
    have := heavN_lt f (n := n + 1) (by omega)
    rw [heavN]
    split <;> omega
theorem heavN_top (f : Nat → Nat) : ∀ (n i : Nat), i < n → f i ≤ f (heavN f n)
  | 0, i, h => absurd h (Nat.not_lt_zero _)
  | n + 1, i, h => by
    rw [heavN]
    by_cases hc : f (heavN f n) < f n
    · rw [if_pos hc]
      rcases Nat.lt_or_ge i n with h1 | h1
      · have := heavN_top f n i h1
        omega
      · obtain rfl : i = n := by omega
        exact Nat.le_refl _
    · rw [if_neg hc]
      rcases Nat.lt_or_ge i n with h1 | h1
      · exact heavN_top f n i h1
      · obtain rfl : i = n := by omega
        omega
theorem heavN_first (f : Nat → Nat) : ∀ (n i : Nat), i < heavN f n → f i < f (heavN f n)
  | 0, i, h => absurd h (Nat.not_lt_zero _)
  | n + 1, i, h => by
    rw [heavN] at h ⊢
    by_cases hc : f (heavN f n) < f n
    · rw [if_pos hc] at h ⊢
      have := heavN_top f n i h
      omega
    · rw [if_neg hc] at h ⊢
      exact heavN_first f n i h
def ldN (n : Nd) (i : Nat) : Nat := loadN n.piv n.buf (i : Int)
/-- does a kid stand ahead of another one -/
def aheadN (f : Nat → Nat) (i k : Nat) : Bool := decide (f k < f i) || (decide (f i = f k) && decide (i < k))
/-- its messages go somewhere -/
def PlainN (n : Nd) : Prop := Rise n.buf ∧ SRise n.piv ∧ n.piv.length + 1 = n.kids.length
end No
end Go.Proofs.Ytlabbmfiecbigaa

namespace Go.Proofs.Ytlabbmfiecbigaa
open Go.RowKit
namespace No
open Mem Lx Bu Lf Fa Hp
section
variable {f : Nat → Nat} {w w' : World} {A : Option Addr} {B c g i j : Nat} {L : List Nat} {x y : Nat}
/-- a kid laid at place p -/
def stW (f : Nat → Nat) (w : World) (g p x : Nat) : World := (w.setCell ⟨g, p * 2, none⟩ (.int .i64 (x : Int))).setCell ⟨g, p * 2 + 1, none⟩ (.int .i64 (f x : Int))
theorem into_set1 {g k : Nat} {S : List Nat} (w : World) (v : Value) (hg : g ∈ S) : Flow.Into S w (w.setCell ⟨g, k, none⟩ v) := ⟨rfl, rfl, rfl, by simp [World.setCell], fun i _ hn => Below.heap_setCell _ _ _ _ (fun e => hn (by rw [show i = g from e]; exact hg))⟩
theorem into_stW (w : World) (g p x : Nat) : Flow.Into [g] w (stW f w g p x) := (into_set1 w _ (by simp)).trans (into_set1 _ _ (by simp))
theorem swp_set {i j x y : Nat} (hx : L[i]? = some x) (hy : L[j]? = some y) : (L.set i y).set j x = swp L i j := by
  unfold swp
  rw [gt_some hx, gt_some hy]
end
section
variable {f : Nat → Nat} {w w' : World} {A : Option Addr} {B b c g i j : Nat} {L : List Nat} {x y : Nat}
end
end No
end Go.Proofs.Ytlabbmfiecbigaa

namespace Go.Proofs.Ytlabbmfiecbigaa
open Go.RowKit
namespace No
open Mem Lx Bu Lf Fa Hp
theorem below_dnH (w : World) (m : Nat) : Below w.heap.size w (w.drewN m) := ⟨rfl, rfl, rfl, Nat.le_refl _, fun _ _ => rfl⟩
section
variable {f : Nat → Nat} {w : World} {A : Option Addr} {B b c g i j : Nat} {L : List Nat} {x y : Nat}
/-- the block of its row -/
def rowS (A : Option Addr) : List Nat := A.toList.map (·.block)
theorem rowS_in {A : Option Addr} {a : Addr} (h : A = some a) : a.block ∈ rowS A := by subst h; simp [rowS]
theorem rowS_of {A : Option Addr} {k : Nat} (h : k ∈ rowS A) : ∃ a, A = some a ∧ a.block = k := by
  cases A with
  | none => simp [rowS] at h
  | some a => exact ⟨a, rfl, by simpa [rowS, eq_comm] using h⟩
end
end No
end Go.Proofs.Ytlabbmfiecbigaa

namespace Go.Proofs.Ytlabbmfiecbigaa
open Go.RowKit
namespace Mem
/-- its front: the same row, as fewer -/
theorem VK.upTo {α : Type} {K : Kind α} {w : World} {B c : Nat} {A : Option Addr} {L : List α} (h : VK K w B A c L) (m : Nat) (hm : m ≤ L.length) : VK K w B A c (L.take m) := by
  have hl : (L.take m).length = m := by simp; omega
  have e : (L.flatMap K.cs).take (m * K.k) = (L.take m).flatMap K.cs := by
    have e2 : L.flatMap K.cs = (L.take m).flatMap K.cs ++ (L.drop m).flatMap K.cs := by rw [← List.flatMap_append, List.take_append_drop]
    rw [e2, List.take_left' (by rw [K.all_len, hl])]
  obtain ⟨h1, h2⟩ := h
  unfold VK World.ownsRow
  rw [hl]
  refine ⟨by rw [K.all_len, hl], ?_⟩
  rcases h2 with ⟨he, h0⟩ | ⟨g, cap, cur, he, hB, hh, hn, hc, hs, ht⟩
  · obtain rfl : m = 0 := by omega
    refine .inl ⟨?_, rfl⟩
    simp only [Value.slice.injEq] at he ⊢
    exact ⟨he.1, trivial, he.2.2⟩
  · refine .inr ⟨g, cap, cur, ?_, hB, hh, by omega, hc, hs, ?_⟩
    · simp only [Value.slice.injEq] at he ⊢
      exact ⟨he.1, trivial, he.2.2⟩
    · rw [← e, ← ht, List.take_take, Nat.min_eq_left (Nat.mul_le_mul_right _ hm)]
end Mem
namespace No
open Mem Lx Bu Lf Fa Hp
section
variable {f : Nat → Nat} {w : World} {A : Option Addr} {B b c g i j n : Nat} {L : List Nat} {x y : Nat}
end
end No
end Go.Proofs.Ytlabbmfiecbigaa

namespace Go.Proofs.Ytlabbmfiecbigaa
open Go.RowKit
namespace Hp
section
variable {α : Type} [Inhabited α]
/-- the same as a heap but at place j; and what is below j is not less than what is above it -/
structure Up (lt : α → α → Bool) (l : List α) (n j : Nat) : Prop where
  most : ∀ k, 0 < k → k < n → k ≠ j → lt (gt l k) (gt l ((k - 1) / 2)) = false
  over : 0 < j → ∀ k, 0 < k → k < n → (k - 1) / 2 = j → lt (gt l k) (gt l ((j - 1) / 2)) = false
variable {lt : α → α → Bool} {l : List α} {n j : Nat}
theorem gt_app {x : α} {k : Nat} (hk : k < l.length) : gt (l ++ [x]) k = gt l k := by
  unfold gt
  rw [List.getD_eq_getElem?_getD, List.getD_eq_getElem?_getD, List.getElem?_append_left hk]
theorem Up.start {x : α} (h : HpF lt l l.length 0) : Up lt (l ++ [x]) (l.length + 1) l.length := ⟨fun k h1 h2 h3 => by
  rw [gt_app (by omega), gt_app (by omega)]
  exact h k h1 (by omega) (Nat.zero_le _), fun h0 k h1 h2 h3 => by omega⟩
theorem Up.stop (h : Up lt l n j) (hj : j = 0 ∨ lt (gt l j) (gt l ((j - 1) / 2)) = false) : HpF lt l n 0 := fun k h1 h2 _ => by
  by_cases e : k = j
  · subst e
    rcases hj with hj | hj
    · omega
    · exact hj
  · exact h.most k h1 h2 e
theorem Up.step (ho : Ord lt) (h : Up lt l n j) (hn : n ≤ l.length) {i : Nat} (h0 : 0 < j) (hj : j < n) (hi : (j - 1) / 2 = i) (hlt : lt (gt l j) (gt l i) = true) : Up lt (swp l i j) n i := by
  have hij : i < j := by omega
  have G := gt_swp (l := l) (i := i) (j := j) (by omega) (by omega)
  have has := ho.asym _ _ hlt
  refine ⟨fun k h1 h2 h3 => ?_, fun h4 k h1 h2 h3 => ?_⟩
  · by_cases e : k = j
    · subst e
      rw [G, G, if_pos rfl, hi, if_neg (by omega), if_pos rfl]
      exact has
    · have hm := h.most k h1 h2 e
      by_cases e2 : (k - 1) / 2 = i
      · rw [e2] at hm
        rw [G, G, if_neg e, if_neg h3, e2, if_neg (by omega), if_pos rfl]
        exact ho.trans _ _ _ has hm
      · by_cases e3 : (k - 1) / 2 = j
        · rw [G, G, if_neg e, if_neg h3, if_pos e3, ← hi]
          exact h.over h0 k h1 h2 e3
        · rw [G, G, if_neg e, if_neg h3, if_neg e3, if_neg e2]
          exact hm
  · have hp := h.most i h4 (by omega) (by omega)
    rw [G ((i - 1) / 2), if_neg (by omega), if_neg (by omega)]
    by_cases e : k = j
    · rw [e, G, if_pos rfl]
      exact hp
    · rw [G, if_neg e, if_neg (by omega)]
      have hm := h.most k h1 h2 e
      rw [h3] at hm
      exact ho.trans _ _ _ hp hm
end
end Hp
namespace No
open Mem Lx Bu Lf Fa Hp
/-- what is turned, but not in the blocks of S or in new ones -/
theorem into_of {S T : List Nat} {W w w' : World} (h : Flow.Into S W w) (k : Flow.Into T w w') (hT : ∀ y, y ∈ T → y ∈ S ∨ W.heap.size ≤ y) : Flow.Into S W w' :=
  ⟨k.os.trans h.os, k.tape.trans h.tape, k.output.trans h.output, Nat.le_trans h.size k.size, fun i hi hn => (k.block i (Nat.lt_of_lt_of_le hi h.size) fun hh => by
    rcases hT i hh with h2 | h2
    · exact hn h2
    · omega).trans (h.block i hi hn)⟩
section
variable {f : Nat → Nat} {W w w' : World} {b i j n x : Nat} {S L : List Nat}
theorem gt_get (h : i < L.length) : L[i]? = some (gt L i) := by rw [gt_eq h, List.getElem?_eq_getElem h]
end
end No
end Go.Proofs.Ytlabbmfiecbigaa

namespace Go.Proofs.Ytlabbmfiecbigaa
open Go.RowKit
namespace No
open Mem Lx Bu Lf Fa
set_option maxRecDepth 100000 in
set_option maxHeartbeats 2000000 in
theorem RKey_any (c : Cfg) (key : ByteArray) (W : World) : Calls Try.prog 53 #[.agg (cfCs c), .string key] W fun e w' => e = .returned (.bool (keyB c key)) ∧ Below W.heap.size W w' := by
  have HP := Lib.hid (show keyB c key = (decide (1 ≤ (key.size : Int)) && decide ((key.size : Int) ≤ c.key)) from rfl)
  generalize keyB c key = v at *
  unfold cfCs
  obtain ⟨cB, cY, cF, cN, cU, cL, cK, cV⟩ := c
  simp only at *
  by_cases h1 : 1 ≤ (key.size : Int)
  · have HR : Hid (v = decide ((key.size : Int) ≤ cK)) := Lib.hid (by rw [HP.out]; simp [h1])
    clear HP
    go_enter Try.func53, Try.ntmps53
    go_wp2_with fail
    go_ret
    exact ⟨ret_bool HR.out.symm, (Below.refl _ _).alloc (Nat.le_refl _) _⟩
  · have HR : Hid (v = false) := Lib.hid (by rw [HP.out]; simp [h1])
    have h2 : decide (1 ≤ (key.size : Int)) = false := by simpa using h1
    clear HP h1
    go_enter Try.func53, Try.ntmps53
    go_wp2_with fail
    go_ret
    exact ⟨ret_bool HR.out.symm, (Below.refl _ _).alloc (Nat.le_refl _) _⟩

set_option maxRecDepth 100000 in
set_option maxHeartbeats 8000000 in
theorem Router_sz {W : World} (c : Cfg) (lo hi : ByteArray) (top : Bool) {n : Nd} {a : At} (h : NdIn W n a) (hf : Sz n) (hlo : lo.size ≤ maxLen) : Calls Try.prog 31 #[.agg (cfCs c), spanV lo hi top, .agg (ndCs n a)] W fun e w' => (∃ v : Bool, e = .returned (.bool v) ∧ (v = true ↔ OuterP c lo hi top n)) ∧ Below W.heap.size W w' := by
  obtain ⟨P, hP⟩ : ∃ P : Prop, P = OuterP c lo hi top n := ⟨_, rfl⟩
  have HP : Hid (P → OuterP c lo hi top n) := fun h => by rw [hP] at h; exact h
  have HQ : Hid (OuterP c lo hi top n → P) := fun h => by rw [hP]; exact h
  rw [← hP]
  clear hP
  have cK := fun (k : ByteArray) (w : World) => Lib.hid (RKey_any c k w)
  obtain ⟨lv, K, L, B, Q⟩ := n
  obtain ⟨kA, kc, pA, pc, bA, bc, qA, qc⟩ := a
  have l1 := hf.kl
  have l2 := hf.pl
  have l3 := hf.bl
  have l4 := hf.ql
  have HKI : Hid (KL W kA K) := h.kids.1
  have HPI : Hid (SL W pA L) := h.piv.1
  have HBU : Hid (RdK MgK W bA B) := h.buf.1
  have HPR : Hid (PL W qA Q) := h.prs.1
  have HSK : Hid (∀ p, p ∈ L → p.size ≤ maxLen) := hf.piv
  have HSB : Hid (∀ m, m ∈ B → m.1.size ≤ maxLen) := hf.buf
  have HSQ : Hid (∀ m, m ∈ Q → m.1.size ≤ maxLen) := hf.prs
  have cI := fun (k : ByteArray) (w : World) (hk : k.size ≤ maxLen) => Lib.hid (RIn_any lo hi top k w hlo hk)
  have cR := fun (w : World) (hb : Below W.heap.size W w) => Lib.hid (Lf.RRight_any (c := qc) (HPR.out.kept hb) HSQ.out (Nat.le_trans l4 (by decide)))
  obtain ⟨cB, cY, cF, cN, cU, cL, cKy, cV⟩ := c
  unfold ndCs cfCs
  unfold cfCs at cK
  simp only at *
  generalize hkn : K.length = kn at *
  generalize hpn : L.length = pn at *
  generalize hbn : B.length = bn at *
  generalize hqn : Q.length = qn at *
  have HKN := Lib.hid hkn
  have HPN := Lib.hid hpn
  have HBN := Lib.hid hbn
  have HQN := Lib.hid hqn
  clear h hf hkn hpn hbn hqn hlo
  go_enter Try.func31, Try.ntmps31
  go_upto_region 1 with fail
  have HB0 := Lib.hid (B3.new W (.cells #[.int .i64 cB, .int .i64 cY, .int .i64 cF, .int .i64 cN, .int .i64 cU, .int .i64 cL, .int .i64 cKy, .int .i64 cV] 23) (.cells #[.string lo, .string hi, .bool top] 37) (.cells #[.int .i64 lv, .slice kA kn kc, .slice pA pn pc, .slice bA bn bc, .slice qA qn qc] 29))
  generalize ((W.alloc (.cells #[.int .i64 cB, .int .i64 cY, .int .i64 cF, .int .i64 cN, .int .i64 cU, .int .i64 cL, .int .i64 cKy, .int .i64 cV] 23)).alloc (.cells #[.string lo, .string hi, .bool top] 37)).alloc (.cells #[.int .i64 lv, .slice kA kn kc, .slice pA pn pc, .slice bA bn bc, .slice qA qn qc] 29) = w1 at *
  obtain ⟨g, hg⟩ : ∃ g, g = W.heap.size := ⟨_, rfl⟩
  rw [← hg] at HB0
  simp only [← hg]
  clear hg
  go_upto_block 0 with fail
  go_cut [] (fun wx => Hid (∀ p, p ∈ Q → PrOk ⟨cB, cY, cF, cN, cU, cL, cKy, cV⟩ lo hi top p) ∧ Hid (B3 W g (.cells #[.int .i64 cB, .int .i64 cY, .int .i64 cF, .int .i64 cN, .int .i64 cU, .int .i64 cL, .int .i64 cKy, .int .i64 cV] 23) (.cells #[.string lo, .string hi, .bool top] 37) (.cells #[.int .i64 lv, .slice kA kn kc, .slice pA pn pc, .slice bA bn bc, .slice qA qn qc] 29) wx))
  case first =>
    go_wp2_with fail
    go_loopg [7] qn (fun gk iv wx => ∃ j : Nat, j ≤ qn ∧ gk = qn - j ∧ iv = .int .i64 (j : Int) ∧ Hid (∀ (i : Nat) (y : Pr), i < j → Q[i]? = some y → PrOk ⟨cB, cY, cF, cN, cU, cL, cKy, cV⟩ lo hi top y) ∧ Hid (B3 W g (.cells #[.int .i64 cB, .int .i64 cY, .int .i64 cF, .int .i64 cN, .int .i64 cU, .int .i64 cL, .int .i64 cKy, .int .i64 cV] 23) (.cells #[.string lo, .string hi, .bool top] 37) (.cells #[.int .i64 lv, .slice kA kn kc, .slice pA pn pc, .slice bA bn bc, .slice qA qn qc] 29) wx))
    case atStart => exact ⟨0, Nat.zero_le _, rfl, rfl, fun i x hi => by omega, HB0⟩
    case round =>
      clear HB0
      obtain ⟨j, hj, rfl, rfl, HJ, HB⟩ := hrel
      obtain ⟨d0, d1, d2, d3, d4⟩ := box5 HB.out.z
      by_cases hlt : j < qn
      · have hjL : j < Q.length := by rw [HQN.out]; exact hlt
        obtain ⟨x, hxx⟩ : ∃ x, x = Q[j] := ⟨_, rfl⟩
        have hx' := nat_len hjL
        rw [← hxx] at hx'
        obtain ⟨b, o, e, -, c0, c1⟩ := RdK.pair (HPR.out.kept HB.out.below) hx'
        subst e
        have HXX := Lib.hid hx'
        have hsz := HSQ.out x (List.mem_of_getElem? hx')
        have hw3 : IntKind.i64.wrap ((j : Int) + 1) = ((j + 1 : Nat) : Int) := by rw [IntKind.wrap_i64]; omega
        clear hxx hx' hjL
        go_upto_region 5 with fail
        have hba : Below wr.heap.size wr (wr.alloc (.cells #[.string x.1, .string x.2] 47)) := (Below.refl _ _).alloc (Nat.le_refl _) _
        have hnew := heap_alloc_new wr (.cells #[.string x.1, .string x.2] 47)
        have HB2 := Lib.hid (HB.out.kept hba)
        generalize wr.alloc (.cells #[.string x.1, .string x.2] 47) = w2 at *
        generalize wr.heap.size = u at *
        have HU := Lib.hid hnew
        clear hba hnew HB d0 d1 d2 d3 d4 c0 c1
        obtain ⟨f0, f1⟩ : w2.cell? ⟨u, 0, none⟩ = some (.string x.1) ∧ w2.cell? ⟨u, 1, none⟩ = some (.string x.2) := by simp [World.cell?, HU.out]
        obtain ⟨e0, e1, e2⟩ := box3 HB2.out.y
        obtain ⟨g0, g1, g2, g3, g4, g5, g6, g7⟩ := box8 HB2.out.x
        have HOK : Hid (keyB ⟨cB, cY, cF, cN, cU, cL, cKy, cV⟩ x.1 = true → inB lo hi top x.1 = true → (x.2.size : Int) ≤ cV → PrOk ⟨cB, cY, cF, cN, cU, cL, cKy, cV⟩ lo hi top x) := fun a b c => ⟨a, b, c⟩
        have HNK : Hid (keyB ⟨cB, cY, cF, cN, cU, cL, cKy, cV⟩ x.1 = false → ¬ P) := fun e hp => by
          have := ((HP.out hp).each x (List.mem_of_getElem? HXX.out)).1
          rw [e] at this
          cases this
        have HNI : Hid (inB lo hi top x.1 = false → ¬ P) := fun e hp => by
          have := ((HP.out hp).each x (List.mem_of_getElem? HXX.out)).2.1
          rw [e] at this
          cases this
        have HNV : Hid (¬ (x.2.size : Int) ≤ cV → ¬ P) := fun e hp => e ((HP.out hp).each x (List.mem_of_getElem? HXX.out)).2.2
        have cX := fun w => cK x.1 w
        have cY' := fun w => cI x.1 w hsz
        generalize keyB ⟨cB, cY, cF, cN, cU, cL, cKy, cV⟩ x.1 = kb at *
        generalize inB lo hi top x.1 = ib at *
        clear hsz
        go_upto_region 5 with fail
        cases kb with
        | false =>
          have HNO := Lib.hid (HNK.out rfl)
          clear HNK HNI HNV HOK
          go_wp2_with (first | (go_at_call 53; refine (cX _).out.mono ?_; rintro e w3 ⟨rfl, hb⟩; replace HU := Lib.hid (kept3 HU.out hb); replace HB2 := Lib.hid (HB2.out.kept hb); clear hb f0 f1 e0 e1 e2 g0 g1 g2 g3 g4 g5 g6 g7; obtain ⟨f0, f1⟩ : w3.cell? ⟨u, 0, none⟩ = some (.string x.1) ∧ w3.cell? ⟨u, 1, none⟩ = some (.string x.2) := (by simp [World.cell?, HU.out]); obtain ⟨e0, e1, e2⟩ := box3 HB2.out.y; obtain ⟨g0, g1, g2, g3, g4, g5, g6, g7⟩ := box8 HB2.out.x) | (go_at_call 52; refine (cY' _).out.mono ?_; rintro e w3 ⟨rfl, hb⟩; replace HU := Lib.hid (kept3 HU.out hb); replace HB2 := Lib.hid (HB2.out.kept hb); clear hb f0 f1 e0 e1 e2 g0 g1 g2 g3 g4 g5 g6 g7; obtain ⟨f0, f1⟩ : w3.cell? ⟨u, 0, none⟩ = some (.string x.1) ∧ w3.cell? ⟨u, 1, none⟩ = some (.string x.2) := (by simp [World.cell?, HU.out]); obtain ⟨e0, e1, e2⟩ := box3 HB2.out.y; obtain ⟨g0, g1, g2, g3, g4, g5, g6, g7⟩ := box8 HB2.out.x))
          go_ret
          exact ⟨⟨false, rfl, (fun h => by cases h), fun h => absurd h HNO.out⟩, HB2.out.below⟩
        | true =>
          cases ib with
          | false =>
            have HNO := Lib.hid (HNI.out rfl)
            clear HNK HNI HNV HOK
            go_wp2_with (first | (go_at_call 53; refine (cX _).out.mono ?_; rintro e w3 ⟨rfl, hb⟩; replace HU := Lib.hid (kept3 HU.out hb); replace HB2 := Lib.hid (HB2.out.kept hb); clear hb f0 f1 e0 e1 e2 g0 g1 g2 g3 g4 g5 g6 g7; obtain ⟨f0, f1⟩ : w3.cell? ⟨u, 0, none⟩ = some (.string x.1) ∧ w3.cell? ⟨u, 1, none⟩ = some (.string x.2) := (by simp [World.cell?, HU.out]); obtain ⟨e0, e1, e2⟩ := box3 HB2.out.y; obtain ⟨g0, g1, g2, g3, g4, g5, g6, g7⟩ := box8 HB2.out.x) | (go_at_call 52; refine (cY' _).out.mono ?_; rintro e w3 ⟨rfl, hb⟩; replace HU := Lib.hid (kept3 HU.out hb); replace HB2 := Lib.hid (HB2.out.kept hb); clear hb f0 f1 e0 e1 e2 g0 g1 g2 g3 g4 g5 g6 g7; obtain ⟨f0, f1⟩ : w3.cell? ⟨u, 0, none⟩ = some (.string x.1) ∧ w3.cell? ⟨u, 1, none⟩ = some (.string x.2) := (by simp [World.cell?, HU.out]); obtain ⟨e0, e1, e2⟩ := box3 HB2.out.y; obtain ⟨g0, g1, g2, g3, g4, g5, g6, g7⟩ := box8 HB2.out.x))
            go_ret
            exact ⟨⟨false, rfl, (fun h => by cases h), fun h => absurd h HNO.out⟩, HB2.out.below⟩
          | true =>
            by_cases hv : (x.2.size : Int) ≤ cV
            · have HJ2 : Hid (∀ (i : Nat) (y : Pr), i < j + 1 → Q[i]? = some y → PrOk ⟨cB, cY, cF, cN, cU, cL, cKy, cV⟩ lo hi top y) := fun i y hi hy => by
                by_cases e : i = j
                · subst e
                  rw [HXX.out] at hy
                  cases hy
                  exact HOK.out rfl rfl hv
                · exact HJ.out i y (by omega) hy
              have hd : decide (cV < (x.2.size : Int)) = false := by simp; omega
              clear hv HNK HNI HNV HOK
              go_wp2_with (first | (go_at_call 53; refine (cX _).out.mono ?_; rintro e w3 ⟨rfl, hb⟩; replace HU := Lib.hid (kept3 HU.out hb); replace HB2 := Lib.hid (HB2.out.kept hb); clear hb f0 f1 e0 e1 e2 g0 g1 g2 g3 g4 g5 g6 g7; obtain ⟨f0, f1⟩ : w3.cell? ⟨u, 0, none⟩ = some (.string x.1) ∧ w3.cell? ⟨u, 1, none⟩ = some (.string x.2) := (by simp [World.cell?, HU.out]); obtain ⟨e0, e1, e2⟩ := box3 HB2.out.y; obtain ⟨g0, g1, g2, g3, g4, g5, g6, g7⟩ := box8 HB2.out.x) | (go_at_call 52; refine (cY' _).out.mono ?_; rintro e w3 ⟨rfl, hb⟩; replace HU := Lib.hid (kept3 HU.out hb); replace HB2 := Lib.hid (HB2.out.kept hb); clear hb f0 f1 e0 e1 e2 g0 g1 g2 g3 g4 g5 g6 g7; obtain ⟨f0, f1⟩ : w3.cell? ⟨u, 0, none⟩ = some (.string x.1) ∧ w3.cell? ⟨u, 1, none⟩ = some (.string x.2) := (by simp [World.cell?, HU.out]); obtain ⟨e0, e1, e2⟩ := box3 HB2.out.y; obtain ⟨g0, g1, g2, g3, g4, g5, g6, g7⟩ := box8 HB2.out.x))
              go_roundg (qn - (j + 1))
              case measure => omega
              case rel => exact ⟨j + 1, hlt, rfl, by go_num, HJ2, HB2⟩
            · have HNO := Lib.hid (HNV.out hv)
              have hd : cV < (x.2.size : Int) := by omega
              clear hv HNK HNI HNV HOK
              go_wp2_with (first | (go_at_call 53; refine (cX _).out.mono ?_; rintro e w3 ⟨rfl, hb⟩; replace HU := Lib.hid (kept3 HU.out hb); replace HB2 := Lib.hid (HB2.out.kept hb); clear hb f0 f1 e0 e1 e2 g0 g1 g2 g3 g4 g5 g6 g7; obtain ⟨f0, f1⟩ : w3.cell? ⟨u, 0, none⟩ = some (.string x.1) ∧ w3.cell? ⟨u, 1, none⟩ = some (.string x.2) := (by simp [World.cell?, HU.out]); obtain ⟨e0, e1, e2⟩ := box3 HB2.out.y; obtain ⟨g0, g1, g2, g3, g4, g5, g6, g7⟩ := box8 HB2.out.x) | (go_at_call 52; refine (cY' _).out.mono ?_; rintro e w3 ⟨rfl, hb⟩; replace HU := Lib.hid (kept3 HU.out hb); replace HB2 := Lib.hid (HB2.out.kept hb); clear hb f0 f1 e0 e1 e2 g0 g1 g2 g3 g4 g5 g6 g7; obtain ⟨f0, f1⟩ : w3.cell? ⟨u, 0, none⟩ = some (.string x.1) ∧ w3.cell? ⟨u, 1, none⟩ = some (.string x.2) := (by simp [World.cell?, HU.out]); obtain ⟨e0, e1, e2⟩ := box3 HB2.out.y; obtain ⟨g0, g1, g2, g3, g4, g5, g6, g7⟩ := box8 HB2.out.x))
              go_ret
              exact ⟨⟨false, rfl, (fun h => by cases h), fun h => absurd h HNO.out⟩, HB2.out.below⟩
      · have HZ : Hid (∀ p, p ∈ Q → PrOk ⟨cB, cY, cF, cN, cU, cL, cKy, cV⟩ lo hi top p) := fun x hx => by
          obtain ⟨i, hi⟩ := List.getElem?_of_mem hx
          have := (List.getElem?_eq_some_iff.1 hi).1
          rw [HQN.out] at this
          exact HJ.out i x (by omega) hi
        obtain rfl : j = qn := by omega
        clear hlt
        go_wp2_with fail
        go_meet
        exact ⟨HZ, HB⟩
  case rest =>
  clear HB0
  obtain ⟨HZ, HB⟩ := hcut
  obtain ⟨d0, d1, d2, d3, d4⟩ := box5 HB.out.z
  obtain ⟨g0, g1, g2, g3, g4, g5, g6, g7⟩ := box8 HB.out.x
  by_cases ekn : kn = 0
  case neg =>
    have hd : ((kn : Int) == 0) = false := by simp; omega
    have HNO : Hid (¬ P) := fun h => ekn (by rw [← HKN.out]; exact (HP.out h).kids)
    clear ekn
    go_wp2_with fail
    go_ret
    exact ⟨⟨false, rfl, (fun h => by cases h), fun h => absurd h HNO.out⟩, HB.out.below⟩
  subst ekn
  by_cases epn : pn = 0
  case neg =>
    have hd : ((pn : Int) == 0) = false := by simp; omega
    have HNO : Hid (¬ P) := fun h => epn (by rw [← HPN.out]; exact (HP.out h).piv)
    clear epn
    go_wp2_with fail
    go_ret
    exact ⟨⟨false, rfl, (fun h => by cases h), fun h => absurd h HNO.out⟩, HB.out.below⟩
  subst epn
  by_cases ebn : bn = 0
  case neg =>
    have hd : ((bn : Int) == 0) = false := by simp; omega
    have HNO : Hid (¬ P) := fun h => ebn (by rw [← HBN.out]; exact (HP.out h).buf)
    clear ebn
    go_wp2_with fail
    go_ret
    exact ⟨⟨false, rfl, (fun h => by cases h), fun h => absurd h HNO.out⟩, HB.out.below⟩
  subst ebn
  by_cases el : (qn : Int) ≤ cL
  case neg =>
    have hd : decide ((qn : Int) ≤ cL) = false := by simpa using el
    have HNO : Hid (¬ P) := fun h => el (by rw [← HQN.out]; exact (HP.out h).few)
    clear el
    go_wp2_with fail
    go_ret
    exact ⟨⟨false, rfl, (fun h => by cases h), fun h => absurd h HNO.out⟩, HB.out.below⟩
  have HFW : Hid ((Q.length : Int) ≤ cL) := Lib.hid (by rw [HQN.out]; exact el)
  have hel : decide ((qn : Int) ≤ cL) = true := by simpa using el
  clear el
  obtain ⟨r, hr⟩ := bool_of (PRise Q)
  have HRR := Lib.hid hr
  clear hr
  have cR2 : Hid (Calls Try.prog 54 #[.slice qA qn qc] wc fun e w' => e = .returned (.bool r) ∧ Below wc.heap.size wc w') := (cR _ HB.out.below).out.mono fun e w' ⟨⟨v, he, hv⟩, hb⟩ => ⟨by rw [he, bool_one hv HRR.out], hb⟩
  have HF : Hid (r = true ↔ P) := ⟨fun h => HQ.out ⟨HZ.out, HKN.out, HPN.out, HBN.out, HFW.out, HRR.out.1 h⟩, fun h => HRR.out.2 (HP.out h).rise⟩
  clear cR
  go_wp2_with (go_at_call 54; refine cR2.out.mono ?_; rintro e w3 ⟨rfl, hb⟩; replace HB := Lib.hid (HB.out.kept hb); clear hb)
  go_ret
  exact ⟨⟨r, rfl, HF.out⟩, HB.out.below⟩
end No
end Go.Proofs.Ytlabbmfiecbigaa

namespace Go.Proofs.Ytlabbmfiecbigaa
open Go.RowKit
namespace No
open Mem Lx Bu
theorem slinfoK : (Try.prog.info? 43).map (fun i => (i.zero, i.size, i.bytes)) = some (some (.int .u32 0), 1, 4) := by kernel_rfl
set_option maxRecDepth 100000 in
set_option maxHeartbeats 2000000 in
set_option maxRecDepth 100000 in
theorem CloneK_any {W : World} {A : Option Addr} {c : Nat} {L : List Nat} (h : RdK KdK W A L) (hl : L.length ≤ 1048576) : Calls Try.prog 40 #[.slice A L.length c] W fun e w' => (∃ A' c', e = .returned (.slice A' L.length c') ∧ VK KdK w' W.heap.size A' c' L) ∧ Below W.heap.size W w' := by
  have hq := fun (w : World) (a : Option Addr) (n c n' c' : Nat) => Lib.run_eql_slice_nil (P := Try.prog) w 24 _ a n c n' c' Try.underlying24
  cases A with
  | none =>
    obtain rfl : L = [] := List.length_eq_zero_iff.1 (Nat.eq_zero_of_not_pos fun h0 => by
      obtain ⟨b, o, e, _⟩ := h h0
      cases e)
    go_enter Try.func40, Try.ntmps40
    go_wp2_with fail
    go_ret
    exact ⟨⟨none, 0, rfl, VK.nil _ _⟩, Below.refl _ _⟩
  | some a =>
    have HH := Lib.hid h
    generalize hn : L.length = n at *
    have HN := Lib.hid hn
    clear h hn
    go_enter Try.func40, Try.ntmps40
    go_upto_region 3 with fail
    have hb : Below W.heap.size W (W.alloc (.cells #[] 43)) := (Below.refl _ _).alloc (Nat.le_refl _) _
    have HV0 : Hid (VK KdK (W.alloc (.cells #[] 43)) W.heap.size (some ⟨W.heap.size, 0, none⟩) 0 []) := VK.lit (K := KdK) W W.heap.size (Nat.le_refl _)
    have HAL := Lib.hid (HH.out.kept hb)
    have hs := hb.size
    have hn2 : 0 + n ≤ 1048576 := by omega
    have HB := Lib.hid hb
    clear hb HH
    go_wp2_with (with_reducible refine wpList_append_allK (K := KdK) Try.underlying24 slinfoK rfl (by decide) (by decide) rfl (.tmp 5) (.tmp 6) rfl W.heap.size (some ⟨W.heap.size, 0, none⟩) 0 0 [] rfl rfl HV0.out (some a) n c L rfl HN.out HAL.out hn2 hs ?_; intro Aw cw w4 hv4 hb4)
    go_ret
    exact ⟨⟨Aw, cw, rfl, hv4.out⟩, HB.out.trans hb4.out⟩
end No
end Go.Proofs.Ytlabbmfiecbigaa

namespace Go.Proofs.Ytlabbmfiecbigaa
open Go.RowKit
namespace Fa
open Mem Lx Bu
theorem slinfoS : (Try.prog.info? 9).map (fun i => (i.zero, i.size, i.bytes)) = some (some (.string ⟨#[]⟩), 1, 16) := by kernel_rfl
set_option maxRecDepth 100000 in
set_option maxHeartbeats 2000000 in
set_option maxRecDepth 100000 in
theorem CloneS_any {W : World} {A : Option Addr} {c : Nat} {L : List ByteArray} (h : RdK StK W A L) (hl : L.length ≤ 1048576) : Calls Try.prog 41 #[.slice A L.length c] W fun e w' => (∃ A' c', e = .returned (.slice A' L.length c') ∧ VK StK w' W.heap.size A' c' L) ∧ Below W.heap.size W w' := by
  have hq := fun (w : World) (a : Option Addr) (n c n' c' : Nat) => Lib.run_eql_slice_nil (P := Try.prog) w 25 _ a n c n' c' Try.underlying25
  cases A with
  | none =>
    obtain rfl : L = [] := List.length_eq_zero_iff.1 (Nat.eq_zero_of_not_pos fun h0 => by
      obtain ⟨b, o, e, _⟩ := h h0
      cases e)
    go_enter Try.func41, Try.ntmps41
    go_wp2_with fail
    go_ret
    exact ⟨⟨none, 0, rfl, VK.nil _ _⟩, Below.refl _ _⟩
  | some a =>
    have HH := Lib.hid h
    generalize hn : L.length = n at *
    have HN := Lib.hid hn
    clear h hn
    go_enter Try.func41, Try.ntmps41
    go_upto_region 3 with fail
    have hb : Below W.heap.size W (W.alloc (.cells #[] 9)) := (Below.refl _ _).alloc (Nat.le_refl _) _
    have HV0 : Hid (VK StK (W.alloc (.cells #[] 9)) W.heap.size (some ⟨W.heap.size, 0, none⟩) 0 []) := VK.lit (K := StK) W W.heap.size (Nat.le_refl _)
    have HAL := Lib.hid (HH.out.kept hb)
    have hs := hb.size
    have hn2 : 0 + n ≤ 1048576 := by omega
    have HB := Lib.hid hb
    clear hb HH
    go_wp2_with (with_reducible refine wpList_append_allK (K := StK) Try.underlying25 slinfoS rfl (by decide) (by decide) rfl (.tmp 5) (.tmp 6) rfl W.heap.size (some ⟨W.heap.size, 0, none⟩) 0 0 [] rfl rfl HV0.out (some a) n c L rfl HN.out HAL.out hn2 hs ?_; intro Aw cw w4 hv4 hb4)
    go_ret
    exact ⟨⟨Aw, cw, rfl, hv4.out⟩, HB.out.trans hb4.out⟩
end Fa
end Go.Proofs.Ytlabbmfiecbigaa

namespace Go.Proofs.Ytlabbmfiecbigaa
open Go.RowKit
namespace Bu
open Mem Lx
set_option maxRecDepth 100000 in
set_option maxHeartbeats 2000000 in
theorem Find_any {W : World} {A : Option Addr} {c : Nat} {L : List Mg} (h : ML W A L) (key : ByteArray) (_ : key.size ≤ 1000) (_ : ∀ m, m ∈ L → m.1.size ≤ 1000) (hr : Ri L) (hl : L.length ≤ 1000) : Calls Try.prog 37 #[.slice A L.length c, .string key] W fun e w' => e = .returned (.tuple #[mgV ((findD L key).getD zeroM), .bool (findD L key).isSome]) ∧ Below W.heap.size W w' := by
  have cS := fun (W' : World) (hb : Below W.heap.size W W') => Lib.hid (place_any (c := c) (h.kept hb) key hr (by omega))
  have HH := Lib.hid h
  clear h
  generalize hn : L.length = n at *
  have HN := Lib.hid hn
  clear hn
  go_enter Try.func37, Try.ntmps37
  go_upto_region 1 with fail
  have hx := heap_alloc_new W (.cells #[.string ⟨#[]⟩, .bool false, .string ⟨#[]⟩] 45)
  have hb0 : Below W.heap.size W (W.alloc (.cells #[.string ⟨#[]⟩, .bool false, .string ⟨#[]⟩] 45)) := (Below.refl _ _).alloc (Nat.le_refl _) _
  generalize W.alloc (.cells #[.string ⟨#[]⟩, .bool false, .string ⟨#[]⟩] 45) = w1 at *
  obtain ⟨g, hg⟩ : ∃ g, g = W.heap.size := ⟨_, rfl⟩
  rw [← hg] at hx ⊢
  have HG : Hid (W.heap.size ≤ g) := Nat.le_of_eq hg.symm
  have HB := Lib.hid hb0
  have HX := Lib.hid hx
  clear hx hb0 hg
  go_upto_region 2 with (go_at_call 57; refine (cS _ HB.out).out.mono ?_; rintro e w2 ⟨⟨p, b, rfl, h1, h2⟩, hb⟩)
  have HP := Lib.hid h1
  have HF := Lib.hid h2
  replace HX := Lib.hid (kept3 HX.out hb)
  replace HB := Lib.hid (HB.out.trans (hb.mono HB.out.size))
  have hpn : p ≤ n := by rw [← HN.out]; exact h1.le
  clear h1 h2 hb cS
  have f0 := free3 HX.out 0
  have f1 := free3 HX.out 1
  have f2 := free3 HX.out 2
  obtain ⟨d0, d1, d2⟩ := box3 HX.out
  cases b with
  | false =>
    have HE : Hid (findD L key = none) := HP.out.lacks hr (by have := HF.out; simpa using this)
    go_wp2_with fail
    have i3 := set3_below (B := W.heap.size) (b := g) HB.out HG.out (.string ⟨#[]⟩) (.bool false) (.string ⟨#[]⟩)
    have g3 := set3_at HX.out (.string ⟨#[]⟩) (.bool false) (.string ⟨#[]⟩)
    unfold set3 at i3 g3
    generalize ((w2.setCell ⟨g, 0, none⟩ (.string ⟨#[]⟩)).setCell ⟨g, 1, none⟩ (.bool false)).setCell ⟨g, 2, none⟩ (.string ⟨#[]⟩) = w9 at *
    obtain ⟨o0, o1, o2⟩ := box3 g3
    refine bodyPost_ret (v := .tuple #[.agg #[.string ⟨#[]⟩, .bool false, .string ⟨#[]⟩], .bool false]) (by simp [results, Try.results37, go_sem, o0, o1, o2]) rfl ⟨?_, i3⟩
    rw [HE.out]
    rfl
  | true =>
    obtain ⟨x, hx, hk⟩ := HF.out.1 rfl
    have HE : Hid (findD L key = some x) := HP.out.found hx hk
    have hpn2 : p < n := by rw [← HN.out]; exact (List.getElem?_eq_some_iff.1 hx).1
    obtain ⟨b, o, e, -, c0, c1, c2⟩ := RdK.msg (HH.out.kept HB.out) hx
    subst e
    clear hx hk
    go_wp2_with fail
    have i3 := set3_below (B := W.heap.size) (b := g) HB.out HG.out (.string x.1) (.bool x.2.1) (.string x.2.2)
    have g3 := set3_at HX.out (.string x.1) (.bool x.2.1) (.string x.2.2)
    unfold set3 at i3 g3
    generalize ((w2.setCell ⟨g, 0, none⟩ (.string x.1)).setCell ⟨g, 1, none⟩ (.bool x.2.1)).setCell ⟨g, 2, none⟩ (.string x.2.2) = w9 at *
    obtain ⟨o0, o1, o2⟩ := box3 g3
    refine bodyPost_ret (v := .tuple #[.agg #[.string x.1, .bool x.2.1, .string x.2.2], .bool true]) (by simp [results, Try.results37, go_sem, o0, o1, o2]) rfl ⟨?_, i3⟩
    rw [HE.out]
    rfl
end Bu
end Go.Proofs.Ytlabbmfiecbigaa

namespace Go.Proofs.Ytlabbmfiecbigaa
open Go.RowKit
namespace No
open Mem Lx Bu Lf Fa
set_option maxRecDepth 100000 in
theorem Told_yes (key val : ByteArray) (W : World) : Calls Try.prog 38 #[.agg #[.string key, .bool false, .string val]] W fun e w' => e = .returned (.tuple #[.string val, .bool true]) ∧ Below W.heap.size W w' := by
  have hb : Below W.heap.size W (W.alloc (.cells #[.string key, .bool false, .string val] 45)) := (Below.refl _ _).alloc (Nat.le_refl _) _
  have HB := Lib.hid hb
  clear hb
  go_enter Try.func38, Try.ntmps38
  go_wp2_with fail
  exact bodyPost_ret (v := .tuple #[.string val, .bool true]) (by simp [results, Try.results38, go_sem]) rfl ⟨rfl, HB.out⟩
/-- two nodes in a row -/
theorem row10 {w : World} {b : Nat} {c0 c1 c2 c3 c4 r0 r1 r2 r3 r4 : Value} {U : TypeId} (h : w.heap[b]? = some (.cells #[c0, c1, c2, c3, c4, r0, r1, r2, r3, r4] U (0, 0))) : w.cell? ⟨b, 0, none⟩ = some c0 ∧ w.cell? ⟨b, 1, none⟩ = some c1 ∧ w.cell? ⟨b, 2, none⟩ = some c2 ∧ w.cell? ⟨b, 3, none⟩ = some c3 ∧ w.cell? ⟨b, 4, none⟩ = some c4 := by
  simp [World.cell?, h]
set_option maxRecDepth 100000 in
set_option maxHeartbeats 4000000 in
theorem Value_first {W : World} {b cx : Nat} {lv : Int} {kA pA bA qA : Option Addr} {kn kc pn pc bc qn qc : Nat} {L : List Mg} {r0 r1 r2 r3 r4 : Value} {U : TypeId} (key val : ByteArray) (hx : W.heap[b]? = some (.cells #[.int .i64 lv, .slice kA kn kc, .slice pA pn pc, .slice bA L.length bc, .slice qA qn qc, r0, r1, r2, r3, r4] U (0, 0))) (h : ML W bA L) (hk : key.size ≤ 1000) (hks : ∀ m, m ∈ L → m.1.size ≤ 1000) (hr : Ri L) (hl : L.length ≤ 1000) (hf : findD L key = some (key, false, val)) : Calls Try.prog 14 #[.slice (some ⟨b, 0, none⟩) 2 cx, .string key] W fun e w' => e = .returned (.tuple #[.string val, .bool true]) ∧ Below W.heap.size W w' := by
  have cF : ∀ w, Below W.heap.size W w → Hid (Calls Try.prog 37 #[.slice bA L.length bc, .string key] w fun e w' => e = .returned (.tuple #[.agg #[.string key, .bool false, .string val], .bool true]) ∧ Below w.heap.size w w') := fun w hb => (Find_any (c := bc) (h.kept hb) key hk hks hr hl).mono fun e w' ⟨he, hb⟩ => ⟨by rw [he, hf]; rfl, hb⟩
  have cT := fun w => Lib.hid (Told_yes key val w)
  clear h hk hks hr hl hf
  generalize L.length = bn at *
  have HX := Lib.hid hx
  obtain ⟨c0, c1, c2, c3, c4⟩ := row10 hx
  clear hx
  go_enter Try.func14, Try.ntmps14
  go_wp2_with fail
  refine wp_loop_once ?_
  go_upto_region 4 with fail
  have hn := heap_alloc_new W (.cells #[.int .i64 lv, .slice kA kn kc, .slice pA pn pc, .slice bA bn bc, .slice qA qn qc] 29)
  have hb : Below W.heap.size W (W.alloc (.cells #[.int .i64 lv, .slice kA kn kc, .slice pA pn pc, .slice bA bn bc, .slice qA qn qc] 29)) := (Below.refl _ _).alloc (Nat.le_refl _) _
  generalize W.alloc (.cells #[.int .i64 lv, .slice kA kn kc, .slice pA pn pc, .slice bA bn bc, .slice qA qn qc] 29) = w1 at *
  obtain ⟨g, hg⟩ : ∃ g, g = W.heap.size := ⟨_, rfl⟩
  simp only [← hg] at hn ⊢
  clear hg
  have HN := Lib.hid hn
  have HB := Lib.hid hb
  clear hn hb c0 c1 c2 c3 c4
  obtain ⟨d0, d1, d2, d3, d4⟩ := box5 HN.out
  go_upto_region 5 with (go_at_call 37; refine (cF _ HB.out).out.mono ?_; rintro e w2 ⟨rfl, hb⟩; have HB2 := Lib.hid (HB.out.trans (hb.mono HB.out.size)); clear hb cF HB HN d0 d1 d2 d3 d4)
  have hn := heap_alloc_new w2 (.cells #[.string key, .bool false, .string val] 45)
  have hb : Below W.heap.size W (w2.alloc (.cells #[.string key, .bool false, .string val] 45)) := HB2.out.alloc HB2.out.size _
  generalize w2.alloc (.cells #[.string key, .bool false, .string val] 45) = w3 at *
  obtain ⟨g1, hg⟩ : ∃ g, g = w2.heap.size := ⟨_, rfl⟩
  simp only [← hg] at hn ⊢
  clear hg
  have HB := Lib.hid hb
  obtain ⟨d0, d1, d2⟩ := box3 hn
  clear hn hb HB2
  go_wp2_with (go_at_call 38; refine (cT _).out.mono ?_; rintro e w4 ⟨rfl, hb⟩; have HB3 := Lib.hid (HB.out.trans (hb.mono HB.out.size)); clear hb)
  exact bodyPost_ret (v := .tuple #[.string val, .bool true]) (by simp [results, Try.results14, go_sem]) rfl ⟨rfl, HB3.out⟩
end No
end Go.Proofs.Ytlabbmfiecbigaa

namespace Go.Proofs.Ytlabbmfiecbigaa
open Go.RowKit
namespace Cf
theorem box8 {w : World} {b : Nat} {v0 v1 v2 v3 v4 v5 v6 v7 : Value} {U : TypeId} (h : w.heap[b]? = some (.cells #[v0, v1, v2, v3, v4, v5, v6, v7] U (0, 0))) : w.cell? ⟨b, 0, none⟩ = some v0 ∧ w.cell? ⟨b, 1, none⟩ = some v1 ∧ w.cell? ⟨b, 2, none⟩ = some v2 ∧ w.cell? ⟨b, 3, none⟩ = some v3 ∧ w.cell? ⟨b, 4, none⟩ = some v4 ∧ w.cell? ⟨b, 5, none⟩ = some v5 ∧ w.cell? ⟨b, 6, none⟩ = some v6 ∧ w.cell? ⟨b, 7, none⟩ = some v7 := by
  simp [World.cell?, h]
theorem kept8 {w w' : World} {b : Nat} {o : Obj} (h : w.heap[b]? = some o) (hb : Below w.heap.size w w') : w'.heap[b]? = some o := (hb.block b (Array.getElem?_eq_some_iff.1 h).1).trans h
theorem bel2 {W w w' : World} (h : Below W.heap.size W w) (hb : Below w.heap.size w w') : Below W.heap.size W w' := h.trans (hb.mono h.size)
theorem in_yes (n lo hi : Int) (W : World) (h1 : lo ≤ n) (h2 : n ≤ hi) : Calls Try.prog 34 #[.int .i64 n, .int .i64 lo, .int .i64 hi] W fun e w' => e = .returned (.bool true) ∧ Below W.heap.size W w' := by
  go_enter Try.func34, Try.ntmps34
  go_wp2
  go_ret
  exact ⟨rfl, Below.refl _ _⟩
theorem in_no (n lo hi : Int) (W : World) (h : ¬ (lo ≤ n ∧ n ≤ hi)) : Calls Try.prog 34 #[.int .i64 n, .int .i64 lo, .int .i64 hi] W fun e w' => e = .returned (.bool false) ∧ Below W.heap.size W w' := by
  by_cases h1 : lo ≤ n
  · have h2 : decide (n ≤ hi) = false := by simp; omega
    clear h
    go_enter Try.func34, Try.ntmps34
    go_wp2
    go_ret
    exact ⟨rfl, Below.refl _ _⟩
  · have h1 : n < lo := by omega
    clear h
    go_enter Try.func34, Try.ntmps34
    go_wp2
    go_ret
    exact ⟨rfl, Below.refl _ _⟩
/-- the settings that say what a node may have are right -/
def Shape (fa bu le ke va : Int) : Prop := (8 ≤ fa ∧ fa ≤ 64) ∧ (2 * fa ≤ bu ∧ bu ≤ 512) ∧ (bu ≤ le ∧ le ≤ 1024) ∧ (1 ≤ ke ∧ ke ≤ 64) ∧ (0 ≤ va ∧ va ≤ 256)
set_option maxRecDepth 100000 in
set_option maxHeartbeats 2000000 in
theorem Sized_yes (b y fr fa bu le ke va : Int) (W : World) (h : Shape fa bu le ke va) : Calls Try.prog 33 #[.agg #[.int .i64 b, .int .i64 y, .int .i64 fr, .int .i64 fa, .int .i64 bu, .int .i64 le, .int .i64 ke, .int .i64 va]] W fun e w' => e = .returned (.bool true) ∧ Below W.heap.size W w' := by
  obtain ⟨⟨h1, h1'⟩, ⟨h2, h2'⟩, ⟨h3, h3'⟩, ⟨h4, h4'⟩, h5, h5'⟩ := h
  have hw : IntKind.i64.wrap (2 * fa) = 2 * fa := by rw [IntKind.wrap_i64]; omega
  go_enter Try.func33, Try.ntmps33
  go_upto_region 1 with fail
  have hx := heap_alloc_new W (.cells #[.int .i64 b, .int .i64 y, .int .i64 fr, .int .i64 fa, .int .i64 bu, .int .i64 le, .int .i64 ke, .int .i64 va] 23)
  have hb1 : Below W.heap.size W (W.alloc (.cells #[.int .i64 b, .int .i64 y, .int .i64 fr, .int .i64 fa, .int .i64 bu, .int .i64 le, .int .i64 ke, .int .i64 va] 23)) := (Below.refl _ _).alloc (Nat.le_refl _) _
  obtain ⟨g, hg⟩ : ∃ g, g = W.heap.size := ⟨_, rfl⟩
  generalize W.alloc (.cells #[.int .i64 b, .int .i64 y, .int .i64 fr, .int .i64 fa, .int .i64 bu, .int .i64 le, .int .i64 ke, .int .i64 va] 23) = w1 at *
  rw [← hg] at hx ⊢
  have HX := Lib.hid hx
  have HB := Lib.hid hb1
  obtain ⟨c0, c1, c2, c3, c4, c5, c6, c7⟩ := box8 hx
  clear hx hb1 hg
  go_wp2_with (go_at_call 34; (first | (refine (in_yes _ _ _ _ (by omega) (by omega)).mono ?_) | (refine (in_no _ _ _ _ (by omega)).mono ?_)); rintro e w' ⟨rfl, hb⟩; replace HX := Lib.hid (kept8 HX.out hb); replace HB := Lib.hid (bel2 HB.out hb); clear hb; obtain ⟨c0, c1, c2, c3, c4, c5, c6, c7⟩ := box8 HX.out)
  go_ret
  exact ⟨rfl, HB.out⟩
set_option maxRecDepth 100000 in
set_option maxHeartbeats 2000000 in
theorem Sized_no (b y fr fa bu le ke va : Int) (W : World) (h : ¬ Shape fa bu le ke va) : Calls Try.prog 33 #[.agg #[.int .i64 b, .int .i64 y, .int .i64 fr, .int .i64 fa, .int .i64 bu, .int .i64 le, .int .i64 ke, .int .i64 va]] W fun e w' => e = .returned (.bool false) ∧ Below W.heap.size W w' := by
  by_cases nfa : 8 ≤ fa ∧ fa ≤ 64
  case neg =>
    clear h
    go_enter Try.func33, Try.ntmps33
    go_upto_region 1 with fail
    have hx := heap_alloc_new W (.cells #[.int .i64 b, .int .i64 y, .int .i64 fr, .int .i64 fa, .int .i64 bu, .int .i64 le, .int .i64 ke, .int .i64 va] 23)
    have hb1 : Below W.heap.size W (W.alloc (.cells #[.int .i64 b, .int .i64 y, .int .i64 fr, .int .i64 fa, .int .i64 bu, .int .i64 le, .int .i64 ke, .int .i64 va] 23)) := (Below.refl _ _).alloc (Nat.le_refl _) _
    obtain ⟨g, hg⟩ : ∃ g, g = W.heap.size := ⟨_, rfl⟩
    generalize W.alloc (.cells #[.int .i64 b, .int .i64 y, .int .i64 fr, .int .i64 fa, .int .i64 bu, .int .i64 le, .int .i64 ke, .int .i64 va] 23) = w1 at *
    rw [← hg] at hx ⊢
    have HX := Lib.hid hx
    have HB := Lib.hid hb1
    obtain ⟨c0, c1, c2, c3, c4, c5, c6, c7⟩ := box8 hx
    clear hx hb1 hg
    go_wp2_with (go_at_call 34; (first | (refine (in_yes _ _ _ _ (by omega) (by omega)).mono ?_) | (refine (in_no _ _ _ _ (by omega)).mono ?_)); rintro e w' ⟨rfl, hb⟩; replace HX := Lib.hid (kept8 HX.out hb); replace HB := Lib.hid (bel2 HB.out hb); clear hb; obtain ⟨c0, c1, c2, c3, c4, c5, c6, c7⟩ := box8 HX.out)
    go_ret
    exact ⟨rfl, HB.out⟩
  by_cases nke : 1 ≤ ke ∧ ke ≤ 64
  case neg =>
    have hw : IntKind.i64.wrap (2 * fa) = 2 * fa := by rw [IntKind.wrap_i64]; omega
    clear h
    obtain ⟨mfa, mfax⟩ := nfa
    go_enter Try.func33, Try.ntmps33
    go_upto_region 1 with fail
    have hx := heap_alloc_new W (.cells #[.int .i64 b, .int .i64 y, .int .i64 fr, .int .i64 fa, .int .i64 bu, .int .i64 le, .int .i64 ke, .int .i64 va] 23)
    have hb1 : Below W.heap.size W (W.alloc (.cells #[.int .i64 b, .int .i64 y, .int .i64 fr, .int .i64 fa, .int .i64 bu, .int .i64 le, .int .i64 ke, .int .i64 va] 23)) := (Below.refl _ _).alloc (Nat.le_refl _) _
    obtain ⟨g, hg⟩ : ∃ g, g = W.heap.size := ⟨_, rfl⟩
    generalize W.alloc (.cells #[.int .i64 b, .int .i64 y, .int .i64 fr, .int .i64 fa, .int .i64 bu, .int .i64 le, .int .i64 ke, .int .i64 va] 23) = w1 at *
    rw [← hg] at hx ⊢
    have HX := Lib.hid hx
    have HB := Lib.hid hb1
    obtain ⟨c0, c1, c2, c3, c4, c5, c6, c7⟩ := box8 hx
    clear hx hb1 hg
    go_wp2_with (go_at_call 34; (first | (refine (in_yes _ _ _ _ (by omega) (by omega)).mono ?_) | (refine (in_no _ _ _ _ (by omega)).mono ?_)); rintro e w' ⟨rfl, hb⟩; replace HX := Lib.hid (kept8 HX.out hb); replace HB := Lib.hid (bel2 HB.out hb); clear hb; obtain ⟨c0, c1, c2, c3, c4, c5, c6, c7⟩ := box8 HX.out)
    go_ret
    exact ⟨rfl, HB.out⟩
  by_cases nva : 0 ≤ va ∧ va ≤ 256
  case neg =>
    have hw : IntKind.i64.wrap (2 * fa) = 2 * fa := by rw [IntKind.wrap_i64]; omega
    clear h
    obtain ⟨mfa, mfax⟩ := nfa
    obtain ⟨mke, mkex⟩ := nke
    go_enter Try.func33, Try.ntmps33
    go_upto_region 1 with fail
    have hx := heap_alloc_new W (.cells #[.int .i64 b, .int .i64 y, .int .i64 fr, .int .i64 fa, .int .i64 bu, .int .i64 le, .int .i64 ke, .int .i64 va] 23)
    have hb1 : Below W.heap.size W (W.alloc (.cells #[.int .i64 b, .int .i64 y, .int .i64 fr, .int .i64 fa, .int .i64 bu, .int .i64 le, .int .i64 ke, .int .i64 va] 23)) := (Below.refl _ _).alloc (Nat.le_refl _) _
    obtain ⟨g, hg⟩ : ∃ g, g = W.heap.size := ⟨_, rfl⟩
    generalize W.alloc (.cells #[.int .i64 b, .int .i64 y, .int .i64 fr, .int .i64 fa, .int .i64 bu, .int .i64 le, .int .i64 ke, .int .i64 va] 23) = w1 at *
    rw [← hg] at hx ⊢
    have HX := Lib.hid hx
    have HB := Lib.hid hb1
    obtain ⟨c0, c1, c2, c3, c4, c5, c6, c7⟩ := box8 hx
    clear hx hb1 hg
    go_wp2_with (go_at_call 34; (first | (refine (in_yes _ _ _ _ (by omega) (by omega)).mono ?_) | (refine (in_no _ _ _ _ (by omega)).mono ?_)); rintro e w' ⟨rfl, hb⟩; replace HX := Lib.hid (kept8 HX.out hb); replace HB := Lib.hid (bel2 HB.out hb); clear hb; obtain ⟨c0, c1, c2, c3, c4, c5, c6, c7⟩ := box8 HX.out)
    go_ret
    exact ⟨rfl, HB.out⟩
  by_cases nbu : 2 * fa ≤ bu ∧ bu ≤ 512
  case neg =>
    have hw : IntKind.i64.wrap (2 * fa) = 2 * fa := by rw [IntKind.wrap_i64]; omega
    clear h
    obtain ⟨mfa, mfax⟩ := nfa
    obtain ⟨mke, mkex⟩ := nke
    obtain ⟨mva, mvax⟩ := nva
    go_enter Try.func33, Try.ntmps33
    go_upto_region 1 with fail
    have hx := heap_alloc_new W (.cells #[.int .i64 b, .int .i64 y, .int .i64 fr, .int .i64 fa, .int .i64 bu, .int .i64 le, .int .i64 ke, .int .i64 va] 23)
    have hb1 : Below W.heap.size W (W.alloc (.cells #[.int .i64 b, .int .i64 y, .int .i64 fr, .int .i64 fa, .int .i64 bu, .int .i64 le, .int .i64 ke, .int .i64 va] 23)) := (Below.refl _ _).alloc (Nat.le_refl _) _
    obtain ⟨g, hg⟩ : ∃ g, g = W.heap.size := ⟨_, rfl⟩
    generalize W.alloc (.cells #[.int .i64 b, .int .i64 y, .int .i64 fr, .int .i64 fa, .int .i64 bu, .int .i64 le, .int .i64 ke, .int .i64 va] 23) = w1 at *
    rw [← hg] at hx ⊢
    have HX := Lib.hid hx
    have HB := Lib.hid hb1
    obtain ⟨c0, c1, c2, c3, c4, c5, c6, c7⟩ := box8 hx
    clear hx hb1 hg
    go_wp2_with (go_at_call 34; (first | (refine (in_yes _ _ _ _ (by omega) (by omega)).mono ?_) | (refine (in_no _ _ _ _ (by omega)).mono ?_)); rintro e w' ⟨rfl, hb⟩; replace HX := Lib.hid (kept8 HX.out hb); replace HB := Lib.hid (bel2 HB.out hb); clear hb; obtain ⟨c0, c1, c2, c3, c4, c5, c6, c7⟩ := box8 HX.out)
    go_ret
    exact ⟨rfl, HB.out⟩
  by_cases nle : bu ≤ le ∧ le ≤ 1024
  case neg =>
    have hw : IntKind.i64.wrap (2 * fa) = 2 * fa := by rw [IntKind.wrap_i64]; omega
    clear h
    obtain ⟨mfa, mfax⟩ := nfa
    obtain ⟨mke, mkex⟩ := nke
    obtain ⟨mva, mvax⟩ := nva
    obtain ⟨mbu, mbux⟩ := nbu
    go_enter Try.func33, Try.ntmps33
    go_upto_region 1 with fail
    have hx := heap_alloc_new W (.cells #[.int .i64 b, .int .i64 y, .int .i64 fr, .int .i64 fa, .int .i64 bu, .int .i64 le, .int .i64 ke, .int .i64 va] 23)
    have hb1 : Below W.heap.size W (W.alloc (.cells #[.int .i64 b, .int .i64 y, .int .i64 fr, .int .i64 fa, .int .i64 bu, .int .i64 le, .int .i64 ke, .int .i64 va] 23)) := (Below.refl _ _).alloc (Nat.le_refl _) _
    obtain ⟨g, hg⟩ : ∃ g, g = W.heap.size := ⟨_, rfl⟩
    generalize W.alloc (.cells #[.int .i64 b, .int .i64 y, .int .i64 fr, .int .i64 fa, .int .i64 bu, .int .i64 le, .int .i64 ke, .int .i64 va] 23) = w1 at *
    rw [← hg] at hx ⊢
    have HX := Lib.hid hx
    have HB := Lib.hid hb1
    obtain ⟨c0, c1, c2, c3, c4, c5, c6, c7⟩ := box8 hx
    clear hx hb1 hg
    go_wp2_with (go_at_call 34; (first | (refine (in_yes _ _ _ _ (by omega) (by omega)).mono ?_) | (refine (in_no _ _ _ _ (by omega)).mono ?_)); rintro e w' ⟨rfl, hb⟩; replace HX := Lib.hid (kept8 HX.out hb); replace HB := Lib.hid (bel2 HB.out hb); clear hb; obtain ⟨c0, c1, c2, c3, c4, c5, c6, c7⟩ := box8 HX.out)
    go_ret
    exact ⟨rfl, HB.out⟩
  exact absurd ⟨nfa, nbu, nle, nke, nva⟩ h
end Cf
end Go.Proofs.Ytlabbmfiecbigaa

namespace Go.Proofs.Ytlabbmfiecbigaa
open Go.RowKit
namespace Cf
def inn (fa bu ke va : Int) : Int := 8 + 4 * fa + (fa - 1) * (1 + ke) + bu * (4 + ke + va)
def out (le ke va : Int) : Int := 8 + le * (3 + ke + va)
theorem mul_in {a c A C : Int} (h0 : 0 ≤ a) (h1 : a ≤ A) (h2 : 0 ≤ c) (h3 : c ≤ C) : 0 ≤ a * c ∧ a * c ≤ A * C :=
  ⟨Int.mul_nonneg h0 h2, Int.mul_le_mul h1 h3 h2 (Int.le_trans h0 h1)⟩
/-- the fewest bytes -/
def few (fa bu le ke va : Int) : Int := max (max 64 (inn fa bu ke va)) (out le ke va)
theorem inn_in {fa bu le ke va : Int} (h : Shape fa bu le ke va) : 0 ≤ inn fa bu ke va ∧ inn fa bu ke va ≤ 200000 := by
  obtain ⟨⟨h1, h1'⟩, ⟨h2, h2'⟩, ⟨h3, h3'⟩, ⟨h4, h4'⟩, h5, h5'⟩ := h
  obtain ⟨p0, p1⟩ := mul_in (a := fa - 1) (c := 1 + ke) (A := 63) (C := 65) (by omega) (by omega) (by omega) (by omega)
  obtain ⟨s0, s1⟩ := mul_in (a := bu) (c := 4 + ke + va) (A := 512) (C := 324) (by omega) (by omega) (by omega) (by omega)
  unfold inn
  generalize (fa - 1) * (1 + ke) = P at *
  generalize bu * (4 + ke + va) = Q at *
  omega
theorem out_in {fa bu le ke va : Int} (h : Shape fa bu le ke va) : 0 ≤ out le ke va ∧ out le ke va ≤ 400000 := by
  obtain ⟨⟨h1, h1'⟩, ⟨h2, h2'⟩, ⟨h3, h3'⟩, ⟨h4, h4'⟩, h5, h5'⟩ := h
  obtain ⟨p0, p1⟩ := mul_in (a := le) (c := 3 + ke + va) (A := 1024) (C := 323) (by omega) (by omega) (by omega) (by omega)
  unfold out
  generalize le * (3 + ke + va) = P at *
  omega
end Cf
end Go.Proofs.Ytlabbmfiecbigaa
namespace Go.Proofs.Ytlabbmfiecbigaa
open Go.RowKit
namespace Cf
/-- settings are right -/
def Right (b y fr fa bu le ke va : Int) : Prop := Shape fa bu le ke va ∧ (5 ≤ b ∧ b ≤ 65536) ∧ (8 ≤ fr ∧ fr ≤ 64) ∧ (few fa bu le ke va ≤ y ∧ y ≤ 65536)
end Cf
end Go.Proofs.Ytlabbmfiecbigaa
