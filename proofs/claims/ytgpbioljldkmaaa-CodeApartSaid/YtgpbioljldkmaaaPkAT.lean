/-
  PdqZ, PdqY, NodeSo, NodeVa, NodeAp, NodeRg. Put together by pack.py.
-/
import Derived.Test.YtgpbioljldkmaaaPkAJ
import Derived.Test.YtgpbioljldkmaaaPqPdqQ
import Derived.Test.YtgpbioljldkmaaaPkAK
import Derived.Test.YtgpbioljldkmaaaPqPdqI
import Derived.Test.YtgpbioljldkmaaaPqNodeKd
import Derived.RangeFuncBox
import Derived.RangeFuncLeaves
import Derived.WalkKit
import Derived.OwnWalkIn
import Derived.TacticsInMore
import Derived.LoopNIn
import Derived.LoopIn
import Derived.Maps.AppendAt
import Derived.Shelf.Abstract
import Derived.Sort.EveryDepth
import Derived.Test.YtgpbioljldkmaaaPqNodeRr

namespace Go.Proofs.Ytgpbioljldkmaaa
open Go.RowKit
namespace Pq
open Mem Hp
/-- where the sort stands: l was turned into L, of a0 to b0 only a to b are not in order yet -/
structure PQ (w wr : World) (g c n : Nat) (l L : List Nat) (a0 b0 a b : Nat) : Prop where
  us : US w wr g c n l L a0 b0
  re : Rest L a0 b0 a b
  bl : Blw L a b
  a0a : a0 ≤ a
  ab : a ≤ b
  bb0 : b ≤ b0
  b0n : b0 ≤ n
section
variable {w wr w' : World} {g c n a0 b0 a b : Nat} {l L L2 : List Nat}
theorem PQ.moved (h : PQ w wr g c n l L a0 b0 a b) (k : US wr w' g c n L L2 a b) : PQ w w' g c n l L2 a0 b0 a b := by
  have hb : b ≤ L.length := by rw [h.us.len]; exact Nat.le_trans h.bb0 h.b0n
  exact ⟨h.us.then_ (k.wide h.a0a h.bb0), h.re.moved k.mv hb h.a0a h.bb0, h.bl.moved k.mv hb, h.a0a, h.ab, h.bb0, h.b0n⟩
theorem PQ.kept (h : PQ w wr g c n l L a0 b0 a b) (hb : Below wr.heap.size wr w') : PQ w w' g c n l L a0 b0 a b := ⟨h.us.kept hb, h.re, h.bl, h.a0a, h.ab, h.bb0, h.b0n⟩
/-- the front goes: what is alike -/
theorem PQ.eq {m pv : Nat} (h : PQ w wr g c n l L a0 b0 a b) (k : US wr w' g c n L L2 a b) (e : EqParted L L2 a b pv m) (ha : 0 < a) (hp : gt L pv ≤ gt L (a - 1)) : PQ w w' g c n l L2 a0 b0 m b := by
  have h2 := h.moved k
  have hall : ∀ x, a ≤ x → x < b → gt L2 a ≤ gt L2 x := fun x h3 h4 => by
    have h5 := h2.bl ha x h3 h4
    have h6 := k.mv.out (a - 1) (.inl (by omega))
    rw [e.at_]
    omega
  have hmb := e.mb
  have ham := e.am
  refine ⟨h2.us, h2.re.same ham hmb e.lo e.hi hall, fun _ x h3 h4 => ?_, by have := h.a0a; omega, hmb, h.bb0, h.b0n⟩
  have h5 := e.lo (m - 1) (by omega) (by omega)
  have h6 := e.hi x h3 h4
  omega
/-- the left part is put in order -/
theorem PQ.left {m : Nat} {w2 : World} {L3 : List Nat} (h : PQ w wr g c n l L a0 b0 a b) (p : Parted L a b m) (k : US wr w2 g c n L L3 a m) (ho : Ord2 L3 a m) : PQ w w2 g c n l L3 a0 b0 (m + 1) b := by
  have hb : b ≤ L.length := by rw [h.us.len]; exact Nat.le_trans h.bb0 h.b0n
  have hmb := p.mb
  have h2 := h.moved (k.wide (Nat.le_refl _) (Nat.le_of_lt hmb))
  have p2 := p.movedL k.mv hb
  exact ⟨h2.us, h2.re.left p2 ho, fun _ x h3 h4 => p2.hi x (by omega) h4, by have := h.a0a; have := p.am; omega, by omega, h.bb0, h.b0n⟩
theorem PQ.right {m : Nat} {w2 : World} {L3 : List Nat} (h : PQ w wr g c n l L a0 b0 a b) (p : Parted L a b m) (k : US wr w2 g c n L L3 (m + 1) b) (ho : Ord2 L3 (m + 1) b) : PQ w w2 g c n l L3 a0 b0 a m := by
  have hb : b ≤ L.length := by rw [h.us.len]; exact Nat.le_trans h.bb0 h.b0n
  have ham := p.am
  have hmb := p.mb
  have h2 := h.moved (k.wide (by omega) (Nat.le_refl _))
  have p2 := p.movedR k.mv hb
  exact ⟨h2.us, h2.re.right p2 ho, fun h0 x h3 h4 => h2.bl h0 x h3 (by omega), h.a0a, ham, by have := h.bb0; omega, h.b0n⟩
theorem PQ.blL {m : Nat} (h : PQ w wr g c n l L a0 b0 a b) (p : Parted L a b m) : Blw L a m := fun h0 x h3 h4 => h.bl h0 x h3 (by have := p.mb; omega)
theorem PQ.blR {m : Nat} (_ : PQ w wr g c n l L a0 b0 a b) (p : Parted L a b m) : Blw L (m + 1) b := fun _ x h3 h4 => by
  rw [Nat.add_sub_cancel]
  exact p.hi x (by omega) h4
end
def PdqOk (N : Nat) : Prop := ∀ (w : World) (g c n a b : Nat) (z : Int) (l : List Nat), Ow 69 w g c (l.map nV) → l.length = n → a ≤ b → b ≤ n → n ≤ 80 → b - a = N → Blw l a b → Calls Try.prog 75 #[.slice (some ⟨g, 0, none⟩) n c, .int .i64 (a : Int), .int .i64 (b : Int), .int .i64 z] w fun e w' => e = .returned (.tuple #[]) ∧ ∃ L, US w w' g c n l L a b ∧ Ord2 L a b
set_option maxRecDepth 100000 in
set_option maxHeartbeats 4000000 in
theorem pdq_step (N : Nat) (ih : ∀ m, m < N → PdqOk m) : PdqOk N := by
  intro w g c n a0 b0 z0 l h hl hab0 hb0n hn hN hblw
  have H0 : Hid (PQ w w g c n l l a0 b0 a0 b0) := ⟨US.start h hl a0 b0, Rest.start l a0 b0, hblw, Nat.le_refl _, hab0, Nat.le_refl _, hb0n⟩
  have IH : Hid (∀ m, m < N → PdqOk m) := ih
  have HN := Lib.hid hN
  have hb80 : b0 ≤ 80 := by omega
  clear h hl hblw ih hN
  go_enter Try.func75, Try.ntmps75
  go_wp2_with fail
  go_loopg [1, 2, 3, 8, 9] (b0 - a0) (fun gk av bv zv xv yv wr => ∃ (a b : Nat) (z : Int) (x y : Bool) (L : List Nat), gk = b - a ∧ av = .int .i64 (a : Int) ∧ bv = .int .i64 (b : Int) ∧ zv = .int .i64 z ∧ xv = .bool x ∧ yv = .bool y ∧ Hid (PQ w wr g c n l L a0 b0 a b))
  case atStart => exact ⟨a0, b0, z0, true, true, l, rfl, rfl, rfl, rfl, rfl, rfl, H0⟩
  case round =>
    obtain ⟨a, b, z, x, y, L, rfl, rfl, rfl, rfl, rfl, rfl, HQ⟩ := hrel
    clear H0
    have hq := HQ.out
    have hab := hq.ab
    have hbb0 := hq.bb0
    have ha0a := hq.a0a
    have hbn : b ≤ n := Nat.le_trans hbb0 hb0n
    clear hq
    obtain ⟨m0, hm0⟩ : ∃ m, m = b - a := ⟨_, rfl⟩
    have hwl : IntKind.i64.wrap ((b : Int) - (a : Int)) = (m0 : Int) := by rw [IntKind.wrap_i64]; omega
    have HM0 := Lib.hid hm0
    clear hm0
    by_cases h12 : m0 ≤ 12
    · have cI := Lib.hid (insertion_any HQ.out.us.ow HQ.out.us.len hab hbn (by omega))
      go_wp2_with (go_at_call 78; refine cI.out.mono ?_; rintro e w2 ⟨rfl, L2, h1, h2⟩)
      exact bodyPost_ret (results_none rfl _ _ _) rfl ⟨rfl, L2, (HQ.out.moved h1).us, (HQ.out.moved h1).re.done h2.ord⟩
    have h12' : 12 < m0 := by omega
    by_cases hz : z = 0
    · subst hz
      have cI := Lib.hid (heapSort_any HQ.out.us.ow HQ.out.us.len hab hbn (by omega))
      go_wp2_with (go_at_call 79; refine cI.out.mono ?_; rintro e w2 ⟨rfl, L2, h1, h2⟩)
      exact bodyPost_ret (results_none rfl _ _ _) rfl ⟨rfl, L2, (HQ.out.moved h1).us, (HQ.out.moved h1).re.done h2.ord⟩
    have hz' : (z == 0) = false := by simpa using hz
    have h12a : a + 12 < b := by have := HM0.out; omega
    have hn1000 : n ≤ 1000 := by omega
    go_upto_if 35 with fail
    clear hwl hz hz' h12
    go_cut [3] (fun zv wx => ∃ (z : Int) (L : List Nat), zv = .int .i64 z ∧ Hid (PQ w wx g c n l L a0 b0 a b))
    case first =>
      cases x with
      | true =>
        go_wp2_with fail
        go_meet
        exact ⟨z, L, rfl, HQ⟩
      | false =>
        have cI := Lib.hid (break_any HQ.out.us.ow HQ.out.us.len h12a hbn hn)
        go_wp2_with (go_at_call 80; refine cI.out.mono ?_; rintro e w2 ⟨rfl, L2, h1⟩)
        have HQ2 := Lib.hid (HQ.out.moved h1)
        clear h1 cI HQ
        go_wp2_with fail
        go_meet
        exact ⟨_, L2, rfl, HQ2⟩
    case rest =>
    clear HQ L z
    obtain ⟨z, L, rfl, HQ⟩ := hcut
    have cP := Lib.hid (choosePivot_any HQ.out.us.ow HQ.out.us.len h12a hbn hn1000)
    go_upto_region 11 with (go_at_call 81; refine cP.out.mono ?_; rintro e w2 ⟨pv, hint, rfl, hh, hp1, hp2, hb2⟩)
    have HQ2 := Lib.hid (HQ.out.kept hb2)
    clear HQ cP hb2
    go_upto_if 50 with fail
    go_cut [11, 12] (fun pvv hv wx => ∃ (pv : Nat) (hint : Int) (L : List Nat), pvv = .int .i64 (pv : Int) ∧ hv = .int .i64 hint ∧ a ≤ pv ∧ pv < b ∧ Hid (hint = 0 ∨ hint = 1) ∧ Hid (PQ w wx g c n l L a0 b0 a b))
    case first =>
      by_cases h2 : hint = 2
      · subst h2
        obtain ⟨b1, hb1⟩ : ∃ b1, b1 = b - 1 := ⟨_, rfl⟩
        obtain ⟨d1, hd1⟩ : ∃ d, d = pv - a := ⟨_, rfl⟩
        obtain ⟨pv2, hpv2⟩ : ∃ p, p = b1 - d1 := ⟨_, rfl⟩
        have hw1 : IntKind.i64.wrap ((b : Int) - 1) = (b1 : Int) := by rw [IntKind.wrap_i64]; omega
        have hw2 : IntKind.i64.wrap ((pv : Int) - (a : Int)) = (d1 : Int) := by rw [IntKind.wrap_i64]; omega
        have hw3 : IntKind.i64.wrap ((b1 : Int) - (d1 : Int)) = (pv2 : Int) := by rw [IntKind.wrap_i64]; omega
        have cR := Lib.hid (reverse_any HQ2.out.us.ow HQ2.out.us.len (show a < b by omega) hbn hn1000)
        have HP3 := Lib.hid (show a ≤ pv2 ∧ pv2 < b by omega)
        clear hb1 hd1 hpv2 hh
        go_wp2_with (go_at_call 82; refine cR.out.mono ?_; rintro e w3 ⟨rfl, L3, h3⟩)
        have HQ3 := Lib.hid (HQ2.out.moved h3)
        clear h3 cR HQ2
        go_wp2_with fail
        go_meet
        exact ⟨pv2, 1, L3, rfl, rfl, HP3.out.1, HP3.out.2, Lib.hid (.inr rfl), HQ3⟩
      · have h2' : (hint == 2) = false := by simpa using h2
        have HH : Hid (hint = 0 ∨ hint = 1) := by unfold Hid; omega
        clear hh h2
        go_wp2_with fail
        go_meet
        exact ⟨pv, hint, L, rfl, rfl, hp1, hp2, HH, HQ2⟩
    case rest =>
    clear HQ2 hh hp1 hp2 L
    obtain ⟨pv2, hint2, L, rfl, rfl, hp1, hp2, HH, HQ⟩ := hcut
    obtain ⟨pv, rfl⟩ : ∃ pv, pv = pv2 := ⟨_, rfl⟩
    go_upto_region 15 with fail
    go_cut [68] (fun tv wx => (∃ t : Bool, tv = .bool t) ∧ Hid (PQ w wx g c n l L a0 b0 a b))
    case first =>
      have HQ1 := HQ
      clear HQ
      rcases HH.out with h | h
      · subst h
        cases x with
        | true =>
          cases y with
          | true =>
            go_wp2_with fail
            go_meet
            exact ⟨⟨_, rfl⟩, HQ1⟩
          | false =>
            go_wp2_with fail
            go_meet
            exact ⟨⟨_, rfl⟩, HQ1⟩
        | false =>
          go_wp2_with fail
          go_meet
          exact ⟨⟨_, rfl⟩, HQ1⟩
      · subst h
        cases x with
        | true =>
          cases y with
          | true =>
            go_wp2_with fail
            go_meet
            exact ⟨⟨_, rfl⟩, HQ1⟩
          | false =>
            go_wp2_with fail
            go_meet
            exact ⟨⟨_, rfl⟩, HQ1⟩
        | false =>
          go_wp2_with fail
          go_meet
          exact ⟨⟨_, rfl⟩, HQ1⟩
    case rest =>
    obtain ⟨⟨t1, rfl⟩, HQ'⟩ := hcut
    clear HQ HH
    go_upto_if 68 with fail
    go_cut [11] (fun pvv wx => ∃ (L : List Nat), pvv = .int .i64 (pv : Int) ∧ Hid (PQ w wx g c n l L a0 b0 a b))
    case first =>
      cases t1 with
      | false =>
        go_wp2_with fail
        go_meet
        exact ⟨L, rfl, HQ'⟩
      | true =>
        have cI := Lib.hid (partial_any HQ'.out.us.ow HQ'.out.us.len h12a hbn hn1000 HQ'.out.bl)
        go_upto_if 72 with (go_at_call 83; refine cI.out.mono ?_; rintro e w2 ⟨t2, L2, rfl, h1, h2⟩)
        have HQ2 := Lib.hid (HQ'.out.moved h1)
        have HT := Lib.hid h2
        clear h1 h2 cI HQ'
        cases t2 with
        | true =>
          go_wp2_with fail
          exact bodyPost_ret (results_none rfl _ _ _) rfl ⟨rfl, L2, HQ2.out.us, HQ2.out.re.done (HT.out trivial).ord⟩
        | false =>
          go_wp2_with fail
          go_meet
          exact ⟨L2, rfl, HQ2⟩
    case rest =>
    clear HQ' L
    obtain ⟨L, rfl, HQ⟩ := hcut
    go_upto_region 17 with fail
    go_cut [87] (fun tv wx => ∃ t : Bool, tv = .bool t ∧ Hid (t = true → 0 < a ∧ gt L pv ≤ gt L (a - 1)) ∧ Hid (PQ w wx g c n l L a0 b0 a b))
    case first =>
      rcases Nat.eq_zero_or_pos a with h0 | h0
      · subst h0
        go_quiet (fail)
        have HQ2 := Lib.hid (HQ.out.kept (below_dn _ nq))
        clear HQ
        go_wp2_with fail
        go_meet
        exact ⟨false, rfl, Lib.hid (fun h => by cases h), HQ2⟩
      · obtain ⟨a1, ha1⟩ : ∃ a1, a1 = a - 1 := ⟨_, rfl⟩
        have hw1 : IntKind.i64.wrap ((a : Int) - 1) = (a1 : Int) := by rw [IntKind.wrap_i64]; omega
        have ha1n : a1 < n := by omega
        have hpn : pv < n := by omega
        have d1 := HQ.out.us.cell ha1n
        have d2 := HQ.out.us.cell hpn
        have HA1 := Lib.hid ha1
        clear ha1
        by_cases hxy : gt L a1 < gt L pv
        · have cL := fun w => Lib.hid (Less_is (t := true) (x := gt L a1) (y := gt L pv) (by simpa using hxy) w)
          clear hxy
          go_quiet ((go_at_call 84; exact Calls.quiet_of_same ((cL _).out.mono fun e w' ⟨he, hw⟩ => ⟨he, hw.symm⟩)))
          have HQ2 := Lib.hid (HQ.out.kept (below_dn _ nq))
          clear HQ d1 d2
          go_wp2_with fail
          go_meet
          exact ⟨false, rfl, Lib.hid (fun h => by cases h), HQ2⟩
        · have cL := fun w => Lib.hid (Less_is (t := false) (x := gt L a1) (y := gt L pv) (by simpa using hxy) w)
          have HX : Hid (0 < a ∧ gt L pv ≤ gt L (a - 1)) := ⟨h0, by rw [← HA1.out]; omega⟩
          clear hxy
          go_quiet ((go_at_call 84; exact Calls.quiet_of_same ((cL _).out.mono fun e w' ⟨he, hw⟩ => ⟨he, hw.symm⟩)))
          have HQ2 := Lib.hid (HQ.out.kept (below_dn _ nq))
          clear HQ d1 d2
          go_wp2_with fail
          go_meet
          exact ⟨true, rfl, Lib.hid (fun _ => HX.out), HQ2⟩
    case rest =>
    obtain ⟨t, rfl, HT, HQ2⟩ := hcut
    clear HQ
    have HQ := HQ2
    clear HQ2
    cases t with
    | true =>
      have HT2 : Hid (0 < a ∧ gt L pv ≤ gt L (a - 1)) := HT.out rfl
      have cE := Lib.hid (partEq_any HQ.out.us.ow HQ.out.us.len hp1 hp2 hbn hn1000)
      clear HT
      go_wp2_with (go_at_call 85; refine cE.out.mono ?_; rintro e w2 ⟨m, rfl, L2, h1, h2⟩)
      have HQ3 := Lib.hid (HQ.out.eq h1 h2 HT2.out.1 HT2.out.2)
      have HM := Lib.hid (show a < m ∧ m ≤ b from ⟨h2.am, h2.mb⟩)
      clear h1 h2 cE HQ HT2
      go_wp2_with fail
      go_roundg (b - m)
      case measure => have := HM.out; omega
      case rel => exact ⟨m, b, z, x, y, L2, rfl, rfl, rfl, rfl, rfl, rfl, HQ3⟩
    | false =>
      clear HT
      have cE := Lib.hid (partition_any HQ.out.us.ow HQ.out.us.len hp1 hp2 hbn hn1000)
      go_upto_region 21 with (go_at_call 86; refine cE.out.mono ?_; rintro e w2 ⟨m, tp, rfl, L2, h1, h2⟩)
      have HQ3 := Lib.hid (HQ.out.moved h1)
      have HPA := Lib.hid h2
      have ham := h2.am
      have hmb := h2.mb
      clear h1 h2 cE HQ
      obtain ⟨ll, hll⟩ : ∃ d, d = m - a := ⟨_, rfl⟩
      obtain ⟨rl, hrl⟩ : ∃ d, d = b - m := ⟨_, rfl⟩
      obtain ⟨th, hth⟩ : ∃ d, d = m0 / 8 := ⟨_, rfl⟩
      obtain ⟨m1, hm1⟩ : ∃ d, d = m + 1 := ⟨_, rfl⟩
      have hw1 : IntKind.i64.wrap ((m : Int) - (a : Int)) = (ll : Int) := by rw [IntKind.wrap_i64]; omega
      have hw2 : IntKind.i64.wrap ((b : Int) - (m : Int)) = (rl : Int) := by rw [IntKind.wrap_i64]; omega
      have hw3 : (m0 : Int).tdiv 8 = (th : Int) := by rw [Int.tdiv_eq_ediv_of_nonneg (by omega)]; omega
      have hw4 : IntKind.i64.wrap (th : Int) = (th : Int) := by rw [IntKind.wrap_i64]; have := HM0.out; omega
      have hw5 : IntKind.i64.wrap ((m : Int) + 1) = (m1 : Int) := by rw [IntKind.wrap_i64]; omega
      have HE := Lib.hid (show ll = m - a ∧ rl = b - m ∧ m1 = m + 1 from ⟨hll, hrl, hm1⟩)
      clear hll hrl hth hm1
      by_cases hlr : ll < rl
      · have cI : Hid (Calls Try.prog 75 #[.slice (some ⟨g, 0, none⟩) n c, .int .i64 (a : Int), .int .i64 (m : Int), .int .i64 z] w2 fun e w' => e = .returned (.tuple #[]) ∧ ∃ L, US w2 w' g c n L2 L a m ∧ Ord2 L a m) := IH.out (m - a) (by have := HN.out; omega) w2 g c n a m z L2 HQ3.out.us.ow HQ3.out.us.len ham (by omega) hn rfl (HQ3.out.blL HPA.out)
        go_wp2_with (go_at_call 75; refine cI.out.mono ?_; rintro e w3 ⟨rfl, L3, h1, h2⟩)
        have HQ4 : Hid (PQ w w3 g c n l L3 a0 b0 m1 b) := by
          rw [HE.out.2.2]
          exact HQ3.out.left HPA.out h1 h2
        clear h1 h2 cI HQ3
        go_wp2_with fail
        go_roundg (b - m1)
        case measure => have := HE.out; omega
        case rel => exact ⟨m1, b, z, _, tp, L3, rfl, rfl, rfl, rfl, rfl, rfl, HQ4⟩
      · have hlr' : rl ≤ ll := by omega
        have cI : Hid (Calls Try.prog 75 #[.slice (some ⟨g, 0, none⟩) n c, .int .i64 (m1 : Int), .int .i64 (b : Int), .int .i64 z] w2 fun e w' => e = .returned (.tuple #[]) ∧ ∃ L, US w2 w' g c n L2 L m1 b ∧ Ord2 L m1 b) := IH.out (b - m1) (by have := HN.out; have := HE.out; omega) w2 g c n m1 b z L2 HQ3.out.us.ow HQ3.out.us.len (by have := HE.out; omega) hbn hn rfl (by rw [HE.out.2.2]; exact HQ3.out.blR HPA.out)
        go_wp2_with (go_at_call 75; refine cI.out.mono ?_; rintro e w3 ⟨rfl, L3, h1, h2⟩)
        have HQ4 : Hid (PQ w w3 g c n l L3 a0 b0 a m) := by
          rw [HE.out.2.2] at h1 h2
          exact HQ3.out.right HPA.out h1 h2
        clear h1 h2 cI HQ3
        go_wp2_with fail
        go_roundg (m - a)
        case measure => omega
        case rel => exact ⟨a, m, z, _, tp, L3, rfl, rfl, rfl, rfl, rfl, rfl, HQ4⟩
theorem pdq_any (N : Nat) : PdqOk N := Nat.strongRecOn N pdq_step
end Pq
end Go.Proofs.Ytgpbioljldkmaaa

namespace Go.Proofs.Ytgpbioljldkmaaa
open Go.RowKit
namespace Pq
open Mem Hp
set_option maxRecDepth 100000 in
set_option maxHeartbeats 4000000 in
theorem Sort_any {w : World} {g c n : Nat} {l : List Nat} (h : Ow 69 w g c (l.map nV)) (hl : l.length = n) (h1 : 1 ≤ n) (hn : n ≤ 80) : Calls Try.prog 70 #[.slice (some ⟨g, 0, none⟩) n c] w fun e w' => e = .returned (.tuple #[]) ∧ ∃ L, US w w' g c n l L 0 n ∧ Ord2 L 0 n := by
  have cL := fun w => Lib.hid (Len_small n h1 hn w)
  have cP := fun z => Lib.hid (pdq_any n w g c n 0 n z l h hl (Nat.zero_le _) (Nat.le_refl _) hn rfl (fun h0 => by omega))
  have hw1 : IntKind.u64.wrap (n : Int) = (n : Int) := by rw [IntKind.wrap_u64]; omega
  clear h hl h1 hn
  go_enter Try.func70, Try.ntmps70
  go_wp2_with (first
    | (go_at_call 76; refine (cL _).out.mono ?_; rintro e w' ⟨z, rfl, rfl, -, -, -⟩)
    | (go_at_call 75; refine (cP _).out.mono ?_; rintro e w2 ⟨rfl, L, h1, h2⟩))
  go_end0
  exact ⟨rfl, L, h1, h2⟩
end Pq
end Go.Proofs.Ytgpbioljldkmaaa

namespace Go.Proofs.Ytgpbioljldkmaaa
open Go.RowKit
namespace No
open Mem Lx Bu Lf Fa Hp Pq
theorem US.srtK {w wr : World} {g c n : Nat} {K L : List Nat} (h : US w wr g c n K L 0 n) (ho : Ord2 L 0 n) : SrtK wr (some ⟨g, 0, none⟩) K L n := by
  refine ⟨fun _ => ⟨g, 0, rfl, h.ow.lt, fun i x hx j u hu => ?_⟩, h.mv.perm, h.len, ho⟩
  obtain ⟨hi, ei⟩ := List.getElem?_eq_some_iff.1 hx
  have hc := h.cell (i := i) (by rw [← h.len]; exact hi)
  rw [gt_eq hi, ei] at hc
  match j, hu with
  | 0, hu =>
    obtain rfl : Value.int .u32 (x : Int) = u := by simpa [KdK] using hu
    simpa [KdK] using hc
set_option maxRecDepth 100000 in
set_option maxHeartbeats 4000000 in
theorem Sorted_any {W : World} {sv : Value} {K : List Nat} {n : Nat} (hn : K.length = n) (h1 : 1 ≤ n) (h80 : n ≤ 80)
    (cC : ∀ W1, Below W.heap.size W W1 → Calls Try.prog 69 #[sv] W1 fun e w2 => ∃ g c, e = .returned (.slice (some ⟨g, 0, none⟩) n c) ∧ W1.heap.size ≤ g ∧ Ow 69 w2 g c (K.map nV) ∧ Below W1.heap.size W1 w2) :
    Calls Try.prog 59 #[sv] W fun e w2 => ∃ A2 c2 L, e = .returned (.slice A2 n c2) ∧ SrtK w2 A2 K L n ∧ Below W.heap.size W w2 := by
  have cC' := Lib.hid (cC W (Below.refl _ _))
  have cS := Lib.hid (fun (w : World) (g c : Nat) (h : Ow 69 w g c (K.map nV)) => Sort_any h hn h1 h80)
  clear cC hn h1 h80
  go_enter Try.func59, Try.ntmps59
  go_wp2_with (first
    | (go_at_call 69; refine cC'.out.mono ?_; rintro e w2 ⟨g, c, rfl, hg, ho, hb2⟩
       have HB2 := Lib.hid hb2
       have HG := Lib.hid hg
       have cS' := Lib.hid (cS.out w2 g c ho)
       clear hb2 hg ho)
    | (go_at_call 70; refine cS'.out.mono ?_; rintro e w3 ⟨rfl, L, hus, ho⟩))
  go_ret
  have hi := hus.hi
  have hs := HB2.out.size
  have hg := HG.out
  exact ⟨_, _, L, rfl, US.srtK hus ho, HB2.out.trans ⟨hi.os, hi.tape, hi.output, hi.size, fun k hk => hi.block k (by omega) (by simp; omega)⟩⟩
end No
end Go.Proofs.Ytgpbioljldkmaaa

namespace Go.Proofs.Ytgpbioljldkmaaa
open Go.RowKit
namespace No
open Mem Lx Bu Lf Fa Hp Pq
attribute [local go_sem] Oper.semAt_some
set_option maxRecDepth 100000 in
set_option maxHeartbeats 4000000 in
theorem Values1_in (F : Fence) (n : Nat) (hf : F.fn 71) (hro : F.round = none) (hn : 1 ≤ n) (l Bs n₀ b off len cap : Nat) (zs : List Nat) (hlen : zs.length = len) (hreach : len ≤ 80) (hb : b < n₀) (J Jx : List Nat → World → Prop)
    (hY : ∀ pre x W, J pre W → pre.length < len → YieldAt F (n - 1) Try.prog l #[nV x] W fun e W' => (e = .returned (.bool true) ∧ J (pre ++ [x]) W' ∧ Below n₀ W W') ∨ (e = .returned (.bool false) ∧ Jx (pre ++ [x]) W'))
    (W : World) (hBs : W.cell? ⟨Bs, 0, none⟩ = some (.slice (some ⟨b, off, none⟩) len cap)) (hc : ∀ j, j < len → W.cell? ⟨b, off + j, none⟩ = some (nV (gt zs j))) (h0 : J [] W) :
    CallsIn F n Try.prog 71 #[.func (.yield l) #[] #[], .pointer (some ⟨Bs, 0, none⟩)] W fun e W' => (∃ v, e = .returned v) ∧ (J zs W' ∨ ∃ pre, Jx pre W') := by
  have HT : Hid (∀ k, k < len → zs.take (k + 1) = zs.take k ++ [gt zs k]) := fun k hk => by
    rw [gt_eq (by omega), List.take_append_getElem (by omega)]
  have HA : Hid (zs.take len = zs) := by rw [← hlen]; exact Lib.hid (List.take_length)
  have HL : Hid (∀ k, k < len → (zs.take k).length < len) := fun k hk => by rw [List.length_take]; omega
  generalize hG : gt zs = z at *
  refine callsIn_of_wp Try.func71 rfl hf ?_ hro
  simp only [Try.ntmps71, List.size_toArray, List.length_cons, List.length_nil, Nat.reduceAdd, Nat.reduceSub, Array.replicate_succ, Array.replicate_zero, List.push_toArray, List.append_toArray, List.nil_append, List.cons_append]
  gi_wp2
  gi_loopw [7] (fun i wr => ∃ k : Nat, k ≤ len ∧ i = .int .i64 k ∧ Hid (J (zs.take k) wr) ∧ Hid (Below n₀ W wr))
    (fun i _ => len - (intOf i).toNat)
  case atStart => exact ⟨0, Nat.zero_le _, rfl, h0, Below.refl _ _⟩
  case round =>
    obtain ⟨k, hk, rfl, hJs, hnx⟩ := hrel
    by_cases hlt : k < len
    · obtain ⟨fn, tmps, assign, body, hy, hR⟩ := hY _ (z k) wr hJs.out (HL.out k hlt)
      have hcx : wr.cell? ⟨b, off + k, none⟩ = some (nV (z k)) := (hnx.out.cell (p := ⟨b, off + k, none⟩) hb).trans (hc k hlt)
      unfold nV at hcx hy
      gi_wp2
      refine hR.mono ?_
      rintro e W3 (⟨rfl, hJ3, hk3⟩ | ⟨rfl, hJx3⟩)
      · gi_wp2
        go_roundw
        case rel => exact ⟨k + 1, by omega, by simp, by rw [HT.out k hlt]; exact hJ3, hnx.out.trans hk3⟩
        case measure => simp [intOf]; omega
      · gi_wp2
        refine bodyPost_ret (results_none rfl _ _ _) rfl ?_
        exact ⟨⟨_, rfl⟩, .inr ⟨_, hJx3⟩⟩
    · obtain rfl : k = len := by omega
      gi_wp2
      go_end0
      exact ⟨⟨_, rfl⟩, .inl (by rw [← HA.out]; exact hJs.out)⟩
set_option maxRecDepth 100000 in
set_option maxHeartbeats 4000000 in
theorem Values_any (a : Option Addr) (len cap : Nat) (w : World) :
    Calls Try.prog 60 #[.slice a len cap] w fun e w' => e = .returned (.func (.func 71) #[] #[.pointer (some ⟨w.heap.size, 0, none⟩)]) ∧ w' = w.alloc (.cells #[.slice a len cap] 24) := by
  go_enter Try.func60, Try.ntmps60
  go_wp2
  go_ret
  exact ⟨rfl, rfl⟩
theorem Values_stops (F : Fence) (n : Nat) (hf : F.fn 71) (hro : F.round = none) (hn : 1 ≤ n) (Bs n₀ b off cap : Nat) (zs : List Nat) (hl : zs.length ≤ 80) (w : World) (hBs : Bs < w.heap.size) (hn₀ : n₀ ≤ w.heap.size) (hb : b < n₀)
    (hbx : w.cell? ⟨Bs, 0, none⟩ = some (.slice (some ⟨b, off, none⟩) zs.length cap)) (hc : ∀ j, j < zs.length → w.cell? ⟨b, off + j, none⟩ = some (nV (gt zs j))) :
    SeqStopsK F n Try.prog 71 #[.pointer (some ⟨Bs, 0, none⟩)] (fun x : Nat => #[nV x]) (Below n₀) (fun ys => ys = zs) (fun _ => True) zs.length w := fun l J Jx W hW _ _ hY h0 =>
  (Values1_in F n hf hro hn l Bs n₀ b off zs.length cap zs rfl hl hb J Jx hY W ((hW.cell (p := ⟨Bs, 0, none⟩) hBs).trans hbx) (fun j hj => ((hW.cell (p := ⟨b, off + j, none⟩) (Nat.lt_of_lt_of_le hb hn₀))).trans (hc j hj)) h0).mono fun _ _ ⟨h1, h2⟩ => ⟨h1, h2.elim (fun h => .inl ⟨zs, rfl, h⟩) (fun ⟨pre, h⟩ => .inr ⟨pre, trivial, h⟩)⟩
end No
end Go.Proofs.Ytgpbioljldkmaaa

namespace Go.Proofs.Ytgpbioljldkmaaa
open Go.RowKit
namespace No
open Mem Lx Bu Lf Fa Hp Pq
attribute [local go_sem] Oper.semAt_some
theorem info_u32 : (Try.prog.info? 69).map (fun i => (i.zero, i.size, i.bytes)) = some (some (.int .u32 0), 1, 4) := by kernel_rfl
theorem und_u32s : Try.prog.underlying 24 = some (.slice 69) := by kernel_rfl
set_option maxRecDepth 100000 in
set_option maxHeartbeats 4000000 in
theorem AppendSeq_in (F : Fence) (n : Nat) (hf : F.fn 74) (hg : F.fn 71) (hro : F.round = none) (hn : 3 ≤ n) (Bs b off cap : Nat) (zs : List Nat) (hl : zs.length ≤ 80) (w : World) (hBs : Bs < w.heap.size) (hb : b < w.heap.size)
    (hbx : w.cell? ⟨Bs, 0, none⟩ = some (.slice (some ⟨b, off, none⟩) zs.length cap)) (hc : ∀ j, j < zs.length → w.cell? ⟨b, off + j, none⟩ = some (nV (gt zs j))) :
    CallsIn F n Try.prog 74 #[.slice none 0 0, .func (.func 71) #[] #[.pointer (some ⟨Bs, 0, none⟩)]] w fun e W' => ∃ v, e = .returned v ∧ W'.ownsRow w.heap.size 69 1 v zs.length (zs.map nV) ∧ Below w.heap.size w W' := by
  have h1 : 1 ≤ n := by omega
  obtain ⟨i0, hi, hz0, hz1, hz2⟩ := info_parts info_u32
  refine callsIn_of_wp_marks Try.func74 rfl hf ?_ hro
  simp only [Try.ntmps74, List.size_toArray, List.length_cons, List.length_nil, Nat.reduceAdd, Nat.reduceSub, Array.replicate_succ, Array.replicate_zero, List.push_toArray, List.append_toArray, List.nil_append, List.cons_append]
  gi_wp2
  have bO := Boxed.new w 24 (.slice none 0 0)
  have hB0 : Below w.heap.size w (w.alloc (.cells #[.slice none 0 0] 24)) := (Below.refl _ w).alloc (Nat.le_refl _) _
  refine wpIn_rangeFunc_ownG hro h1 (gf := 71) (lb := #[.pointer (some ⟨Bs, 0, none⟩)]) rfl hg (Go.Proofs.enters_of Try.func71 (by kernel_rfl) rfl)
    (Values_stops F (n - 1) hg hro (by omega) Bs w.heap.size b off cap zs hl w hBs (Nat.le_refl _) hb hbx hc) belowK_t (belowK_b (by simp)) hB0 (fun _ => rfl)
    (fun pre W => (∃ v, Boxed W w.heap.size 24 v ∧ W.ownsRow w.heap.size 69 1 v pre.length (pre.map nV) ∧ True) ∧ Below w.heap.size w W)
    (fun _ _ _ => False)
    (OwnFrom.and (Own.from (holdsRow_own w.heap.size w.heap.size 24 69 1 (fun pre : List Nat => pre.length) (fun pre : List Nat => pre.map nV) (fun _ _ => True)) _) (ownFrom_below (Nat.le_refl _) (by simp)))
    (fun _ _ _ _ _ hs _ _ => hs)
    ⟨⟨_, bO, World.ownsRow_nil _ _ _ _, trivial⟩, hB0⟩
    (fun x => { tmps := #[.slice none 0 0, .func (.func 71) #[] #[.pointer (some ⟨Bs, 0, none⟩)], .pointer (some ⟨w.heap.size, 0, none⟩), undef, .slice none 0 0, nV x, .func (.func 71) #[] #[.pointer (some ⟨Bs, 0, none⟩)], nV x, undef, undef, undef, undef, undef], defers := [] }) ?assign ?body ?done ?stop
  case assign =>
    intro l x W K hK
    unfold nV at hK ⊢
    gi_wp2
    exact hK
  case body =>
    rintro l pre x W ⟨⟨v, hv, hrow, -⟩, hB⟩ hlt
    have hc := hv.cell
    unfold nV
    gi_wp2_with (gi_at_builtin; refine wpListIn_append_own _ rfl _ _ 24 rfl w.heap.size 69 i0 (.int .u32 0) 1 4 und_u32s hi hz0 hz1 hz2 rfl (by decide) _ _ _ rfl (hrow.alloc _) ⟨W.heap.size, 0, none⟩ 1 1 [.int .u32 x] rfl rfl (cell_one_new _ _ _) (by simp [Value.oneCell']) (by unfold maxLen; omega) (by omega) (by have := hB.size; simp; omega) ?_; intro v' w1 hown' hgrow _; obtain ⟨g', cap', rfl⟩ := ownsRow_succ hown'; obtain ⟨hv1, hv2, hr2, hk2, hb2⟩ := hv.appended (by decide) hrow hB.size (Nat.le_refl _) hown' hgrow; have hc1 := hv1.cell; have hf1 := hv1.frozen)
    exact ⟨hk2.from _, hb2, ⟨_, hv2, by rw [List.length_append, List.map_append]; exact hr2, trivial⟩, hB.trans hb2⟩
  case done =>
    rintro D ys W hD rfl ⟨⟨v, hv, hrow, -⟩, hB⟩ hK
    have hc := hv.cell
    gi_wp2
    refine ⟨by simp, .inl ⟨_, _, rfl, run_takeDeferred hK, ?_⟩⟩
    exact ⟨_, results_tmp rfl _ _ _, v, rfl, ownsRow_putObj hrow _ hK rfl, hB.trans (belowK_b (w := w) (Nat.le_refl _) W D _ _ (by simp at hD; omega) hK rfl rfl)⟩
  case stop =>
    rintro D c pre W _ _ h _
    exact h.elim
set_option maxRecDepth 100000 in
set_option maxHeartbeats 4000000 in
theorem Collect_any (Bs b off cap : Nat) (zs : List Nat) (h1 : 1 ≤ zs.length) (hl : zs.length ≤ 80) (w : World) (hBs : Bs < w.heap.size) (hb : b < w.heap.size)
    (hbx : w.cell? ⟨Bs, 0, none⟩ = some (.slice (some ⟨b, off, none⟩) zs.length cap)) (hc : ∀ j, j < zs.length → w.cell? ⟨b, off + j, none⟩ = some (nV (gt zs j))) :
    Calls Try.prog 69 #[.func (.func 71) #[] #[.pointer (some ⟨Bs, 0, none⟩)]] w fun e W' => ∃ g c, e = .returned (.slice (some ⟨g, 0, none⟩) zs.length c) ∧ w.heap.size ≤ g ∧ Ow 69 W' g c (zs.map nV) ∧ Below w.heap.size w W' := by
  refine calls_of_every_depth (L := [69, 74, 71]) (n := 4) fun D => ?_
  refine callsIn_of_wp Try.func69 rfl (by simp) ?_ rfl
  simp only [Try.ntmps69, List.size_toArray, List.length_cons, List.length_nil, Nat.reduceAdd, Nat.reduceSub, Array.replicate_succ, Array.replicate_zero, List.push_toArray, List.append_toArray, List.nil_append, List.cons_append]
  gi_wp2_with (gi_at_call 74; refine (AppendSeq_in _ _ (by simp) (by simp) rfl (by omega) Bs b off cap zs hl _ hBs hb hbx hc).mono ?_; rintro e w' ⟨v, rfl, hrow, hbl⟩)
  go_ret
  obtain ⟨m, hm⟩ : ∃ m, zs.length = m + 1 := ⟨zs.length - 1, by omega⟩
  have hrow' := hrow
  rw [hm] at hrow'
  obtain ⟨g, c, rfl⟩ := ownsRow_succ hrow'
  rw [← hm] at hrow ⊢
  obtain ⟨ho, hg, -⟩ := ow_of hrow
  exact ⟨g, c, rfl, hg, ho, hbl⟩
end No
end Go.Proofs.Ytgpbioljldkmaaa

namespace Go.Proofs.Ytgpbioljldkmaaa
open Go.RowKit
namespace No
open Mem Lx Bu Lf Fa Hp Pq
theorem mayKids_any {W : World} (c : Cfg) {A : Option Addr} {cc : Nat} {K : List Nat} (h : KL W A K) (hl : K.length ≤ 80) (hkid : ∀ k, k ∈ K → k < 4294967296) :
    Calls Try.prog 37 #[.agg (cfCs c), .slice A K.length cc] W fun e w' => (∃ v : Bool, e = .returned (.bool v) ∧ (v = true ↔ KidsP c K)) ∧ Below W.heap.size W w' := by
  refine mayKidsS_any c hl hkid fun h1 W1 hb1 => ?_
  obtain ⟨b, o, rfl, hbl, hcs⟩ := h (by omega)
  have hcell : ∀ (W2 : World), Below W.heap.size W W2 → ∀ j, j < K.length → W2.cell? ⟨b, o + j, none⟩ = some (nV (gt K j)) := fun W2 hb2 j hj => by
    refine (hb2.cell (p := ⟨b, o + j, none⟩) hbl).trans ?_
    rw [gt_eq hj]
    have := hcs j K[j] (List.getElem?_eq_getElem hj) 0 (nV K[j]) (by simp [KdK, nV])
    simpa [KdK] using this
  refine (Values_any (some ⟨b, o, none⟩) K.length cc W1).mono ?_
  rintro e w1 ⟨rfl, rfl⟩
  have hB := (Below.refl W1.heap.size W1).alloc (Nat.le_refl _) (.cells #[.slice (some ⟨b, o, none⟩) K.length cc] 24)
  refine ⟨_, rfl, hB, ?_⟩
  have hx := heap_alloc_new W1 (.cells #[.slice (some ⟨b, o, none⟩) K.length cc] 24)
  have hsz : W1.heap.size < (W1.alloc (.cells #[.slice (some ⟨b, o, none⟩) K.length cc] 24)).heap.size := by simp
  have hBW := bel3 hb1 hB
  generalize W1.alloc (.cells #[.slice (some ⟨b, o, none⟩) K.length cc] 24) = w1 at *
  have hs1 := hBW.size
  have hbx : w1.cell? ⟨W1.heap.size, 0, none⟩ = some (.slice (some ⟨b, o, none⟩) K.length cc) := by simp [World.cell?, hx]
  exact Sorted_any rfl h1 hl fun W2 hb2 => Collect_any W1.heap.size b o cc K h1 hl W2 (Nat.lt_of_lt_of_le hsz hb2.size) (Nat.lt_of_lt_of_le hbl (Nat.le_trans hs1 hb2.size)) ((hb2.cell (p := ⟨W1.heap.size, 0, none⟩) hsz).trans hbx) (hcell W2 (bel3 hBW hb2))
theorem Right_sz {W : World} (c : Cfg) (lo hi : ByteArray) (top : Bool) {n : Nd} {a : At} (h : NdIn W n a) (hf : Sz n) (hk8 : n.kids.length ≤ 80) (hkid : ∀ k, k ∈ n.kids → k < 4294967296) : Calls Try.prog 21 #[.agg (cfCs c), spanV lo hi top, .agg (ndCs n a)] W fun e w' => (∃ v : Bool, e = .returned (.bool v) ∧ (v = true ↔ RightN c lo hi top n)) ∧ Below W.heap.size W w' :=
  RightK_any c lo hi top h hf hk8 fun _ hb => mayKids_any c (h.kept hb).kids.1 hk8 hkid
theorem Right_any {W : World} (c : Cfg) (lo hi : ByteArray) (top : Bool) {n : Nd} {a : At} (h : NdIn W n a) (hf : Fit n) (hkid : ∀ k, k ∈ n.kids → k < 4294967296) (_ : lo.size ≤ 200) (_ : hi.size ≤ 200) : Calls Try.prog 21 #[.agg (cfCs c), spanV lo hi top, .agg (ndCs n a)] W fun e w' => (∃ v : Bool, e = .returned (.bool v) ∧ (v = true ↔ RightN c lo hi top n)) ∧ Below W.heap.size W w' :=
  Right_sz c lo hi top h ⟨fun p hp => Nat.le_trans (hf.pk p hp) (by decide), fun p hp => Nat.le_trans (hf.bk p hp) (by decide), fun p hp => Nat.le_trans (hf.qk p hp) (by decide), Nat.le_trans hf.kids (by decide), Nat.le_trans hf.piv (by decide), Nat.le_trans hf.buf (by decide), Nat.le_trans hf.prs (by decide)⟩ hf.kids hkid
end No
end Go.Proofs.Ytgpbioljldkmaaa
