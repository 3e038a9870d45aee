/-
  NodeRt NodeRr NodeKd NodeSo NodeVa NodeAp NodeRg, in one text. Written by merge.py.
-/
import Derived.Test.YtlcdjbleeanpbaaNodeR3
import Derived.Test.YtlcdjbleeanpbaaRightC
import Derived.Test.YtlcdjbleeanpbaaPdqW
import Derived.Test.YtlcdjbleeanpbaaPdqV
import Derived.RangeFuncBox
import Derived.RangeFuncLeaves
import Derived.WalkKit
import Derived.OwnWalkIn
import Derived.TacticsInMore
import Derived.LoopNIn
import Derived.LoopIn
import Derived.Maps.AppendAt
import Derived.Shelf.Abstract
import Derived.Sort.EveryDepth

namespace Go.Proofs.Ytlcdjbleeanpbaa
open Go.RowKit
namespace No
open Mem Lx Bu Lf Fa
set_option maxRecDepth 100000 in
set_option maxHeartbeats 4000000 in
theorem KeyC_any (c : Cfg) (key : ByteArray) (W : World) : Calls Try.prog 11 #[.agg (cfCs c), .string key] W fun e w' => e = .returned (.bool (keyB c key)) ∧ Below W.heap.size W w' := by
  have HP := Lib.hid (show keyB c key = (decide (1 ≤ (key.size : Int)) && decide ((key.size : Int) ≤ c.key)) from rfl)
  generalize keyB c key = v at *
  unfold cfCs
  obtain ⟨cB, cY, cF, cN, cU, cL, cK, cV⟩ := c
  simp only at *
  by_cases h1 : 1 ≤ (key.size : Int)
  · have HR : Hid (v = decide ((key.size : Int) ≤ cK)) := Lib.hid (by rw [HP.out]; simp [h1])
    clear HP
    go_enter Try.func11, Try.ntmps11
    go_wp2_with fail
    go_ret
    exact ⟨ret_bool HR.out.symm, (Below.refl _ _).alloc (Nat.le_refl _) _⟩
  · have HR : Hid (v = false) := Lib.hid (by rw [HP.out]; simp [h1])
    have h2 : decide (1 ≤ (key.size : Int)) = false := by simpa using h1
    clear HP h1
    go_enter Try.func11, Try.ntmps11
    go_wp2_with fail
    go_ret
    exact ⟨ret_bool HR.out.symm, (Below.refl _ _).alloc (Nat.le_refl _) _⟩
theorem Key_any (c : Cfg) (key : ByteArray) (W : World) (_ : key.size ≤ 1000) : Calls Try.prog 11 #[.agg (cfCs c), .string key] W fun e w' => e = .returned (.bool (keyB c key)) ∧ Below W.heap.size W w' := KeyC_any c key W
set_option maxRecDepth 100000 in
set_option maxHeartbeats 4000000 in
theorem mayStand_any (c : Cfg) (lo hi : ByteArray) (top : Bool) (key : ByteArray) (W : World) : Calls Try.prog 50 #[.agg (cfCs c), spanV lo hi top, .string key] W fun e w' => e = .returned (.bool (keyB c key && inB lo hi top key)) ∧ Below W.heap.size W w' := by
  have cK := fun w => Lib.hid (KeyC_any c key w)
  have cI := fun w => Lib.hid (In_any lo hi top key w)
  unfold spanV at cI ⊢
  unfold cfCs at *
  obtain ⟨cB, cY, cF, cN, cU, cL, cKy, cV⟩ := c
  simp only at *
  generalize keyB ⟨cB, cY, cF, cN, cU, cL, cKy, cV⟩ key = v at *
  generalize inB lo hi top key = u at *
  go_enter Try.func50, Try.ntmps50
  go_upto_region 1 with fail
  obtain ⟨h0, h1, hb⟩ := two_new W (.cells #[.int .i64 cB, .int .i64 cY, .int .i64 cF, .int .i64 cN, .int .i64 cU, .int .i64 cL, .int .i64 cKy, .int .i64 cV] 23) (.cells #[.string lo, .string hi, .bool top] 25)
  generalize (W.alloc (.cells #[.int .i64 cB, .int .i64 cY, .int .i64 cF, .int .i64 cN, .int .i64 cU, .int .i64 cL, .int .i64 cKy, .int .i64 cV] 23)).alloc (.cells #[.string lo, .string hi, .bool top] 25) = w1 at *
  obtain ⟨g, hg⟩ : ∃ g, g = W.heap.size := ⟨_, rfl⟩
  rw [← hg] at h0 h1
  simp only [← hg]
  obtain ⟨d0, d1, d2, d3, d4, d5, d6, d7⟩ := box8 h0
  have H1 := Lib.hid h1
  have HB := Lib.hid hb
  clear h0 h1 hb hg
  cases v with
  | false =>
    go_wp2_with (go_at_call 11; refine (cK _).out.mono ?_; rintro e w2 ⟨rfl, hb2⟩)
    go_ret
    exact ⟨by simp, bel3 HB.out hb2⟩
  | true =>
    go_wp2_with (first
      | (go_at_call 11; refine (cK _).out.mono ?_; rintro e w2 ⟨rfl, hb2⟩
         have HB2 := Lib.hid (bel3 HB.out hb2)
         obtain ⟨e0, e1, e2⟩ := box3 (kept3 H1.out hb2)
         clear hb2 d0 d1 d2 d3 d4 d5 d6 d7)
      | (go_at_call 66; refine (cI _).out.mono ?_; rintro e w3 ⟨rfl, hb3⟩))
    go_ret
    exact ⟨by simp, bel3 HB2.out hb3⟩
/-- two boxes: settings, a span -/
structure B2 (W : World) (g : Nat) (X Y : Obj) (w : World) : Prop where
  below : Below W.heap.size W w
  x : w.heap[g]? = some X
  y : w.heap[g + 1]? = some Y
theorem B2.kept {W : World} {g : Nat} {X Y : Obj} {w w' : World} (h : B2 W g X Y w) (hb : Below w.heap.size w w') : B2 W g X Y w' := ⟨bel3 h.below hb, kept3 h.x hb, kept3 h.y hb⟩
theorem B2.new (W : World) (X Y : Obj) : B2 W W.heap.size X Y ((W.alloc X).alloc Y) := by
  obtain ⟨h1, h2, h3⟩ := two_new W X Y
  exact ⟨h3, h1, h2⟩
set_option maxRecDepth 100000 in
set_option maxHeartbeats 4000000 in
theorem mayPivots_any {W : World} (c : Cfg) (lo hi : ByteArray) (top : Bool) {A : Option Addr} {cc : Nat} {L : List ByteArray} (h : SC W A cc L) (hl : L.length ≤ 80) : Calls Try.prog 26 #[.agg (cfCs c), spanV lo hi top, .slice A L.length cc] W fun e w' => (∃ v : Bool, e = .returned (.bool v) ∧ (v = true ↔ (∀ p, p ∈ L → keyB c p = true) ∧ RightS L lo hi top)) ∧ Below W.heap.size W w' := by
  obtain ⟨P, hP⟩ : ∃ P : Prop, P = ((∀ p, p ∈ L → keyB c p = true) ∧ RightS L lo hi top) := ⟨_, rfl⟩
  have HNO : Hid (∀ (k : Nat) (x : ByteArray), L[k]? = some x → keyB c x = false → ¬ P) := fun k x hx hk hp => by
    rw [hP] at hp
    have := hp.1 x (List.mem_of_getElem? hx)
    rw [hk] at this
    cases this
  have HYES : Hid ((∀ (k : Nat) (x : ByteArray), k < L.length → L[k]? = some x → keyB c x = true) → (P ↔ RightS L lo hi top)) := fun hall => by
    rw [hP]
    refine ⟨fun h => h.2, fun h => ⟨fun p hp => ?_, h⟩⟩
    obtain ⟨k, hk⟩ := List.mem_iff_getElem?.1 hp
    exact hall k p (List.getElem?_eq_some_iff.1 hk).1 hk
  rw [← hP]
  have cK := fun (key : ByteArray) (w : World) => Lib.hid (KeyC_any c key w)
  have cR := fun W1 (hb : Below W.heap.size W W1) => Lib.hid (Fa.Right_c (h.kept hb) lo hi top (Nat.le_trans hl (by decide)))
  have HL := Lib.hid h.1
  obtain ⟨n, hn⟩ : ∃ n, n = L.length := ⟨_, rfl⟩
  have HN := Lib.hid hn
  rw [← hn] at hl cR HYES ⊢
  obtain ⟨kf, hkf⟩ : ∃ kf, kf = keyB c := ⟨_, rfl⟩
  rw [← hkf] at HNO HYES cK
  clear hP h hn hkf
  unfold spanV cfCs at *
  obtain ⟨cB, cY, cF, cN, cU, cL, cKy, cV⟩ := c
  simp only at *
  go_enter Try.func26, Try.ntmps26
  go_upto_region 1 with fail
  have hb2 := B2.new W (.cells #[.int .i64 cB, .int .i64 cY, .int .i64 cF, .int .i64 cN, .int .i64 cU, .int .i64 cL, .int .i64 cKy, .int .i64 cV] 23) (.cells #[.string lo, .string hi, .bool top] 25)
  generalize (W.alloc (.cells #[.int .i64 cB, .int .i64 cY, .int .i64 cF, .int .i64 cN, .int .i64 cU, .int .i64 cL, .int .i64 cKy, .int .i64 cV] 23)).alloc (.cells #[.string lo, .string hi, .bool top] 25) = w1 at *
  obtain ⟨g, hg⟩ : ∃ g, g = W.heap.size := ⟨_, rfl⟩
  rw [← hg] at hb2
  simp only [← hg]
  have HB := Lib.hid hb2
  clear hb2 hg
  go_wp2_with fail
  go_loopg [11] n (fun gk iv wr => ∃ k : Nat, k ≤ n ∧ gk = n - k ∧ iv = .int .i64 (k : Int) ∧ Hid (∀ (i : Nat) (x : ByteArray), i < k → L[i]? = some x → kf x = true) ∧ Hid (B2 W g (.cells #[.int .i64 cB, .int .i64 cY, .int .i64 cF, .int .i64 cN, .int .i64 cU, .int .i64 cL, .int .i64 cKy, .int .i64 cV] 23 (0, 0)) (.cells #[.string lo, .string hi, .bool top] 25 (0, 0)) wr))
  case atStart => exact ⟨0, Nat.zero_le _, rfl, rfl, fun i x h => by omega, HB⟩
  case round =>
    obtain ⟨k, hk, rfl, rfl, HA, HB1⟩ := hrel
    clear HB
    by_cases hlt : k < n
    · have hkL : k < L.length := by rw [← HN.out]; exact hlt
      obtain ⟨x, hxx⟩ : ∃ x, x = L[k] := ⟨_, rfl⟩
      have hx' := nat_len hkL
      rw [← hxx] at hx'
      have hw3 : IntKind.i64.wrap ((k : Int) + 1) = ((k + 1 : Nat) : Int) := by rw [IntKind.wrap_i64]; omega
      obtain ⟨b, o, e, -, c0⟩ := RdK.str (HL.out.kept HB1.out.below) hx'
      subst e
      obtain ⟨d0, d1, d2, d3, d4, d5, d6, d7⟩ := box8 HB1.out.x
      have cX := fun w => cK x w
      cases hkx : kf x with
      | false =>
        have HNP := Lib.hid (HNO.out k x hx' hkx)
        rw [hkx] at cX
        clear hx' hxx hkx hkL
        go_wp2_with (go_at_call 11; refine (cX _).out.mono ?_; rintro e w2 ⟨rfl, hb2⟩)
        go_ret
        exact ⟨⟨false, rfl, ⟨(fun h => by cases h), fun h => absurd h HNP.out⟩⟩, bel3 HB1.out.below hb2⟩
      | true =>
        have HA2 : Hid (∀ (i : Nat) (y : ByteArray), i < k + 1 → L[i]? = some y → kf y = true) := fun i y hi hy => by
          by_cases e : i = k
          · subst e
            rw [hx'] at hy
            cases hy
            exact hkx
          · exact HA.out i y (by omega) hy
        rw [hkx] at cX
        clear hx' hxx hkx hkL HA
        go_wp2_with (go_at_call 11; refine (cX _).out.mono ?_; rintro e w2 ⟨rfl, hb2⟩)
        have HB3 := Lib.hid (HB1.out.kept hb2)
        clear hb2 d0 d1 d2 d3 d4 d5 d6 d7 c0 cX HB1
        go_wp2_with fail
        go_roundg (n - (k + 1))
        case measure => omega
        case rel => exact ⟨k + 1, hlt, rfl, by go_num, HA2, HB3⟩
    · obtain rfl : k = n := by omega
      have HQ := Lib.hid (HYES.out HA.out)
      have cX := cR _ HB1.out.below
      obtain ⟨e0, e1, e2⟩ := box3 HB1.out.y
      clear HA hlt cR HYES HNO
      unfold spanV at cX
      go_wp2_with (go_at_call 54; refine cX.out.mono ?_; rintro e w2 ⟨⟨v, rfl, hv⟩, hb2⟩)
      go_ret
      exact ⟨⟨v, rfl, hv.trans HQ.out.symm⟩, bel3 HB1.out.below hb2⟩
theorem box2 {w : World} {b : Nat} {v0 v1 : Value} {U : TypeId} (h : w.heap[b]? = some (.cells #[v0, v1] U (0, 0))) : w.cell? ⟨b, 0, none⟩ = some v0 ∧ w.cell? ⟨b, 1, none⟩ = some v1 := by
  simp [World.cell?, h]
set_option maxRecDepth 100000 in
set_option maxHeartbeats 4000000 in
theorem mayPairs_any {W : World} (c : Cfg) (lo hi : ByteArray) (top : Bool) {A : Option Addr} {cc : Nat} {L : List Pr} (h : PC W A cc L) (hl : L.length ≤ 150) : Calls Try.prog 24 #[.agg (cfCs c), spanV lo hi top, .slice A L.length cc] W fun e w' => (∃ v : Bool, e = .returned (.bool v) ∧ (v = true ↔ (∀ p, p ∈ L → PrOk c lo hi top p) ∧ (L.length : Int) ≤ c.leaf ∧ PRise L)) ∧ Below W.heap.size W w' := by
  obtain ⟨P, hP⟩ : ∃ P : Prop, P = ((∀ p, p ∈ L → PrOk c lo hi top p) ∧ (L.length : Int) ≤ c.leaf ∧ PRise L) := ⟨_, rfl⟩
  obtain ⟨kf, hkf⟩ : ∃ kf : Pr → Bool, kf = fun p => keyB c p.1 && inB lo hi top p.1 := ⟨_, rfl⟩
  have HNO : Hid (∀ (k : Nat) (x : Pr), L[k]? = some x → (kf x = false ∨ c.val < (x.2.size : Int)) → ¬ P) := fun k x hx hk hp => by
    rw [hP] at hp
    have h1 := hp.1 x (List.mem_of_getElem? hx)
    rcases hk with hk | hk
    · rw [hkf] at hk
      simp only [h1.1, h1.2.1, Bool.and_self] at hk
      cases hk
    · exact absurd h1.2.2 (by omega)
  have HYES : Hid ((∀ (k : Nat) (x : Pr), k < L.length → L[k]? = some x → kf x = true ∧ (x.2.size : Int) ≤ c.val) → (P ↔ (L.length : Int) ≤ c.leaf ∧ PRise L)) := fun hall => by
    rw [hP]
    refine ⟨fun h => h.2, fun h => ⟨fun p hp => ?_, h⟩⟩
    obtain ⟨k, hk⟩ := List.mem_iff_getElem?.1 hp
    have h1 := hall k p (List.getElem?_eq_some_iff.1 hk).1 hk
    rw [hkf] at h1
    simp only [Bool.and_eq_true] at h1
    exact ⟨h1.1.1, h1.1.2, h1.2⟩
  rw [← hP]
  have cS : ∀ (x : Pr) (w : World), Hid (Calls Try.prog 50 #[.agg (cfCs c), spanV lo hi top, .string x.1] w fun e w' => e = .returned (.bool (kf x)) ∧ Below w.heap.size w w') := fun x w => by
    rw [hkf]
    exact mayStand_any c lo hi top x.1 w
  have cR := fun W1 (hb : Below W.heap.size W W1) => Lib.hid (Lf.Right_any (c := cc) (h.1.kept hb) (Nat.le_trans hl (by decide)))
  have HL : Hid (PC W A cc L) := h
  obtain ⟨n, hn⟩ : ∃ n, n = L.length := ⟨_, rfl⟩
  have HN := Lib.hid hn
  rw [← hn] at hl cR HYES ⊢
  clear hP h hn hkf
  unfold spanV cfCs at *
  obtain ⟨cB, cY, cF, cN, cU, cL, cKy, cV⟩ := c
  simp only at *
  go_enter Try.func24, Try.ntmps24
  go_upto_region 1 with fail
  have hb2 := B2.new W (.cells #[.int .i64 cB, .int .i64 cY, .int .i64 cF, .int .i64 cN, .int .i64 cU, .int .i64 cL, .int .i64 cKy, .int .i64 cV] 23) (.cells #[.string lo, .string hi, .bool top] 25)
  generalize (W.alloc (.cells #[.int .i64 cB, .int .i64 cY, .int .i64 cF, .int .i64 cN, .int .i64 cU, .int .i64 cL, .int .i64 cKy, .int .i64 cV] 23)).alloc (.cells #[.string lo, .string hi, .bool top] 25) = w1 at *
  obtain ⟨g, hg⟩ : ∃ g, g = W.heap.size := ⟨_, rfl⟩
  rw [← hg] at hb2
  simp only [← hg]
  have HB := Lib.hid hb2
  clear hb2 hg
  go_wp2_with fail
  go_loopg [11] n (fun gk iv wr => ∃ k : Nat, k ≤ n ∧ gk = n - k ∧ iv = .int .i64 (k : Int) ∧ Hid (∀ (i : Nat) (x : Pr), i < k → L[i]? = some x → kf x = true ∧ (x.2.size : Int) ≤ cV) ∧ Hid (B2 W g (.cells #[.int .i64 cB, .int .i64 cY, .int .i64 cF, .int .i64 cN, .int .i64 cU, .int .i64 cL, .int .i64 cKy, .int .i64 cV] 23 (0, 0)) (.cells #[.string lo, .string hi, .bool top] 25 (0, 0)) wr))
  case atStart => exact ⟨0, Nat.zero_le _, rfl, rfl, fun i x h => by omega, HB⟩
  case round =>
    obtain ⟨k, hk, rfl, rfl, HA, HB1⟩ := hrel
    clear HB
    by_cases hlt : k < n
    · have hkL : k < L.length := by rw [← HN.out]; exact hlt
      obtain ⟨x, hxx⟩ : ∃ x, x = L[k] := ⟨_, rfl⟩
      have hx' := nat_len hkL
      rw [← hxx] at hx'
      have hw3 : IntKind.i64.wrap ((k : Int) + 1) = ((k + 1 : Nat) : Int) := by rw [IntKind.wrap_i64]; omega
      obtain ⟨b, o, e, -, c0, c1⟩ := RdK.pair (HL.out.1.kept HB1.out.below) hx'
      subst e
      have cX := fun w => cS x w
      have HX := Lib.hid hx'
      clear hxx hx' hkL
      go_upto_region 4 with fail
      have hb4 : Below wr.heap.size wr (wr.alloc (.cells #[.string x.1, .string x.2] 42)) := (Below.refl _ _).alloc (Nat.le_refl _) _
      have hx4 := heap_alloc_new wr (.cells #[.string x.1, .string x.2] 42)
      have HB4 := Lib.hid (HB1.out.kept hb4)
      generalize wr.alloc (.cells #[.string x.1, .string x.2] 42) = w4 at *
      obtain ⟨q, hq⟩ : ∃ q, q = wr.heap.size := ⟨_, rfl⟩
      rw [← hq] at hx4
      simp only [← hq]
      have HX4 := Lib.hid hx4
      clear hq hx4 hb4 HB1 c0 c1
      obtain ⟨d0, d1, d2, d3, d4, d5, d6, d7⟩ := box8 HB4.out.x
      obtain ⟨s0, s1, s2⟩ := box3 HB4.out.y
      obtain ⟨p0, p1⟩ := box2 HX4.out
      cases hkx : kf x with
      | false =>
        rw [hkx] at cX
        have HNP := Lib.hid (HNO.out k x HX.out (.inl hkx))
        go_wp2_with (first
          | (go_at_call 50; refine (cX _).out.mono ?_; rintro e w5 ⟨rfl, hb5⟩
             have HB5 := Lib.hid (HB4.out.kept hb5)
             have HX5 := Lib.hid (kept3 HX4.out hb5)
             have f7 := (box8 HB5.out.x).2.2.2.2.2.2.2
             obtain ⟨r0, r1⟩ := box2 HX5.out
             clear hb5 d0 d1 d2 d3 d4 d5 d6 d7 s0 s1 s2 p0 p1))
        go_ret
        exact ⟨⟨false, rfl, ⟨(fun h => by cases h), fun h => absurd h HNP.out⟩⟩, HB5.out.below⟩
      | true =>
        rw [hkx] at cX
        by_cases hsz : (x.2.size : Int) ≤ cV
        case neg =>
          have hsz' : cV < (x.2.size : Int) := by omega
          have HNP := Lib.hid (HNO.out k x HX.out (.inr hsz'))
          go_wp2_with (first
            | (go_at_call 50; refine (cX _).out.mono ?_; rintro e w5 ⟨rfl, hb5⟩
               have HB5 := Lib.hid (HB4.out.kept hb5)
               have HX5 := Lib.hid (kept3 HX4.out hb5)
               have f7 := (box8 HB5.out.x).2.2.2.2.2.2.2
               obtain ⟨r0, r1⟩ := box2 HX5.out
               clear hb5 d0 d1 d2 d3 d4 d5 d6 d7 s0 s1 s2 p0 p1))
          go_ret
          exact ⟨⟨false, rfl, ⟨(fun h => by cases h), fun h => absurd h HNP.out⟩⟩, HB5.out.below⟩
        have HA2 : Hid (∀ (i : Nat) (y : Pr), i < k + 1 → L[i]? = some y → kf y = true ∧ (y.2.size : Int) ≤ cV) := fun i y hi hy => by
          by_cases e : i = k
          · subst e
            have := HX.out
            rw [this] at hy
            cases hy
            exact ⟨hkx, hsz⟩
          · exact HA.out i y (by omega) hy
        have hsz2 : ¬ (cV < (x.2.size : Int)) := by omega
        go_wp2_with (first
          | (go_at_call 50; refine (cX _).out.mono ?_; rintro e w5 ⟨rfl, hb5⟩
             have HB5 := Lib.hid (HB4.out.kept hb5)
             have HX5 := Lib.hid (kept3 HX4.out hb5)
             have f7 := (box8 HB5.out.x).2.2.2.2.2.2.2
             obtain ⟨r0, r1⟩ := box2 HX5.out
             clear hb5 d0 d1 d2 d3 d4 d5 d6 d7 s0 s1 s2 p0 p1))
        go_roundg (n - (k + 1))
        case measure => omega
        case rel => exact ⟨k + 1, hlt, rfl, by go_num, HA2, HB5⟩
    · obtain rfl : k = n := by omega
      have HQ := Lib.hid (HYES.out HA.out)
      have cX := cR _ HB1.out.below
      obtain ⟨d0, d1, d2, d3, d4, d5, d6, d7⟩ := box8 HB1.out.x
      clear HA hlt cR HYES HNO
      by_cases hlim : (k : Int) ≤ cL
      · have HQ2 : Hid (P ↔ PRise L) := HQ.out.trans ⟨fun h => h.2, fun h => ⟨hlim, h⟩⟩
        clear HQ
        go_wp2_with (go_at_call 51; refine cX.out.mono ?_; rintro e w2 ⟨⟨v, rfl, hv⟩, hb2⟩)
        go_ret
        exact ⟨⟨v, rfl, hv.trans HQ2.out.symm⟩, bel3 HB1.out.below hb2⟩
      · have HNP : Hid (¬ P) := fun h => hlim (HQ.out.1 h).1
        have hd : decide ((k : Int) ≤ cL) = false := by simpa using hlim
        clear HQ
        go_wp2_with fail
        go_ret
        exact ⟨.inl ⟨rfl, HNP.out⟩, HB1.out.below⟩
set_option maxRecDepth 100000 in
set_option maxHeartbeats 4000000 in
theorem mayBuf_any {W : World} (c : Cfg) (lo hi : ByteArray) (top : Bool) {A : Option Addr} {cc : Nat} {L : List Mg} (h : RC MgK W A cc L) (hl : L.length ≤ 150) (hk : ∀ m, m ∈ L → m.1.size ≤ maxLen) : Calls Try.prog 27 #[.agg (cfCs c), spanV lo hi top, .slice A L.length cc] W fun e w' => (∃ v : Bool, e = .returned (.bool v) ∧ (v = true ↔ (∀ p, p ∈ L → MsOk c lo hi top p) ∧ (L.length : Int) ≤ c.buffer ∧ Bu.Rise L)) ∧ Below W.heap.size W w' := by
  obtain ⟨P, hP⟩ : ∃ P : Prop, P = ((∀ p, p ∈ L → MsOk c lo hi top p) ∧ (L.length : Int) ≤ c.buffer ∧ Bu.Rise L) := ⟨_, rfl⟩
  obtain ⟨kf, hkf⟩ : ∃ kf : Mg → Bool, kf = fun p => keyB c p.1 && inB lo hi top p.1 := ⟨_, rfl⟩
  have HNO : Hid (∀ (k : Nat) (x : Mg), L[k]? = some x → (kf x = false ∨ c.val < (x.2.2.size : Int) ∨ (x.2.1 = true ∧ x.2.2 ≠ ⟨#[]⟩)) → ¬ P) := fun k x hx hk hp => by
    rw [hP] at hp
    have h1 := hp.1 x (List.mem_of_getElem? hx)
    rcases hk with hk | hk
    · rw [hkf] at hk
      simp only [h1.1, h1.2.1, Bool.and_self] at hk
      cases hk
    · rcases hk with hk | hk
      · exact absurd h1.2.2.1 (by omega)
      · exact h1.2.2.2 hk
  have HYES : Hid ((∀ (k : Nat) (x : Mg), k < L.length → L[k]? = some x → kf x = true ∧ (x.2.2.size : Int) ≤ c.val ∧ ¬ (x.2.1 = true ∧ x.2.2 ≠ ⟨#[]⟩)) → (P ↔ (L.length : Int) ≤ c.buffer ∧ Bu.Rise L)) := fun hall => by
    rw [hP]
    refine ⟨fun h => h.2, fun h => ⟨fun p hp => ?_, h⟩⟩
    obtain ⟨k, hk⟩ := List.mem_iff_getElem?.1 hp
    have h1 := hall k p (List.getElem?_eq_some_iff.1 hk).1 hk
    rw [hkf] at h1
    simp only [Bool.and_eq_true] at h1
    exact ⟨h1.1.1, h1.1.2, h1.2.1, h1.2.2⟩
  rw [← hP]
  have cS : ∀ (x : Mg) (w : World), Hid (Calls Try.prog 50 #[.agg (cfCs c), spanV lo hi top, .string x.1] w fun e w' => e = .returned (.bool (kf x)) ∧ Below w.heap.size w w') := fun x w => by
    rw [hkf]
    exact mayStand_any c lo hi top x.1 w
  have cR := fun W1 (hb : Below W.heap.size W W1) => Lib.hid (Bu.Right_any (c := cc) (h.1.kept hb) hk (Nat.le_trans hl (by decide)))
  have HL : Hid (RC MgK W A cc L) := h
  obtain ⟨n, hn⟩ : ∃ n, n = L.length := ⟨_, rfl⟩
  have HN := Lib.hid hn
  rw [← hn] at hl cR HYES ⊢
  clear hP h hn hkf
  unfold spanV cfCs at *
  obtain ⟨cB, cY, cF, cN, cU, cL, cKy, cV⟩ := c
  simp only at *
  go_enter Try.func27, Try.ntmps27
  go_upto_region 1 with fail
  have hb2 := B2.new W (.cells #[.int .i64 cB, .int .i64 cY, .int .i64 cF, .int .i64 cN, .int .i64 cU, .int .i64 cL, .int .i64 cKy, .int .i64 cV] 23) (.cells #[.string lo, .string hi, .bool top] 25)
  generalize (W.alloc (.cells #[.int .i64 cB, .int .i64 cY, .int .i64 cF, .int .i64 cN, .int .i64 cU, .int .i64 cL, .int .i64 cKy, .int .i64 cV] 23)).alloc (.cells #[.string lo, .string hi, .bool top] 25) = w1 at *
  obtain ⟨g, hg⟩ : ∃ g, g = W.heap.size := ⟨_, rfl⟩
  rw [← hg] at hb2
  simp only [← hg]
  have HB := Lib.hid hb2
  clear hb2 hg
  go_wp2_with fail
  go_loopg [11] n (fun gk iv wr => ∃ k : Nat, k ≤ n ∧ gk = n - k ∧ iv = .int .i64 (k : Int) ∧ Hid (∀ (i : Nat) (x : Mg), i < k → L[i]? = some x → kf x = true ∧ (x.2.2.size : Int) ≤ cV ∧ ¬ (x.2.1 = true ∧ x.2.2 ≠ ⟨#[]⟩)) ∧ Hid (B2 W g (.cells #[.int .i64 cB, .int .i64 cY, .int .i64 cF, .int .i64 cN, .int .i64 cU, .int .i64 cL, .int .i64 cKy, .int .i64 cV] 23 (0, 0)) (.cells #[.string lo, .string hi, .bool top] 25 (0, 0)) wr))
  case atStart => exact ⟨0, Nat.zero_le _, rfl, rfl, fun i x h => by omega, HB⟩
  case round =>
    obtain ⟨k, hk, rfl, rfl, HA, HB1⟩ := hrel
    clear HB
    by_cases hlt : k < n
    · have hkL : k < L.length := by rw [← HN.out]; exact hlt
      obtain ⟨x, hxx⟩ : ∃ x, x = L[k] := ⟨_, rfl⟩
      have hx' := nat_len hkL
      rw [← hxx] at hx'
      have hw3 : IntKind.i64.wrap ((k : Int) + 1) = ((k + 1 : Nat) : Int) := by rw [IntKind.wrap_i64]; omega
      obtain ⟨b, o, e, -, c0, c1, c2⟩ := RdK.msg (HL.out.1.kept HB1.out.below) hx'
      subst e
      have cX := fun w => cS x w
      have HX := Lib.hid hx'
      clear hxx hx' hkL
      go_upto_region 4 with fail
      have hb4 : Below wr.heap.size wr (wr.alloc (.cells #[.string x.1, .bool x.2.1, .string x.2.2] 40)) := (Below.refl _ _).alloc (Nat.le_refl _) _
      have hx4 := heap_alloc_new wr (.cells #[.string x.1, .bool x.2.1, .string x.2.2] 40)
      have HB4 := Lib.hid (HB1.out.kept hb4)
      generalize wr.alloc (.cells #[.string x.1, .bool x.2.1, .string x.2.2] 40) = w4 at *
      obtain ⟨q, hq⟩ : ∃ q, q = wr.heap.size := ⟨_, rfl⟩
      rw [← hq] at hx4
      simp only [← hq]
      have HX4 := Lib.hid hx4
      clear hq hx4 hb4 HB1 c0 c1 c2
      obtain ⟨d0, d1, d2, d3, d4, d5, d6, d7⟩ := box8 HB4.out.x
      obtain ⟨s0, s1, s2⟩ := box3 HB4.out.y
      obtain ⟨p0, p1, p2⟩ := box3 HX4.out
      cases hkx : kf x with
      | false =>
        rw [hkx] at cX
        have HNP := Lib.hid (HNO.out k x HX.out (.inl hkx))
        go_wp2_with (first
          | (go_at_call 50; refine (cX _).out.mono ?_; rintro e w5 ⟨rfl, hb5⟩
             have HB5 := Lib.hid (HB4.out.kept hb5)
             have HX5 := Lib.hid (kept3 HX4.out hb5)
             have f7 := (box8 HB5.out.x).2.2.2.2.2.2.2
             obtain ⟨r0, r1, r2⟩ := box3 HX5.out
             clear hb5 d0 d1 d2 d3 d4 d5 d6 d7 s0 s1 s2 p0 p1 p2))
        go_ret
        exact ⟨⟨false, rfl, ⟨(fun h => by cases h), fun h => absurd h HNP.out⟩⟩, HB5.out.below⟩
      | true =>
        rw [hkx] at cX
        by_cases hsz : (x.2.2.size : Int) ≤ cV
        case neg =>
          have hsz' : cV < (x.2.2.size : Int) := by omega
          have HNP := Lib.hid (HNO.out k x HX.out (.inr (.inl hsz')))
          go_wp2_with (first
            | (go_at_call 50; refine (cX _).out.mono ?_; rintro e w5 ⟨rfl, hb5⟩
               have HB5 := Lib.hid (HB4.out.kept hb5)
               have HX5 := Lib.hid (kept3 HX4.out hb5)
               have f7 := (box8 HB5.out.x).2.2.2.2.2.2.2
               obtain ⟨r0, r1, r2⟩ := box3 HX5.out
               clear hb5 d0 d1 d2 d3 d4 d5 d6 d7 s0 s1 s2 p0 p1 p2))
          go_ret
          exact ⟨⟨false, rfl, ⟨(fun h => by cases h), fun h => absurd h HNP.out⟩⟩, HB5.out.below⟩
        have hsz2 : ¬ (cV < (x.2.2.size : Int)) := by omega
        have HSZ := Lib.hid hsz
        cases hdl : x.2.1 with
        | false =>
          rw [hdl] at HX4 p1
          have HA2 : Hid (∀ (i : Nat) (y : Mg), i < k + 1 → L[i]? = some y → kf y = true ∧ (y.2.2.size : Int) ≤ cV ∧ ¬ (y.2.1 = true ∧ y.2.2 ≠ ⟨#[]⟩)) := fun i y hi hy => by
            by_cases e : i = k
            · subst e
              have := HX.out
              rw [this] at hy
              cases hy
              exact ⟨hkx, HSZ.out, fun h => by rw [hdl] at h; cases h.1⟩
            · exact HA.out i y (by omega) hy

          go_wp2_with (first
            | (go_at_call 50; refine (cX _).out.mono ?_; rintro e w5 ⟨rfl, hb5⟩
               have HB5 := Lib.hid (HB4.out.kept hb5)
               have HX5 := Lib.hid (kept3 HX4.out hb5)
               have f7 := (box8 HB5.out.x).2.2.2.2.2.2.2
               obtain ⟨r0, r1, r2⟩ := box3 HX5.out
               clear hb5 d0 d1 d2 d3 d4 d5 d6 d7 s0 s1 s2 p0 p1 p2))
          go_roundg (n - (k + 1))
          case measure => omega
          case rel => exact ⟨k + 1, hlt, rfl, by go_num, HA2, HB5⟩
        | true =>
          rw [hdl] at HX4 p1
          by_cases hve : x.2.2 = ⟨#[]⟩
          · have hv2 : x.2.2.toList.isEmpty = true := by rw [isEmpty_eq]; simpa using hve
            have HA2 : Hid (∀ (i : Nat) (y : Mg), i < k + 1 → L[i]? = some y → kf y = true ∧ (y.2.2.size : Int) ≤ cV ∧ ¬ (y.2.1 = true ∧ y.2.2 ≠ ⟨#[]⟩)) := fun i y hi hy => by
              by_cases e : i = k
              · subst e
                have := HX.out
                rw [this] at hy
                cases hy
                exact ⟨hkx, HSZ.out, fun h => h.2 hve⟩
              · exact HA.out i y (by omega) hy

            go_wp2_with (first
              | (go_at_call 50; refine (cX _).out.mono ?_; rintro e w5 ⟨rfl, hb5⟩
                 have HB5 := Lib.hid (HB4.out.kept hb5)
                 have HX5 := Lib.hid (kept3 HX4.out hb5)
                 have f7 := (box8 HB5.out.x).2.2.2.2.2.2.2
                 obtain ⟨r0, r1, r2⟩ := box3 HX5.out
                 clear hb5 d0 d1 d2 d3 d4 d5 d6 d7 s0 s1 s2 p0 p1 p2))
            go_roundg (n - (k + 1))
            case measure => omega
            case rel => exact ⟨k + 1, hlt, rfl, by go_num, HA2, HB5⟩
          · have hv2 : x.2.2.toList.isEmpty = false := by rw [isEmpty_eq]; simpa using hve
            have HNP := Lib.hid (HNO.out k x HX.out (.inr (.inr ⟨hdl, hve⟩)))
            go_wp2_with (first
              | (go_at_call 50; refine (cX _).out.mono ?_; rintro e w5 ⟨rfl, hb5⟩
                 have HB5 := Lib.hid (HB4.out.kept hb5)
                 have HX5 := Lib.hid (kept3 HX4.out hb5)
                 have f7 := (box8 HB5.out.x).2.2.2.2.2.2.2
                 obtain ⟨r0, r1, r2⟩ := box3 HX5.out
                 clear hb5 d0 d1 d2 d3 d4 d5 d6 d7 s0 s1 s2 p0 p1 p2))
            go_ret
            exact ⟨⟨false, rfl, ⟨(fun h => by cases h), fun h => absurd h HNP.out⟩⟩, HB5.out.below⟩
    · obtain rfl : k = n := by omega
      have HQ := Lib.hid (HYES.out HA.out)
      have cX := cR _ HB1.out.below
      obtain ⟨d0, d1, d2, d3, d4, d5, d6, d7⟩ := box8 HB1.out.x
      clear HA hlt cR HYES HNO
      by_cases hlim : (k : Int) ≤ cU
      · have HQ2 : Hid (P ↔ Bu.Rise L) := HQ.out.trans ⟨fun h => h.2, fun h => ⟨hlim, h⟩⟩
        clear HQ
        go_wp2_with (go_at_call 55; refine cX.out.mono ?_; rintro e w2 ⟨⟨v, rfl, hv⟩, hb2⟩)
        go_ret
        exact ⟨⟨v, rfl, hv.trans HQ2.out.symm⟩, bel3 HB1.out.below hb2⟩
      · have HNP : Hid (¬ P) := fun h => hlim (HQ.out.1 h).1
        have hd : decide ((k : Int) ≤ cU) = false := by simpa using hlim
        clear HQ
        go_wp2_with fail
        go_ret
        exact ⟨.inl ⟨rfl, HNP.out⟩, HB1.out.below⟩
end No
end Go.Proofs.Ytlcdjbleeanpbaa

namespace Go.Proofs.Ytlcdjbleeanpbaa
open Go.RowKit
namespace No
open Mem Lx Bu Lf Fa
/-- what mayKids tells -/
def KidsP (c : Cfg) (K : List Nat) : Prop := 1 ≤ K.length ∧ (K.length : Int) ≤ c.fan ∧ KidsOk c K
set_option maxRecDepth 100000 in
set_option maxHeartbeats 8000000 in
theorem RightK_any {W : World} (c : Cfg) (lo hi : ByteArray) (top : Bool) {n : Nd} {a : At} (h : NdIn W n a) (hf : Fit n) (cKids : ∀ W1, Below W.heap.size W W1 → Calls Try.prog 25 #[.agg (cfCs c), .slice a.kA n.kids.length a.kc] W1 fun e w' => (∃ v : Bool, e = .returned (.bool v) ∧ (v = true ↔ KidsP c n.kids)) ∧ Below W1.heap.size W1 w') : Calls Try.prog 9 #[.agg (cfCs c), spanV lo hi top, .agg (ndCs n a)] W fun e w' => (∃ v : Bool, e = .returned (.bool v) ∧ (v = true ↔ RightN c lo hi top n)) ∧ Below W.heap.size W w' := by
  obtain ⟨b4, hb4⟩ := bool_of ((∀ p, p ∈ n.prs → PrOk c lo hi top p) ∧ (n.prs.length : Int) ≤ c.leaf ∧ PRise n.prs)
  obtain ⟨b5, hb5⟩ := bool_of (KidsP c n.kids)
  obtain ⟨b6, hb6⟩ := bool_of ((∀ p, p ∈ n.piv → keyB c p = true) ∧ RightS n.piv lo hi top)
  obtain ⟨b7, hb7⟩ := bool_of ((∀ p, p ∈ n.buf → MsOk c lo hi top p) ∧ (n.buf.length : Int) ≤ c.buffer ∧ Bu.Rise n.buf)
  have c4 : ∀ W1, Below W.heap.size W W1 → Hid (Calls Try.prog 24 #[.agg (cfCs c), spanV lo hi top, .slice a.qA n.prs.length a.qc] W1 fun e w' => e = .returned (.bool b4) ∧ Below W1.heap.size W1 w') := fun W1 hb => (mayPairs_any (W := W1) c lo hi top (h.kept hb).prs hf.prs).mono fun e w' ⟨⟨v, he, hv⟩, hb⟩ => ⟨by rw [he, bool_one hv hb4], hb⟩
  have c5 : ∀ W1, Below W.heap.size W W1 → Hid (Calls Try.prog 25 #[.agg (cfCs c), .slice a.kA n.kids.length a.kc] W1 fun e w' => e = .returned (.bool b5) ∧ Below W1.heap.size W1 w') := fun W1 hb => (cKids W1 hb).mono fun e w' ⟨⟨v, he, hv⟩, hb⟩ => ⟨by rw [he, bool_one hv hb5], hb⟩
  have c6 : ∀ W1, Below W.heap.size W W1 → Hid (Calls Try.prog 26 #[.agg (cfCs c), spanV lo hi top, .slice a.pA n.piv.length a.pc] W1 fun e w' => e = .returned (.bool b6) ∧ Below W1.heap.size W1 w') := fun W1 hb => (mayPivots_any (W := W1) c lo hi top (h.kept hb).piv hf.piv).mono fun e w' ⟨⟨v, he, hv⟩, hb⟩ => ⟨by rw [he, bool_one hv hb6], hb⟩
  have c7 : ∀ W1, Below W.heap.size W W1 → Hid (Calls Try.prog 27 #[.agg (cfCs c), spanV lo hi top, .slice a.bA n.buf.length a.bc] W1 fun e w' => e = .returned (.bool b7) ∧ Below W1.heap.size W1 w') := fun W1 hb => (mayBuf_any (W := W1) c lo hi top (h.kept hb).buf hf.buf (fun m hm => Nat.le_trans (hf.bk m hm) (by decide))).mono fun e w' ⟨⟨v, he, hv⟩, hb⟩ => ⟨by rw [he, bool_one hv hb7], hb⟩
  have HO : Hid (n.lv = 0 → ∀ v : Bool, (v = true ↔ n.kids.length = 0 ∧ n.piv.length = 0 ∧ n.buf.length = 0 ∧ b4 = true) → (v = true ↔ RightN c lo hi top n)) := fun h0 v hv => by
    rw [hv, hb4]
    constructor
    · rintro ⟨h1, h2, h3, h4, h5, h6⟩
      exact ⟨fun _ => ⟨h4, h1, h2, h3, h5, h6⟩, fun hn => absurd h0 hn⟩
    · rintro ⟨h1, -⟩
      obtain ⟨g1, g2, g3, g4, g5, g6⟩ := h1 h0
      exact ⟨g2, g3, g4, g1, g5, g6⟩
  have HI : Hid (n.lv ≠ 0 → ∀ v : Bool, (v = true ↔ 1 ≤ n.lv ∧ n.lv ≤ 40 ∧ n.prs.length = 0 ∧ b5 = true ∧ n.piv.length + 1 = n.kids.length ∧ b6 = true ∧ b7 = true) → (v = true ↔ RightN c lo hi top n)) := fun h0 v hv => by
    rw [hv, hb5, hb6, hb7]
    constructor
    · rintro ⟨h1, h2, h3, ⟨k1, k2, k3⟩, h5, ⟨p1, p2⟩, m1, m2, m3⟩
      exact ⟨fun hn => absurd hn h0, fun _ => ⟨by omega, k3, p1, m1, h2, h3, k1, k2, h5, p2, m2, m3⟩⟩
    · rintro ⟨-, h1⟩
      obtain ⟨g0, g⟩ := h1 h0
      exact ⟨by omega, g.lv, g.prs, ⟨g.one, g.fan, g.kids⟩, g.fewer, ⟨g.piv, g.right⟩, g.buf, g.few, g.rise⟩
  have HK1 : Hid (b5 = true → 1 ≤ n.kids.length) := fun h => (hb5.1 h).1
  have HKL : Hid (n.kids.length ≤ 80 ∧ n.piv.length ≤ 80) := ⟨hf.kids, hf.piv⟩
  generalize hPP : RightN c lo hi top n = PP at *
  clear hPP h hf cKids hb4 hb5 hb6 hb7
  unfold spanV ndCs cfCs at *
  obtain ⟨cB, cY, cF, cN, cU, cL, cKy, cV⟩ := c
  obtain ⟨lv, K, P, B, Q⟩ := n
  obtain ⟨kA, kc, pA, pc, bA, bc, qA, qc⟩ := a
  simp only at *
  generalize K.length = kn at *
  generalize P.length = pn at *
  generalize B.length = bn at *
  generalize Q.length = qn at *
  go_enter Try.func9, Try.ntmps9
  go_upto_region 1 with fail
  have h3 := B3.new W (.cells #[.int .i64 cB, .int .i64 cY, .int .i64 cF, .int .i64 cN, .int .i64 cU, .int .i64 cL, .int .i64 cKy, .int .i64 cV] 23) (.cells #[.string lo, .string hi, .bool top] 25) (.cells #[.int .i64 lv, .slice kA kn kc, .slice pA pn pc, .slice bA bn bc, .slice qA qn qc] 31)
  generalize ((W.alloc (.cells #[.int .i64 cB, .int .i64 cY, .int .i64 cF, .int .i64 cN, .int .i64 cU, .int .i64 cL, .int .i64 cKy, .int .i64 cV] 23)).alloc (.cells #[.string lo, .string hi, .bool top] 25)).alloc (.cells #[.int .i64 lv, .slice kA kn kc, .slice pA pn pc, .slice bA bn bc, .slice qA qn qc] 31) = w1 at *
  obtain ⟨g, hg⟩ : ∃ g, g = W.heap.size := ⟨_, rfl⟩
  rw [← hg] at h3
  simp only [← hg]
  have HB := Lib.hid h3
  clear h3 hg
  obtain ⟨d0, d1, d2, d3, d4, d5, d6, d7⟩ := box8 HB.out.x
  obtain ⟨s0, s1, s2⟩ := box3 HB.out.y
  obtain ⟨n0, n1, n2, n3, n4⟩ := box5 HB.out.z
  by_cases hlv : lv = 0
  · have HO2 := Lib.hid (HO.out hlv)
    clear HI HO HK1 HKL
    subst hlv
    by_cases h1 : kn = 0
    case neg =>
      have h1' : ((kn : Int) == 0) = false := by simpa using h1
      have HF : Hid (false = true ↔ PP) := HO2.out false ⟨(fun h => by cases h), fun h => by simp_all⟩
      have HNP : Hid (¬ PP) := fun hp => by cases HF.out.2 hp
      go_wp2_with (first
        | (go_at_call 24; refine (c4 _ HB.out.below).out.mono ?_; rintro e w2 ⟨rfl, hb⟩
           replace HB := Lib.hid (HB.out.kept hb)
           clear hb d0 d1 d2 d3 d4 d5 d6 d7 s0 s1 s2 n0 n1 n2 n3 n4
           obtain ⟨d0, d1, d2, d3, d4, d5, d6, d7⟩ := box8 HB.out.x
           obtain ⟨s0, s1, s2⟩ := box3 HB.out.y
           obtain ⟨n0, n1, n2, n3, n4⟩ := box5 HB.out.z)
        | (go_at_call 25; refine (c5 _ HB.out.below).out.mono ?_; rintro e w2 ⟨rfl, hb⟩
           replace HB := Lib.hid (HB.out.kept hb)
           clear hb d0 d1 d2 d3 d4 d5 d6 d7 s0 s1 s2 n0 n1 n2 n3 n4
           obtain ⟨d0, d1, d2, d3, d4, d5, d6, d7⟩ := box8 HB.out.x
           obtain ⟨s0, s1, s2⟩ := box3 HB.out.y
           obtain ⟨n0, n1, n2, n3, n4⟩ := box5 HB.out.z)
        | (go_at_call 26; refine (c6 _ HB.out.below).out.mono ?_; rintro e w2 ⟨rfl, hb⟩
           replace HB := Lib.hid (HB.out.kept hb)
           clear hb d0 d1 d2 d3 d4 d5 d6 d7 s0 s1 s2 n0 n1 n2 n3 n4
           obtain ⟨d0, d1, d2, d3, d4, d5, d6, d7⟩ := box8 HB.out.x
           obtain ⟨s0, s1, s2⟩ := box3 HB.out.y
           obtain ⟨n0, n1, n2, n3, n4⟩ := box5 HB.out.z)
        | (go_at_call 27; refine (c7 _ HB.out.below).out.mono ?_; rintro e w2 ⟨rfl, hb⟩
           replace HB := Lib.hid (HB.out.kept hb)
           clear hb d0 d1 d2 d3 d4 d5 d6 d7 s0 s1 s2 n0 n1 n2 n3 n4
           obtain ⟨d0, d1, d2, d3, d4, d5, d6, d7⟩ := box8 HB.out.x
           obtain ⟨s0, s1, s2⟩ := box3 HB.out.y
           obtain ⟨n0, n1, n2, n3, n4⟩ := box5 HB.out.z))
      go_ret
      first
        | exact ⟨⟨false, rfl, HF.out⟩, HB.out.below⟩
        | exact ⟨.inl ⟨rfl, HNP.out⟩, HB.out.below⟩
    subst h1
    by_cases h2 : pn = 0
    case neg =>
      have h2' : ((pn : Int) == 0) = false := by simpa using h2
      have HF : Hid (false = true ↔ PP) := HO2.out false ⟨(fun h => by cases h), fun h => by simp_all⟩
      have HNP : Hid (¬ PP) := fun hp => by cases HF.out.2 hp
      go_wp2_with (first
        | (go_at_call 24; refine (c4 _ HB.out.below).out.mono ?_; rintro e w2 ⟨rfl, hb⟩
           replace HB := Lib.hid (HB.out.kept hb)
           clear hb d0 d1 d2 d3 d4 d5 d6 d7 s0 s1 s2 n0 n1 n2 n3 n4
           obtain ⟨d0, d1, d2, d3, d4, d5, d6, d7⟩ := box8 HB.out.x
           obtain ⟨s0, s1, s2⟩ := box3 HB.out.y
           obtain ⟨n0, n1, n2, n3, n4⟩ := box5 HB.out.z)
        | (go_at_call 25; refine (c5 _ HB.out.below).out.mono ?_; rintro e w2 ⟨rfl, hb⟩
           replace HB := Lib.hid (HB.out.kept hb)
           clear hb d0 d1 d2 d3 d4 d5 d6 d7 s0 s1 s2 n0 n1 n2 n3 n4
           obtain ⟨d0, d1, d2, d3, d4, d5, d6, d7⟩ := box8 HB.out.x
           obtain ⟨s0, s1, s2⟩ := box3 HB.out.y
           obtain ⟨n0, n1, n2, n3, n4⟩ := box5 HB.out.z)
        | (go_at_call 26; refine (c6 _ HB.out.below).out.mono ?_; rintro e w2 ⟨rfl, hb⟩
           replace HB := Lib.hid (HB.out.kept hb)
           clear hb d0 d1 d2 d3 d4 d5 d6 d7 s0 s1 s2 n0 n1 n2 n3 n4
           obtain ⟨d0, d1, d2, d3, d4, d5, d6, d7⟩ := box8 HB.out.x
           obtain ⟨s0, s1, s2⟩ := box3 HB.out.y
           obtain ⟨n0, n1, n2, n3, n4⟩ := box5 HB.out.z)
        | (go_at_call 27; refine (c7 _ HB.out.below).out.mono ?_; rintro e w2 ⟨rfl, hb⟩
           replace HB := Lib.hid (HB.out.kept hb)
           clear hb d0 d1 d2 d3 d4 d5 d6 d7 s0 s1 s2 n0 n1 n2 n3 n4
           obtain ⟨d0, d1, d2, d3, d4, d5, d6, d7⟩ := box8 HB.out.x
           obtain ⟨s0, s1, s2⟩ := box3 HB.out.y
           obtain ⟨n0, n1, n2, n3, n4⟩ := box5 HB.out.z))
      go_ret
      first
        | exact ⟨⟨false, rfl, HF.out⟩, HB.out.below⟩
        | exact ⟨.inl ⟨rfl, HNP.out⟩, HB.out.below⟩
    subst h2
    by_cases h3 : bn = 0
    case neg =>
      have h3' : ((bn : Int) == 0) = false := by simpa using h3
      have HF : Hid (false = true ↔ PP) := HO2.out false ⟨(fun h => by cases h), fun h => by simp_all⟩
      have HNP : Hid (¬ PP) := fun hp => by cases HF.out.2 hp
      go_wp2_with (first
        | (go_at_call 24; refine (c4 _ HB.out.below).out.mono ?_; rintro e w2 ⟨rfl, hb⟩
           replace HB := Lib.hid (HB.out.kept hb)
           clear hb d0 d1 d2 d3 d4 d5 d6 d7 s0 s1 s2 n0 n1 n2 n3 n4
           obtain ⟨d0, d1, d2, d3, d4, d5, d6, d7⟩ := box8 HB.out.x
           obtain ⟨s0, s1, s2⟩ := box3 HB.out.y
           obtain ⟨n0, n1, n2, n3, n4⟩ := box5 HB.out.z)
        | (go_at_call 25; refine (c5 _ HB.out.below).out.mono ?_; rintro e w2 ⟨rfl, hb⟩
           replace HB := Lib.hid (HB.out.kept hb)
           clear hb d0 d1 d2 d3 d4 d5 d6 d7 s0 s1 s2 n0 n1 n2 n3 n4
           obtain ⟨d0, d1, d2, d3, d4, d5, d6, d7⟩ := box8 HB.out.x
           obtain ⟨s0, s1, s2⟩ := box3 HB.out.y
           obtain ⟨n0, n1, n2, n3, n4⟩ := box5 HB.out.z)
        | (go_at_call 26; refine (c6 _ HB.out.below).out.mono ?_; rintro e w2 ⟨rfl, hb⟩
           replace HB := Lib.hid (HB.out.kept hb)
           clear hb d0 d1 d2 d3 d4 d5 d6 d7 s0 s1 s2 n0 n1 n2 n3 n4
           obtain ⟨d0, d1, d2, d3, d4, d5, d6, d7⟩ := box8 HB.out.x
           obtain ⟨s0, s1, s2⟩ := box3 HB.out.y
           obtain ⟨n0, n1, n2, n3, n4⟩ := box5 HB.out.z)
        | (go_at_call 27; refine (c7 _ HB.out.below).out.mono ?_; rintro e w2 ⟨rfl, hb⟩
           replace HB := Lib.hid (HB.out.kept hb)
           clear hb d0 d1 d2 d3 d4 d5 d6 d7 s0 s1 s2 n0 n1 n2 n3 n4
           obtain ⟨d0, d1, d2, d3, d4, d5, d6, d7⟩ := box8 HB.out.x
           obtain ⟨s0, s1, s2⟩ := box3 HB.out.y
           obtain ⟨n0, n1, n2, n3, n4⟩ := box5 HB.out.z))
      go_ret
      first
        | exact ⟨⟨false, rfl, HF.out⟩, HB.out.below⟩
        | exact ⟨.inl ⟨rfl, HNP.out⟩, HB.out.below⟩
    subst h3
    go_wp2_with (first
      | (go_at_call 24; refine (c4 _ HB.out.below).out.mono ?_; rintro e w2 ⟨rfl, hb⟩
         replace HB := Lib.hid (HB.out.kept hb)
         clear hb d0 d1 d2 d3 d4 d5 d6 d7 s0 s1 s2 n0 n1 n2 n3 n4
         obtain ⟨d0, d1, d2, d3, d4, d5, d6, d7⟩ := box8 HB.out.x
         obtain ⟨s0, s1, s2⟩ := box3 HB.out.y
         obtain ⟨n0, n1, n2, n3, n4⟩ := box5 HB.out.z)
      | (go_at_call 25; refine (c5 _ HB.out.below).out.mono ?_; rintro e w2 ⟨rfl, hb⟩
         replace HB := Lib.hid (HB.out.kept hb)
         clear hb d0 d1 d2 d3 d4 d5 d6 d7 s0 s1 s2 n0 n1 n2 n3 n4
         obtain ⟨d0, d1, d2, d3, d4, d5, d6, d7⟩ := box8 HB.out.x
         obtain ⟨s0, s1, s2⟩ := box3 HB.out.y
         obtain ⟨n0, n1, n2, n3, n4⟩ := box5 HB.out.z)
      | (go_at_call 26; refine (c6 _ HB.out.below).out.mono ?_; rintro e w2 ⟨rfl, hb⟩
         replace HB := Lib.hid (HB.out.kept hb)
         clear hb d0 d1 d2 d3 d4 d5 d6 d7 s0 s1 s2 n0 n1 n2 n3 n4
         obtain ⟨d0, d1, d2, d3, d4, d5, d6, d7⟩ := box8 HB.out.x
         obtain ⟨s0, s1, s2⟩ := box3 HB.out.y
         obtain ⟨n0, n1, n2, n3, n4⟩ := box5 HB.out.z)
      | (go_at_call 27; refine (c7 _ HB.out.below).out.mono ?_; rintro e w2 ⟨rfl, hb⟩
         replace HB := Lib.hid (HB.out.kept hb)
         clear hb d0 d1 d2 d3 d4 d5 d6 d7 s0 s1 s2 n0 n1 n2 n3 n4
         obtain ⟨d0, d1, d2, d3, d4, d5, d6, d7⟩ := box8 HB.out.x
         obtain ⟨s0, s1, s2⟩ := box3 HB.out.y
         obtain ⟨n0, n1, n2, n3, n4⟩ := box5 HB.out.z))
    go_ret
    exact ⟨⟨b4, rfl, HO2.out b4 (by simp)⟩, HB.out.below⟩
  · have HI2 := Lib.hid (HI.out hlv)
    have hlv' : (lv == 0) = false := by simpa using hlv
    clear HI HO
    by_cases h1 : 1 ≤ lv
    case neg =>
      have h1' : decide (1 ≤ lv) = false := by simpa using h1
      have HF : Hid (false = true ↔ PP) := HI2.out false ⟨(fun h => by cases h), fun h => by simp_all⟩
      have HNP : Hid (¬ PP) := fun hp => by cases HF.out.2 hp
      go_wp2_with (first
        | (go_at_call 24; refine (c4 _ HB.out.below).out.mono ?_; rintro e w2 ⟨rfl, hb⟩
           replace HB := Lib.hid (HB.out.kept hb)
           clear hb d0 d1 d2 d3 d4 d5 d6 d7 s0 s1 s2 n0 n1 n2 n3 n4
           obtain ⟨d0, d1, d2, d3, d4, d5, d6, d7⟩ := box8 HB.out.x
           obtain ⟨s0, s1, s2⟩ := box3 HB.out.y
           obtain ⟨n0, n1, n2, n3, n4⟩ := box5 HB.out.z)
        | (go_at_call 25; refine (c5 _ HB.out.below).out.mono ?_; rintro e w2 ⟨rfl, hb⟩
           replace HB := Lib.hid (HB.out.kept hb)
           clear hb d0 d1 d2 d3 d4 d5 d6 d7 s0 s1 s2 n0 n1 n2 n3 n4
           obtain ⟨d0, d1, d2, d3, d4, d5, d6, d7⟩ := box8 HB.out.x
           obtain ⟨s0, s1, s2⟩ := box3 HB.out.y
           obtain ⟨n0, n1, n2, n3, n4⟩ := box5 HB.out.z)
        | (go_at_call 26; refine (c6 _ HB.out.below).out.mono ?_; rintro e w2 ⟨rfl, hb⟩
           replace HB := Lib.hid (HB.out.kept hb)
           clear hb d0 d1 d2 d3 d4 d5 d6 d7 s0 s1 s2 n0 n1 n2 n3 n4
           obtain ⟨d0, d1, d2, d3, d4, d5, d6, d7⟩ := box8 HB.out.x
           obtain ⟨s0, s1, s2⟩ := box3 HB.out.y
           obtain ⟨n0, n1, n2, n3, n4⟩ := box5 HB.out.z)
        | (go_at_call 27; refine (c7 _ HB.out.below).out.mono ?_; rintro e w2 ⟨rfl, hb⟩
           replace HB := Lib.hid (HB.out.kept hb)
           clear hb d0 d1 d2 d3 d4 d5 d6 d7 s0 s1 s2 n0 n1 n2 n3 n4
           obtain ⟨d0, d1, d2, d3, d4, d5, d6, d7⟩ := box8 HB.out.x
           obtain ⟨s0, s1, s2⟩ := box3 HB.out.y
           obtain ⟨n0, n1, n2, n3, n4⟩ := box5 HB.out.z))
      go_ret
      first
        | exact ⟨⟨false, rfl, HF.out⟩, HB.out.below⟩
        | exact ⟨.inl ⟨rfl, HNP.out⟩, HB.out.below⟩
    by_cases h2 : lv ≤ 40
    case neg =>
      have h2' : decide (lv ≤ 40) = false := by simpa using h2
      have HF : Hid (false = true ↔ PP) := HI2.out false ⟨(fun h => by cases h), fun h => by simp_all⟩
      have HNP : Hid (¬ PP) := fun hp => by cases HF.out.2 hp
      go_wp2_with (first
        | (go_at_call 24; refine (c4 _ HB.out.below).out.mono ?_; rintro e w2 ⟨rfl, hb⟩
           replace HB := Lib.hid (HB.out.kept hb)
           clear hb d0 d1 d2 d3 d4 d5 d6 d7 s0 s1 s2 n0 n1 n2 n3 n4
           obtain ⟨d0, d1, d2, d3, d4, d5, d6, d7⟩ := box8 HB.out.x
           obtain ⟨s0, s1, s2⟩ := box3 HB.out.y
           obtain ⟨n0, n1, n2, n3, n4⟩ := box5 HB.out.z)
        | (go_at_call 25; refine (c5 _ HB.out.below).out.mono ?_; rintro e w2 ⟨rfl, hb⟩
           replace HB := Lib.hid (HB.out.kept hb)
           clear hb d0 d1 d2 d3 d4 d5 d6 d7 s0 s1 s2 n0 n1 n2 n3 n4
           obtain ⟨d0, d1, d2, d3, d4, d5, d6, d7⟩ := box8 HB.out.x
           obtain ⟨s0, s1, s2⟩ := box3 HB.out.y
           obtain ⟨n0, n1, n2, n3, n4⟩ := box5 HB.out.z)
        | (go_at_call 26; refine (c6 _ HB.out.below).out.mono ?_; rintro e w2 ⟨rfl, hb⟩
           replace HB := Lib.hid (HB.out.kept hb)
           clear hb d0 d1 d2 d3 d4 d5 d6 d7 s0 s1 s2 n0 n1 n2 n3 n4
           obtain ⟨d0, d1, d2, d3, d4, d5, d6, d7⟩ := box8 HB.out.x
           obtain ⟨s0, s1, s2⟩ := box3 HB.out.y
           obtain ⟨n0, n1, n2, n3, n4⟩ := box5 HB.out.z)
        | (go_at_call 27; refine (c7 _ HB.out.below).out.mono ?_; rintro e w2 ⟨rfl, hb⟩
           replace HB := Lib.hid (HB.out.kept hb)
           clear hb d0 d1 d2 d3 d4 d5 d6 d7 s0 s1 s2 n0 n1 n2 n3 n4
           obtain ⟨d0, d1, d2, d3, d4, d5, d6, d7⟩ := box8 HB.out.x
           obtain ⟨s0, s1, s2⟩ := box3 HB.out.y
           obtain ⟨n0, n1, n2, n3, n4⟩ := box5 HB.out.z))
      go_ret
      first
        | exact ⟨⟨false, rfl, HF.out⟩, HB.out.below⟩
        | exact ⟨.inl ⟨rfl, HNP.out⟩, HB.out.below⟩
    by_cases h3 : qn = 0
    case neg =>
      have h3' : ((qn : Int) == 0) = false := by simpa using h3
      have HF : Hid (false = true ↔ PP) := HI2.out false ⟨(fun h => by cases h), fun h => by simp_all⟩
      have HNP : Hid (¬ PP) := fun hp => by cases HF.out.2 hp
      go_wp2_with (first
        | (go_at_call 24; refine (c4 _ HB.out.below).out.mono ?_; rintro e w2 ⟨rfl, hb⟩
           replace HB := Lib.hid (HB.out.kept hb)
           clear hb d0 d1 d2 d3 d4 d5 d6 d7 s0 s1 s2 n0 n1 n2 n3 n4
           obtain ⟨d0, d1, d2, d3, d4, d5, d6, d7⟩ := box8 HB.out.x
           obtain ⟨s0, s1, s2⟩ := box3 HB.out.y
           obtain ⟨n0, n1, n2, n3, n4⟩ := box5 HB.out.z)
        | (go_at_call 25; refine (c5 _ HB.out.below).out.mono ?_; rintro e w2 ⟨rfl, hb⟩
           replace HB := Lib.hid (HB.out.kept hb)
           clear hb d0 d1 d2 d3 d4 d5 d6 d7 s0 s1 s2 n0 n1 n2 n3 n4
           obtain ⟨d0, d1, d2, d3, d4, d5, d6, d7⟩ := box8 HB.out.x
           obtain ⟨s0, s1, s2⟩ := box3 HB.out.y
           obtain ⟨n0, n1, n2, n3, n4⟩ := box5 HB.out.z)
        | (go_at_call 26; refine (c6 _ HB.out.below).out.mono ?_; rintro e w2 ⟨rfl, hb⟩
           replace HB := Lib.hid (HB.out.kept hb)
           clear hb d0 d1 d2 d3 d4 d5 d6 d7 s0 s1 s2 n0 n1 n2 n3 n4
           obtain ⟨d0, d1, d2, d3, d4, d5, d6, d7⟩ := box8 HB.out.x
           obtain ⟨s0, s1, s2⟩ := box3 HB.out.y
           obtain ⟨n0, n1, n2, n3, n4⟩ := box5 HB.out.z)
        | (go_at_call 27; refine (c7 _ HB.out.below).out.mono ?_; rintro e w2 ⟨rfl, hb⟩
           replace HB := Lib.hid (HB.out.kept hb)
           clear hb d0 d1 d2 d3 d4 d5 d6 d7 s0 s1 s2 n0 n1 n2 n3 n4
           obtain ⟨d0, d1, d2, d3, d4, d5, d6, d7⟩ := box8 HB.out.x
           obtain ⟨s0, s1, s2⟩ := box3 HB.out.y
           obtain ⟨n0, n1, n2, n3, n4⟩ := box5 HB.out.z))
      go_ret
      first
        | exact ⟨⟨false, rfl, HF.out⟩, HB.out.below⟩
        | exact ⟨.inl ⟨rfl, HNP.out⟩, HB.out.below⟩
    subst h3
    cases b5 with
    | false =>
      have HF : Hid (false = true ↔ PP) := HI2.out false ⟨(fun h => by cases h), fun h => by simp_all⟩
      have HNP : Hid (¬ PP) := fun hp => by cases HF.out.2 hp
      go_wp2_with (first
        | (go_at_call 24; refine (c4 _ HB.out.below).out.mono ?_; rintro e w2 ⟨rfl, hb⟩
           replace HB := Lib.hid (HB.out.kept hb)
           clear hb d0 d1 d2 d3 d4 d5 d6 d7 s0 s1 s2 n0 n1 n2 n3 n4
           obtain ⟨d0, d1, d2, d3, d4, d5, d6, d7⟩ := box8 HB.out.x
           obtain ⟨s0, s1, s2⟩ := box3 HB.out.y
           obtain ⟨n0, n1, n2, n3, n4⟩ := box5 HB.out.z)
        | (go_at_call 25; refine (c5 _ HB.out.below).out.mono ?_; rintro e w2 ⟨rfl, hb⟩
           replace HB := Lib.hid (HB.out.kept hb)
           clear hb d0 d1 d2 d3 d4 d5 d6 d7 s0 s1 s2 n0 n1 n2 n3 n4
           obtain ⟨d0, d1, d2, d3, d4, d5, d6, d7⟩ := box8 HB.out.x
           obtain ⟨s0, s1, s2⟩ := box3 HB.out.y
           obtain ⟨n0, n1, n2, n3, n4⟩ := box5 HB.out.z)
        | (go_at_call 26; refine (c6 _ HB.out.below).out.mono ?_; rintro e w2 ⟨rfl, hb⟩
           replace HB := Lib.hid (HB.out.kept hb)
           clear hb d0 d1 d2 d3 d4 d5 d6 d7 s0 s1 s2 n0 n1 n2 n3 n4
           obtain ⟨d0, d1, d2, d3, d4, d5, d6, d7⟩ := box8 HB.out.x
           obtain ⟨s0, s1, s2⟩ := box3 HB.out.y
           obtain ⟨n0, n1, n2, n3, n4⟩ := box5 HB.out.z)
        | (go_at_call 27; refine (c7 _ HB.out.below).out.mono ?_; rintro e w2 ⟨rfl, hb⟩
           replace HB := Lib.hid (HB.out.kept hb)
           clear hb d0 d1 d2 d3 d4 d5 d6 d7 s0 s1 s2 n0 n1 n2 n3 n4
           obtain ⟨d0, d1, d2, d3, d4, d5, d6, d7⟩ := box8 HB.out.x
           obtain ⟨s0, s1, s2⟩ := box3 HB.out.y
           obtain ⟨n0, n1, n2, n3, n4⟩ := box5 HB.out.z))
      go_ret
      first
        | exact ⟨⟨false, rfl, HF.out⟩, HB.out.below⟩
        | exact ⟨.inl ⟨rfl, HNP.out⟩, HB.out.below⟩
    | true =>
    have hk1 := HK1.out rfl
    obtain ⟨k1, hk1'⟩ : ∃ k1, k1 + 1 = kn := ⟨kn - 1, by omega⟩
    have hw : IntKind.i64.wrap ((kn : Int) - 1) = (k1 : Int) := by rw [IntKind.wrap_i64]; have := HKL.out; omega
    by_cases h4 : pn = k1
    case neg =>
      have h4' : ((pn : Int) == (k1 : Int)) = false := by simp; omega
      have h4n : ¬ (pn + 1 = kn) := by omega
      have HF : Hid (false = true ↔ PP) := HI2.out false ⟨(fun h => by cases h), fun h => by simp_all⟩
      have HNP : Hid (¬ PP) := fun hp => by cases HF.out.2 hp
      go_wp2_with (first
        | (go_at_call 24; refine (c4 _ HB.out.below).out.mono ?_; rintro e w2 ⟨rfl, hb⟩
           replace HB := Lib.hid (HB.out.kept hb)
           clear hb d0 d1 d2 d3 d4 d5 d6 d7 s0 s1 s2 n0 n1 n2 n3 n4
           obtain ⟨d0, d1, d2, d3, d4, d5, d6, d7⟩ := box8 HB.out.x
           obtain ⟨s0, s1, s2⟩ := box3 HB.out.y
           obtain ⟨n0, n1, n2, n3, n4⟩ := box5 HB.out.z)
        | (go_at_call 25; refine (c5 _ HB.out.below).out.mono ?_; rintro e w2 ⟨rfl, hb⟩
           replace HB := Lib.hid (HB.out.kept hb)
           clear hb d0 d1 d2 d3 d4 d5 d6 d7 s0 s1 s2 n0 n1 n2 n3 n4
           obtain ⟨d0, d1, d2, d3, d4, d5, d6, d7⟩ := box8 HB.out.x
           obtain ⟨s0, s1, s2⟩ := box3 HB.out.y
           obtain ⟨n0, n1, n2, n3, n4⟩ := box5 HB.out.z)
        | (go_at_call 26; refine (c6 _ HB.out.below).out.mono ?_; rintro e w2 ⟨rfl, hb⟩
           replace HB := Lib.hid (HB.out.kept hb)
           clear hb d0 d1 d2 d3 d4 d5 d6 d7 s0 s1 s2 n0 n1 n2 n3 n4
           obtain ⟨d0, d1, d2, d3, d4, d5, d6, d7⟩ := box8 HB.out.x
           obtain ⟨s0, s1, s2⟩ := box3 HB.out.y
           obtain ⟨n0, n1, n2, n3, n4⟩ := box5 HB.out.z)
        | (go_at_call 27; refine (c7 _ HB.out.below).out.mono ?_; rintro e w2 ⟨rfl, hb⟩
           replace HB := Lib.hid (HB.out.kept hb)
           clear hb d0 d1 d2 d3 d4 d5 d6 d7 s0 s1 s2 n0 n1 n2 n3 n4
           obtain ⟨d0, d1, d2, d3, d4, d5, d6, d7⟩ := box8 HB.out.x
           obtain ⟨s0, s1, s2⟩ := box3 HB.out.y
           obtain ⟨n0, n1, n2, n3, n4⟩ := box5 HB.out.z))
      go_ret
      first
        | exact ⟨⟨false, rfl, HF.out⟩, HB.out.below⟩
        | exact ⟨.inl ⟨rfl, HNP.out⟩, HB.out.below⟩
    subst h4
    cases b6 with
    | false =>
      have HF : Hid (false = true ↔ PP) := HI2.out false ⟨(fun h => by cases h), fun h => by simp_all⟩
      have HNP : Hid (¬ PP) := fun hp => by cases HF.out.2 hp
      go_wp2_with (first
        | (go_at_call 24; refine (c4 _ HB.out.below).out.mono ?_; rintro e w2 ⟨rfl, hb⟩
           replace HB := Lib.hid (HB.out.kept hb)
           clear hb d0 d1 d2 d3 d4 d5 d6 d7 s0 s1 s2 n0 n1 n2 n3 n4
           obtain ⟨d0, d1, d2, d3, d4, d5, d6, d7⟩ := box8 HB.out.x
           obtain ⟨s0, s1, s2⟩ := box3 HB.out.y
           obtain ⟨n0, n1, n2, n3, n4⟩ := box5 HB.out.z)
        | (go_at_call 25; refine (c5 _ HB.out.below).out.mono ?_; rintro e w2 ⟨rfl, hb⟩
           replace HB := Lib.hid (HB.out.kept hb)
           clear hb d0 d1 d2 d3 d4 d5 d6 d7 s0 s1 s2 n0 n1 n2 n3 n4
           obtain ⟨d0, d1, d2, d3, d4, d5, d6, d7⟩ := box8 HB.out.x
           obtain ⟨s0, s1, s2⟩ := box3 HB.out.y
           obtain ⟨n0, n1, n2, n3, n4⟩ := box5 HB.out.z)
        | (go_at_call 26; refine (c6 _ HB.out.below).out.mono ?_; rintro e w2 ⟨rfl, hb⟩
           replace HB := Lib.hid (HB.out.kept hb)
           clear hb d0 d1 d2 d3 d4 d5 d6 d7 s0 s1 s2 n0 n1 n2 n3 n4
           obtain ⟨d0, d1, d2, d3, d4, d5, d6, d7⟩ := box8 HB.out.x
           obtain ⟨s0, s1, s2⟩ := box3 HB.out.y
           obtain ⟨n0, n1, n2, n3, n4⟩ := box5 HB.out.z)
        | (go_at_call 27; refine (c7 _ HB.out.below).out.mono ?_; rintro e w2 ⟨rfl, hb⟩
           replace HB := Lib.hid (HB.out.kept hb)
           clear hb d0 d1 d2 d3 d4 d5 d6 d7 s0 s1 s2 n0 n1 n2 n3 n4
           obtain ⟨d0, d1, d2, d3, d4, d5, d6, d7⟩ := box8 HB.out.x
           obtain ⟨s0, s1, s2⟩ := box3 HB.out.y
           obtain ⟨n0, n1, n2, n3, n4⟩ := box5 HB.out.z))
      go_ret
      first
        | exact ⟨⟨false, rfl, HF.out⟩, HB.out.below⟩
        | exact ⟨.inl ⟨rfl, HNP.out⟩, HB.out.below⟩
    | true =>
    have HFIN : Hid (b7 = true ↔ 1 ≤ lv ∧ lv ≤ 40 ∧ (0 : Nat) = 0 ∧ True ∧ pn + 1 = kn ∧ True ∧ b7 = true) := ⟨fun h => ⟨h1, h2, rfl, trivial, hk1', trivial, h⟩, fun h => h.2.2.2.2.2.2⟩
    go_wp2_with (first
      | (go_at_call 24; refine (c4 _ HB.out.below).out.mono ?_; rintro e w2 ⟨rfl, hb⟩
         replace HB := Lib.hid (HB.out.kept hb)
         clear hb d0 d1 d2 d3 d4 d5 d6 d7 s0 s1 s2 n0 n1 n2 n3 n4
         obtain ⟨d0, d1, d2, d3, d4, d5, d6, d7⟩ := box8 HB.out.x
         obtain ⟨s0, s1, s2⟩ := box3 HB.out.y
         obtain ⟨n0, n1, n2, n3, n4⟩ := box5 HB.out.z)
      | (go_at_call 25; refine (c5 _ HB.out.below).out.mono ?_; rintro e w2 ⟨rfl, hb⟩
         replace HB := Lib.hid (HB.out.kept hb)
         clear hb d0 d1 d2 d3 d4 d5 d6 d7 s0 s1 s2 n0 n1 n2 n3 n4
         obtain ⟨d0, d1, d2, d3, d4, d5, d6, d7⟩ := box8 HB.out.x
         obtain ⟨s0, s1, s2⟩ := box3 HB.out.y
         obtain ⟨n0, n1, n2, n3, n4⟩ := box5 HB.out.z)
      | (go_at_call 26; refine (c6 _ HB.out.below).out.mono ?_; rintro e w2 ⟨rfl, hb⟩
         replace HB := Lib.hid (HB.out.kept hb)
         clear hb d0 d1 d2 d3 d4 d5 d6 d7 s0 s1 s2 n0 n1 n2 n3 n4
         obtain ⟨d0, d1, d2, d3, d4, d5, d6, d7⟩ := box8 HB.out.x
         obtain ⟨s0, s1, s2⟩ := box3 HB.out.y
         obtain ⟨n0, n1, n2, n3, n4⟩ := box5 HB.out.z)
      | (go_at_call 27; refine (c7 _ HB.out.below).out.mono ?_; rintro e w2 ⟨rfl, hb⟩
         replace HB := Lib.hid (HB.out.kept hb)
         clear hb d0 d1 d2 d3 d4 d5 d6 d7 s0 s1 s2 n0 n1 n2 n3 n4
         obtain ⟨d0, d1, d2, d3, d4, d5, d6, d7⟩ := box8 HB.out.x
         obtain ⟨s0, s1, s2⟩ := box3 HB.out.y
         obtain ⟨n0, n1, n2, n3, n4⟩ := box5 HB.out.z))
    go_ret
    exact ⟨⟨b7, rfl, HI2.out b7 (by have := HFIN.out; simpa using this)⟩, HB.out.below⟩
end No
end Go.Proofs.Ytlcdjbleeanpbaa

namespace Go.Proofs.Ytlcdjbleeanpbaa
open Go.RowKit
namespace No
open Mem Lx Bu Lf Fa Hp Pq
/-- the one ahead, 0 at first -/
def ahdK (L : List Nat) (i : Nat) : Nat := if i = 0 then 0 else gt L (i - 1)
def KdAt (c : Cfg) (L : List Nat) (i : Nat) : Prop := ahdK L i < gt L i ∧ ((gt L i : Nat) : Int) < c.blocks
theorem kidsOk_iff {c : Cfg} {K : List Nat} : KidsOk c K ↔ K.Nodup ∧ ∀ k, k ∈ K → k ≠ 0 ∧ (k : Int) < c.blocks := by
  constructor
  · intro h
    refine ⟨?_, fun k hk => ?_⟩
    · rw [List.nodup_iff_pairwise_ne, List.pairwise_iff_getElem]
      intro i j hi hj hij
      exact (h j K[j] (List.getElem?_eq_getElem hj)).2 i K[i] hij (List.getElem?_eq_getElem hi)
    · obtain ⟨i, hi⟩ := List.mem_iff_getElem?.1 hk
      exact (h i k hi).1
  · rintro ⟨h1, h2⟩ i k hk
    refine ⟨h2 k (List.mem_of_getElem? hk), fun j m hj hm e => ?_⟩
    rw [List.nodup_iff_pairwise_ne, List.pairwise_iff_getElem] at h1
    obtain ⟨hi, ei⟩ := List.getElem?_eq_some_iff.1 hk
    obtain ⟨hj2, ej⟩ := List.getElem?_eq_some_iff.1 hm
    exact h1 j i hj2 hi hj (by rw [ei, ej, e])
theorem kids_sorted {c : Cfg} {K L : List Nat} {n : Nat} (hp : L.Perm K) (hn : L.length = n) (ho : Ord2 L 0 n) : KidsOk c K ↔ ∀ i, i < n → KdAt c L i := by
  have hg : ∀ i, i < n → gt L i ∈ L := fun i hi => by
    rw [gt_eq (by omega)]
    exact List.getElem_mem _
  rw [kidsOk_iff]
  constructor
  · rintro ⟨h1, h2⟩ i hi
    have hl := hp.nodup_iff.2 h1
    have hm := h2 _ (hp.mem_iff.1 (hg i hi))
    refine ⟨?_, hm.2⟩
    unfold ahdK
    by_cases e : i = 0
    · rw [if_pos e]
      omega
    · rw [if_neg e]
      have h3 := ho (i - 1) i (Nat.zero_le _) (by omega) hi
      rw [List.nodup_iff_pairwise_ne, List.pairwise_iff_getElem] at hl
      have h4 := hl (i - 1) i (by omega) (by omega) (by omega)
      rw [gt_eq (show i - 1 < L.length by omega), gt_eq (show i < L.length by omega)] at h3 ⊢
      omega
  · intro h
    have hs : ∀ j, j < n → ∀ i, i < j → gt L i < gt L j := fun j => by
      induction j with
      | zero => intro _ i hi; omega
      | succ j ih =>
        intro hj i hi
        have h1 := (h (j + 1) hj).1
        unfold ahdK at h1
        rw [if_neg (by omega), Nat.add_sub_cancel] at h1
        by_cases e : i = j
        · rw [e]
          exact h1
        · exact Nat.lt_trans (ih (by omega) i (by omega)) h1
    refine ⟨hp.nodup_iff.1 ?_, fun k hk => ?_⟩
    · rw [List.nodup_iff_pairwise_ne, List.pairwise_iff_getElem]
      intro i j hi hj hij
      have := hs j (by omega) i hij
      rw [gt_eq hi, gt_eq hj] at this
      omega
    · obtain ⟨i, hi, rfl⟩ := List.mem_iff_getElem.1 (hp.mem_iff.2 hk)
      have h1 := h i (by omega)
      rw [← gt_eq hi]
      exact ⟨by have := h1.1; omega, h1.2⟩
/-- what the sorted numbers are -/
structure SrtK (w : World) (A : Option Addr) (K L : List Nat) (n : Nat) : Prop where
  rd : KL w A L
  perm : L.Perm K
  len : L.length = n
  ord : Ord2 L 0 n
set_option maxRecDepth 100000 in
set_option maxHeartbeats 4000000 in
theorem mayKidsS_any {W : World} (c : Cfg) {A : Option Addr} {cc : Nat} {K : List Nat} (hl : K.length ≤ 80) (hkid : ∀ k, k ∈ K → k < 4294967296)
    (cSeq : 1 ≤ K.length → ∀ W1, Below W.heap.size W W1 → Calls Try.prog 53 #[.slice A K.length cc] W1 fun e w1 => ∃ sv, e = .returned sv ∧ Below W1.heap.size W1 w1 ∧ Calls Try.prog 52 #[sv] w1 fun e w2 => ∃ A2 c2 L, e = .returned (.slice A2 K.length c2) ∧ SrtK w2 A2 K L K.length ∧ Below w1.heap.size w1 w2) :
    Calls Try.prog 25 #[.agg (cfCs c), .slice A K.length cc] W fun e w' => (∃ v : Bool, e = .returned (.bool v) ∧ (v = true ↔ KidsP c K)) ∧ Below W.heap.size W w' := by
  obtain ⟨P, hP⟩ : ∃ P : Prop, P = KidsP c K := ⟨_, rfl⟩
  rw [← hP]
  obtain ⟨n, hn⟩ : ∃ n, n = K.length := ⟨_, rfl⟩
  have HN1 : Hid (¬ (1 ≤ n ∧ (n : Int) ≤ c.fan) → ¬ P) := fun h hp => by
    rw [hP] at hp
    exact h ⟨by rw [hn]; exact hp.1, by rw [hn]; exact hp.2.1⟩
  have HSR : Hid (1 ≤ n → (n : Int) ≤ c.fan → ∀ (w : World) (A2 : Option Addr) (L : List Nat), SrtK w A2 K L n → (P ↔ ∀ i, i < n → KdAt c L i) ∧ ∀ i, i < n → gt L i < 4294967296) := fun h1 h2 w A2 L hs => by
    refine ⟨?_, fun i hi => ?_⟩
    · rw [hP, ← kids_sorted hs.perm hs.len hs.ord]
      exact ⟨fun h => h.2.2, fun h => ⟨by rw [← hn]; exact h1, by rw [← hn]; exact h2, h⟩⟩
    · rw [gt_eq (by rw [hs.len]; exact hi)]
      exact hkid _ (hs.perm.mem_iff.1 (List.getElem_mem _))
  rw [← hn] at cSeq hl ⊢
  have CS := Lib.hid cSeq
  have HKA : Hid (∀ L i, KdAt c L i ↔ ahdK L i < gt L i ∧ ((gt L i : Nat) : Int) < c.blocks) := fun L i => Iff.rfl
  generalize hKd : KdAt c = Kd at *
  clear hP hn hkid cSeq hKd
  unfold cfCs
  obtain ⟨cB, cY, cF, cN, cU, cL, cKy, cV⟩ := c
  simp only at *
  go_enter Try.func25, Try.ntmps25
  go_upto_region 1 with fail
  have hx := heap_alloc_new W (.cells #[.int .i64 cB, .int .i64 cY, .int .i64 cF, .int .i64 cN, .int .i64 cU, .int .i64 cL, .int .i64 cKy, .int .i64 cV] 23)
  have hb0 : Below W.heap.size W (W.alloc (.cells #[.int .i64 cB, .int .i64 cY, .int .i64 cF, .int .i64 cN, .int .i64 cU, .int .i64 cL, .int .i64 cKy, .int .i64 cV] 23)) := (Below.refl _ _).alloc (Nat.le_refl _) _
  generalize W.alloc (.cells #[.int .i64 cB, .int .i64 cY, .int .i64 cF, .int .i64 cN, .int .i64 cU, .int .i64 cL, .int .i64 cKy, .int .i64 cV] 23) = w1 at *
  obtain ⟨g, hg⟩ : ∃ g, g = W.heap.size := ⟨_, rfl⟩
  rw [← hg] at hx
  simp only [← hg]
  have HX := Lib.hid hx
  have HB := Lib.hid hb0
  obtain ⟨d0, d1, d2, d3, d4, d5, d6, d7⟩ := box8 hx
  clear hx hb0 hg
  by_cases h1 : 1 ≤ n
  case neg =>
    have HNP := Lib.hid (HN1.out (fun h => h1 h.1))
    have h1' : n < 1 := by omega
    have HF : Hid (false = true ↔ P) := ⟨(fun h => by cases h), fun h => absurd h HNP.out⟩
    obtain rfl : n = 0 := by omega
    clear h1'
    go_wp2_with fail
    go_ret
    first
      | exact ⟨⟨false, rfl, HF.out⟩, HB.out⟩
      | exact ⟨.inl ⟨rfl, HNP.out⟩, HB.out⟩
  by_cases h2 : (n : Int) ≤ cN
  case neg =>
    have HNP := Lib.hid (HN1.out (fun h => h2 h.2))
    have HF : Hid (false = true ↔ P) := ⟨(fun h => by cases h), fun h => absurd h HNP.out⟩
    have h2' : cN < (n : Int) := by omega
    have h1' : ¬ (n < 1) := by omega
    go_wp2_with fail
    go_ret
    first
      | exact ⟨⟨false, rfl, HF.out⟩, HB.out⟩
      | exact ⟨.inl ⟨rfl, HNP.out⟩, HB.out⟩
  have h2' : ¬ (cN < (n : Int)) := by omega
  have h1' : ¬ (n < 1) := by omega
  have cV' := Lib.hid (CS.out h1 w1 HB.out)
  have HSR2 := Lib.hid (HSR.out h1 h2)
  go_upto_region 4 with fail
  clear h2' h1' HN1 HSR CS d0 d1 d2 d3 d4 d5 d6 d7
  go_wp2_with (first
    | (go_at_call 53; refine cV'.out.mono ?_; rintro e w2 ⟨sv, rfl, hb2, hs⟩
       have HB2 := Lib.hid (bel3 HB.out hb2)
       have HX2 := Lib.hid (kept3 HX.out hb2)
       have cS := Lib.hid hs
       clear hb2 hs)
    | (go_at_call 52; refine cS.out.mono ?_; rintro e w3 ⟨A2, c2, L, rfl, hsk, hb3⟩))
  have HB3 := Lib.hid (bel3 HB2.out hb3)
  have HX3 := Lib.hid (kept3 HX2.out hb3)
  have HSP := Lib.hid (HSR2.out w3 A2 L hsk)
  have HSK := Lib.hid hsk
  obtain ⟨d0, d1, d2, d3, d4, d5, d6, d7⟩ := box8 HX3.out
  clear hsk hb3 HX HB HX2 HB2 cV' cS HSR2
  go_loopg [5, 22] n (fun gk av iv wr => ∃ k : Nat, k ≤ n ∧ gk = n - k ∧ av = .int .u32 ((ahdK L k : Nat) : Int) ∧ iv = .int .i64 (k : Int) ∧ Hid (∀ i, i < k → Kd L i) ∧ w3 = wr)
  case atStart => exact ⟨0, Nat.zero_le _, rfl, rfl, rfl, Lib.hid (fun i hi => absurd hi (Nat.not_lt_zero _)), rfl⟩
  case round =>
    obtain ⟨k, hk, rfl, rfl, rfl, HL, rfl⟩ := hrel
    by_cases hlt : k < n
    · have hkL : k < L.length := by rw [HSK.out.len]; exact hlt
      have hx' := nat_lenK hkL
      rw [← gt_eq hkL] at hx'
      obtain ⟨b, o, e, -, c0⟩ := RdK.kid HSK.out.rd hx'
      subst e
      have hK := Lib.hid (HKA.out L k)
      have hA2 : ahdK L (k + 1) = gt L k := by simp [ahdK]
      have hxb := HSP.out.2 k hlt
      have hNo : Hid (¬ Kd L k → ¬ P) := fun h hp => h (HSP.out.1.1 hp k hlt)
      have hGo : Hid (Kd L k → ∀ i, i < k + 1 → Kd L i) := fun h i hi => by
        by_cases e : i = k
        · rw [e]; exact h
        · exact HL.out i (by omega)
      have hw3 : IntKind.i64.wrap ((k : Int) + 1) = ((k + 1 : Nat) : Int) := by rw [IntKind.wrap_i64]; omega
      have HA3 : ∀ m : Nat, m = gt L k → ((ahdK L (k + 1) : Nat) : Int) = (m : Int) := fun m e => by rw [hA2, e]
      obtain ⟨a2, ha2⟩ : ∃ m, m = gt L k := ⟨_, rfl⟩
      have HA4 := Lib.hid (HA3 a2 ha2)
      rw [← ha2] at c0 hK hxb
      generalize ahdK L k = a at *
      clear HA3 hA2
      have hw4 : IntKind.i64.wrap (a2 : Int) = (a2 : Int) := by rw [IntKind.wrap_i64]; omega
      clear hx' hkL HSP HL HSK HX3 ha2
      by_cases t1 : (a2 : Int) ≤ (a : Int)
      · have HF : Hid (false = true ↔ P) := ⟨(fun h => by cases h), fun h => absurd h (hNo.out (fun hk => by have := (hK.out.1 hk).1; omega))⟩
        clear hK hNo hGo hxb hk
        go_wp2_with fail
        go_ret
        exact ⟨⟨false, rfl, HF.out⟩, HB3.out⟩
      · by_cases t2 : cB ≤ (a2 : Int)
        · have HF : Hid (false = true ↔ P) := ⟨(fun h => by cases h), fun h => absurd h (hNo.out (fun hk => by have := (hK.out.1 hk).2; omega))⟩
          clear hK hNo hGo hxb hk
          go_wp2_with fail
          go_ret
          exact ⟨.inl ⟨rfl, fun hp => by cases HF.out.2 hp⟩, HB3.out⟩
        · have HL2 := Lib.hid (hGo.out (hK.out.2 ⟨by omega, by omega⟩))
          clear hK hNo hGo hxb
          go_wp2_with fail
          go_roundg (n - (k + 1))
          case measure => omega
          case rel => exact ⟨k + 1, hlt, rfl, by rw [HA4.out], by go_num, HL2, rfl⟩
    · obtain rfl : k = n := by omega
      have HT : Hid P := Lib.hid (HSP.out.1.2 HL.out)
      clear HL HSP HSK HKA HX3 hlt hk
      go_wp2_with fail
      go_ret
      exact ⟨⟨true, rfl, fun _ => HT.out, fun _ => rfl⟩, HB3.out⟩
end No
end Go.Proofs.Ytlcdjbleeanpbaa

namespace Go.Proofs.Ytlcdjbleeanpbaa
open Go.RowKit
namespace No
open Mem Lx Bu Lf Fa Hp Pq
theorem US.srtK {w wr : World} {g c n : Nat} {K L : List Nat} (h : US w wr g c n K L 0 n) (ho : Ord2 L 0 n) : SrtK wr (some ⟨g, 0, none⟩) K L n := by
  refine ⟨fun _ => ⟨g, 0, rfl, h.ow.lt, fun i x hx j u hu => ?_⟩, h.mv.perm, h.len, ho⟩
  obtain ⟨hi, ei⟩ := List.getElem?_eq_some_iff.1 hx
  have hc := h.cell (i := i) (by rw [← h.len]; exact hi)
  rw [gt_eq hi, ei] at hc
  match j, hu with
  | 0, hu =>
    obtain rfl : Value.int .u32 (x : Int) = u := by simpa [KdK] using hu
    simpa [KdK] using hc
set_option maxRecDepth 100000 in
set_option maxHeartbeats 4000000 in
theorem Sorted_any {W : World} {sv : Value} {K : List Nat} {n : Nat} (hn : K.length = n) (h1 : 1 ≤ n) (h80 : n ≤ 80)
    (cC : ∀ W1, Below W.heap.size W W1 → Calls Try.prog 67 #[sv] W1 fun e w2 => ∃ g c, e = .returned (.slice (some ⟨g, 0, none⟩) n c) ∧ W1.heap.size ≤ g ∧ Ow 38 w2 g c (K.map nV) ∧ Below W1.heap.size W1 w2) :
    Calls Try.prog 52 #[sv] W fun e w2 => ∃ A2 c2 L, e = .returned (.slice A2 n c2) ∧ SrtK w2 A2 K L n ∧ Below W.heap.size W w2 := by
  have cC' := Lib.hid (cC W (Below.refl _ _))
  have cS := Lib.hid (fun (w : World) (g c : Nat) (h : Ow 38 w g c (K.map nV)) => Sort_any h hn h1 h80)
  clear cC hn h1 h80
  go_enter Try.func52, Try.ntmps52
  go_wp2_with (first
    | (go_at_call 67; refine cC'.out.mono ?_; rintro e w2 ⟨g, c, rfl, hg, ho, hb2⟩
       have HB2 := Lib.hid hb2
       have HG := Lib.hid hg
       have cS' := Lib.hid (cS.out w2 g c ho)
       clear hb2 hg ho)
    | (go_at_call 68; refine cS'.out.mono ?_; rintro e w3 ⟨rfl, L, hus, ho⟩))
  go_ret
  have hi := hus.hi
  have hs := HB2.out.size
  have hg := HG.out
  exact ⟨_, _, L, rfl, US.srtK hus ho, HB2.out.trans ⟨hi.os, hi.tape, hi.output, hi.size, fun k hk => hi.block k (by omega) (by simp; omega)⟩⟩
end No
end Go.Proofs.Ytlcdjbleeanpbaa

namespace Go.Proofs.Ytlcdjbleeanpbaa
open Go.RowKit
namespace No
open Mem Lx Bu Lf Fa Hp Pq
attribute [local go_sem] Oper.semAt_some
set_option maxRecDepth 100000 in
set_option maxHeartbeats 4000000 in
theorem Values1_in (F : Fence) (n : Nat) (hf : F.fn 69) (hro : F.round = none) (hn : 1 ≤ n) (l Bs n₀ b off len cap : Nat) (zs : List Nat) (hlen : zs.length = len) (hreach : len ≤ 80) (hb : b < n₀) (J Jx : List Nat → World → Prop)
    (hY : ∀ pre x W, J pre W → pre.length < len → YieldAt F (n - 1) Try.prog l #[nV x] W fun e W' => (e = .returned (.bool true) ∧ J (pre ++ [x]) W' ∧ Below n₀ W W') ∨ (e = .returned (.bool false) ∧ Jx (pre ++ [x]) W'))
    (W : World) (hBs : W.cell? ⟨Bs, 0, none⟩ = some (.slice (some ⟨b, off, none⟩) len cap)) (hc : ∀ j, j < len → W.cell? ⟨b, off + j, none⟩ = some (nV (gt zs j))) (h0 : J [] W) :
    CallsIn F n Try.prog 69 #[.func (.yield l) #[] #[], .pointer (some ⟨Bs, 0, none⟩)] W fun e W' => (∃ v, e = .returned v) ∧ (J zs W' ∨ ∃ pre, Jx pre W') := by
  have HT : Hid (∀ k, k < len → zs.take (k + 1) = zs.take k ++ [gt zs k]) := fun k hk => by
    rw [gt_eq (by omega), List.take_append_getElem (by omega)]
  have HA : Hid (zs.take len = zs) := by rw [← hlen]; exact Lib.hid (List.take_length)
  have HL : Hid (∀ k, k < len → (zs.take k).length < len) := fun k hk => by rw [List.length_take]; omega
  generalize hG : gt zs = z at *
  refine callsIn_of_wp Try.func69 rfl hf ?_ hro
  simp only [Try.ntmps69, List.size_toArray, List.length_cons, List.length_nil, Nat.reduceAdd, Nat.reduceSub, Array.replicate_succ, Array.replicate_zero, List.push_toArray, List.append_toArray, List.nil_append, List.cons_append]
  gi_wp2
  gi_loopw [7] (fun i wr => ∃ k : Nat, k ≤ len ∧ i = .int .i64 k ∧ Hid (J (zs.take k) wr) ∧ Hid (Below n₀ W wr))
    (fun i _ => len - (intOf i).toNat)
  case atStart => exact ⟨0, Nat.zero_le _, rfl, h0, Below.refl _ _⟩
  case round =>
    obtain ⟨k, hk, rfl, hJs, hnx⟩ := hrel
    by_cases hlt : k < len
    · obtain ⟨fn, tmps, assign, body, hy, hR⟩ := hY _ (z k) wr hJs.out (HL.out k hlt)
      have hcx : wr.cell? ⟨b, off + k, none⟩ = some (nV (z k)) := (hnx.out.cell (p := ⟨b, off + k, none⟩) hb).trans (hc k hlt)
      unfold nV at hcx hy
      gi_wp2
      refine hR.mono ?_
      rintro e W3 (⟨rfl, hJ3, hk3⟩ | ⟨rfl, hJx3⟩)
      · gi_wp2
        go_roundw
        case rel => exact ⟨k + 1, by omega, by simp, by rw [HT.out k hlt]; exact hJ3, hnx.out.trans hk3⟩
        case measure => simp [intOf]; omega
      · gi_wp2
        refine bodyPost_ret (results_none rfl _ _ _) rfl ?_
        exact ⟨⟨_, rfl⟩, .inr ⟨_, hJx3⟩⟩
    · obtain rfl : k = len := by omega
      gi_wp2
      go_end0
      exact ⟨⟨_, rfl⟩, .inl (by rw [← HA.out]; exact hJs.out)⟩
set_option maxRecDepth 100000 in
set_option maxHeartbeats 4000000 in
theorem Values_any (a : Option Addr) (len cap : Nat) (w : World) :
    Calls Try.prog 53 #[.slice a len cap] w fun e w' => e = .returned (.func (.func 69) #[] #[.pointer (some ⟨w.heap.size, 0, none⟩)]) ∧ w' = w.alloc (.cells #[.slice a len cap] 26) := by
  go_enter Try.func53, Try.ntmps53
  go_wp2
  go_ret
  exact ⟨rfl, rfl⟩
theorem Values_stops (F : Fence) (n : Nat) (hf : F.fn 69) (hro : F.round = none) (hn : 1 ≤ n) (Bs n₀ b off cap : Nat) (zs : List Nat) (hl : zs.length ≤ 80) (w : World) (hBs : Bs < w.heap.size) (hn₀ : n₀ ≤ w.heap.size) (hb : b < n₀)
    (hbx : w.cell? ⟨Bs, 0, none⟩ = some (.slice (some ⟨b, off, none⟩) zs.length cap)) (hc : ∀ j, j < zs.length → w.cell? ⟨b, off + j, none⟩ = some (nV (gt zs j))) :
    SeqStopsK F n Try.prog 69 #[.pointer (some ⟨Bs, 0, none⟩)] (fun x : Nat => #[nV x]) (Below n₀) (fun ys => ys = zs) (fun _ => True) zs.length w := fun l J Jx W hW _ _ hY h0 =>
  (Values1_in F n hf hro hn l Bs n₀ b off zs.length cap zs rfl hl hb J Jx hY W ((hW.cell (p := ⟨Bs, 0, none⟩) hBs).trans hbx) (fun j hj => ((hW.cell (p := ⟨b, off + j, none⟩) (Nat.lt_of_lt_of_le hb hn₀))).trans (hc j hj)) h0).mono fun _ _ ⟨h1, h2⟩ => ⟨h1, h2.elim (fun h => .inl ⟨zs, rfl, h⟩) (fun ⟨pre, h⟩ => .inr ⟨pre, trivial, h⟩)⟩
end No
end Go.Proofs.Ytlcdjbleeanpbaa

namespace Go.Proofs.Ytlcdjbleeanpbaa
open Go.RowKit
namespace No
open Mem Lx Bu Lf Fa Hp Pq
attribute [local go_sem] Oper.semAt_some
theorem info_u32 : (Try.prog.info? 38).map (fun i => (i.zero, i.size, i.bytes)) = some (some (.int .u32 0), 1, 4) := by kernel_rfl
theorem und_u32s : Try.prog.underlying 26 = some (.slice 38) := by kernel_rfl
set_option maxRecDepth 100000 in
set_option maxHeartbeats 4000000 in
theorem AppendSeq_in (F : Fence) (n : Nat) (hf : F.fn 73) (hg : F.fn 69) (hro : F.round = none) (hn : 3 ≤ n) (Bs b off cap : Nat) (zs : List Nat) (hl : zs.length ≤ 80) (w : World) (hBs : Bs < w.heap.size) (hb : b < w.heap.size)
    (hbx : w.cell? ⟨Bs, 0, none⟩ = some (.slice (some ⟨b, off, none⟩) zs.length cap)) (hc : ∀ j, j < zs.length → w.cell? ⟨b, off + j, none⟩ = some (nV (gt zs j))) :
    CallsIn F n Try.prog 73 #[.slice none 0 0, .func (.func 69) #[] #[.pointer (some ⟨Bs, 0, none⟩)]] w fun e W' => ∃ v, e = .returned v ∧ W'.ownsRow w.heap.size 38 1 v zs.length (zs.map nV) ∧ Below w.heap.size w W' := by
  have h1 : 1 ≤ n := by omega
  obtain ⟨i0, hi, hz0, hz1, hz2⟩ := info_parts info_u32
  refine callsIn_of_wp_marks Try.func73 rfl hf ?_ hro
  simp only [Try.ntmps73, List.size_toArray, List.length_cons, List.length_nil, Nat.reduceAdd, Nat.reduceSub, Array.replicate_succ, Array.replicate_zero, List.push_toArray, List.append_toArray, List.nil_append, List.cons_append]
  gi_wp2
  have bO := Boxed.new w 26 (.slice none 0 0)
  have hB0 : Below w.heap.size w (w.alloc (.cells #[.slice none 0 0] 26)) := (Below.refl _ w).alloc (Nat.le_refl _) _
  refine wpIn_rangeFunc_ownG hro h1 (gf := 69) (lb := #[.pointer (some ⟨Bs, 0, none⟩)]) rfl hg (Go.Proofs.enters_of Try.func69 (by kernel_rfl) rfl)
    (Values_stops F (n - 1) hg hro (by omega) Bs w.heap.size b off cap zs hl w hBs (Nat.le_refl _) hb hbx hc) belowK_t (belowK_b (by simp)) hB0 (fun _ => rfl)
    (fun pre W => (∃ v, Boxed W w.heap.size 26 v ∧ W.ownsRow w.heap.size 38 1 v pre.length (pre.map nV) ∧ True) ∧ Below w.heap.size w W)
    (fun _ _ _ => False)
    (OwnFrom.and (Own.from (holdsRow_own w.heap.size w.heap.size 26 38 1 (fun pre : List Nat => pre.length) (fun pre : List Nat => pre.map nV) (fun _ _ => True)) _) (ownFrom_below (Nat.le_refl _) (by simp)))
    (fun _ _ _ _ _ hs _ _ => hs)
    ⟨⟨_, bO, World.ownsRow_nil _ _ _ _, trivial⟩, hB0⟩
    (fun x => { tmps := #[.slice none 0 0, .func (.func 69) #[] #[.pointer (some ⟨Bs, 0, none⟩)], .pointer (some ⟨w.heap.size, 0, none⟩), undef, .slice none 0 0, nV x, .func (.func 69) #[] #[.pointer (some ⟨Bs, 0, none⟩)], nV x, undef, undef, undef, undef, undef], defers := [] }) ?assign ?body ?done ?stop
  case assign =>
    intro l x W K hK
    unfold nV at hK ⊢
    gi_wp2
    exact hK
  case body =>
    rintro l pre x W ⟨⟨v, hv, hrow, -⟩, hB⟩ hlt
    have hc := hv.cell
    unfold nV
    gi_wp2_with (gi_at_builtin; refine wpListIn_append_own _ rfl _ _ 26 rfl w.heap.size 38 i0 (.int .u32 0) 1 4 und_u32s hi hz0 hz1 hz2 rfl (by decide) _ _ _ rfl (hrow.alloc _) ⟨W.heap.size, 0, none⟩ 1 1 [.int .u32 x] rfl rfl (cell_one_new _ _ _) (by simp [Value.oneCell']) (by unfold maxLen; omega) (by omega) (by have := hB.size; simp; omega) ?_; intro v' w1 hown' hgrow _; obtain ⟨g', cap', rfl⟩ := ownsRow_succ hown'; obtain ⟨hv1, hv2, hr2, hk2, hb2⟩ := hv.appended (by decide) hrow hB.size (Nat.le_refl _) hown' hgrow; have hc1 := hv1.cell; have hf1 := hv1.frozen)
    exact ⟨hk2.from _, hb2, ⟨_, hv2, by rw [List.length_append, List.map_append]; exact hr2, trivial⟩, hB.trans hb2⟩
  case done =>
    rintro D ys W hD rfl ⟨⟨v, hv, hrow, -⟩, hB⟩ hK
    have hc := hv.cell
    gi_wp2
    refine ⟨by simp, .inl ⟨_, _, rfl, run_takeDeferred hK, ?_⟩⟩
    exact ⟨_, results_tmp rfl _ _ _, v, rfl, ownsRow_putObj hrow _ hK rfl, hB.trans (belowK_b (w := w) (Nat.le_refl _) W D _ _ (by simp at hD; omega) hK rfl rfl)⟩
  case stop =>
    rintro D c pre W _ _ h _
    exact h.elim
set_option maxRecDepth 100000 in
set_option maxHeartbeats 4000000 in
theorem Collect_any (Bs b off cap : Nat) (zs : List Nat) (h1 : 1 ≤ zs.length) (hl : zs.length ≤ 80) (w : World) (hBs : Bs < w.heap.size) (hb : b < w.heap.size)
    (hbx : w.cell? ⟨Bs, 0, none⟩ = some (.slice (some ⟨b, off, none⟩) zs.length cap)) (hc : ∀ j, j < zs.length → w.cell? ⟨b, off + j, none⟩ = some (nV (gt zs j))) :
    Calls Try.prog 67 #[.func (.func 69) #[] #[.pointer (some ⟨Bs, 0, none⟩)]] w fun e W' => ∃ g c, e = .returned (.slice (some ⟨g, 0, none⟩) zs.length c) ∧ w.heap.size ≤ g ∧ Ow 38 W' g c (zs.map nV) ∧ Below w.heap.size w W' := by
  refine calls_of_every_depth (L := [67, 73, 69]) (n := 4) fun D => ?_
  refine callsIn_of_wp Try.func67 rfl (by simp) ?_ rfl
  simp only [Try.ntmps67, List.size_toArray, List.length_cons, List.length_nil, Nat.reduceAdd, Nat.reduceSub, Array.replicate_succ, Array.replicate_zero, List.push_toArray, List.append_toArray, List.nil_append, List.cons_append]
  gi_wp2_with (gi_at_call 73; refine (AppendSeq_in _ _ (by simp) (by simp) rfl (by omega) Bs b off cap zs hl _ hBs hb hbx hc).mono ?_; rintro e w' ⟨v, rfl, hrow, hbl⟩)
  go_ret
  obtain ⟨m, hm⟩ : ∃ m, zs.length = m + 1 := ⟨zs.length - 1, by omega⟩
  have hrow' := hrow
  rw [hm] at hrow'
  obtain ⟨g, c, rfl⟩ := ownsRow_succ hrow'
  rw [← hm] at hrow ⊢
  obtain ⟨ho, hg, -⟩ := ow_of hrow
  exact ⟨g, c, rfl, hg, ho, hbl⟩
end No
end Go.Proofs.Ytlcdjbleeanpbaa

namespace Go.Proofs.Ytlcdjbleeanpbaa
open Go.RowKit
namespace No
open Mem Lx Bu Lf Fa Hp Pq
theorem mayKids_any {W : World} (c : Cfg) {A : Option Addr} {cc : Nat} {K : List Nat} (h : KL W A K) (hl : K.length ≤ 80) (hkid : ∀ k, k ∈ K → k < 4294967296) :
    Calls Try.prog 25 #[.agg (cfCs c), .slice A K.length cc] W fun e w' => (∃ v : Bool, e = .returned (.bool v) ∧ (v = true ↔ KidsP c K)) ∧ Below W.heap.size W w' := by
  refine mayKidsS_any c hl hkid fun h1 W1 hb1 => ?_
  obtain ⟨b, o, rfl, hbl, hcs⟩ := h (by omega)
  have hcell : ∀ (W2 : World), Below W.heap.size W W2 → ∀ j, j < K.length → W2.cell? ⟨b, o + j, none⟩ = some (nV (gt K j)) := fun W2 hb2 j hj => by
    refine (hb2.cell (p := ⟨b, o + j, none⟩) hbl).trans ?_
    rw [gt_eq hj]
    have := hcs j K[j] (List.getElem?_eq_getElem hj) 0 (nV K[j]) (by simp [KdK, nV])
    simpa [KdK] using this
  refine (Values_any (some ⟨b, o, none⟩) K.length cc W1).mono ?_
  rintro e w1 ⟨rfl, rfl⟩
  have hB := (Below.refl W1.heap.size W1).alloc (Nat.le_refl _) (.cells #[.slice (some ⟨b, o, none⟩) K.length cc] 26)
  refine ⟨_, rfl, hB, ?_⟩
  have hx := heap_alloc_new W1 (.cells #[.slice (some ⟨b, o, none⟩) K.length cc] 26)
  have hsz : W1.heap.size < (W1.alloc (.cells #[.slice (some ⟨b, o, none⟩) K.length cc] 26)).heap.size := by simp
  have hBW := bel3 hb1 hB
  generalize W1.alloc (.cells #[.slice (some ⟨b, o, none⟩) K.length cc] 26) = w1 at *
  have hs1 := hBW.size
  have hbx : w1.cell? ⟨W1.heap.size, 0, none⟩ = some (.slice (some ⟨b, o, none⟩) K.length cc) := by simp [World.cell?, hx]
  exact Sorted_any rfl h1 hl fun W2 hb2 => Collect_any W1.heap.size b o cc K h1 hl W2 (Nat.lt_of_lt_of_le hsz hb2.size) (Nat.lt_of_lt_of_le hbl (Nat.le_trans hs1 hb2.size)) ((hb2.cell (p := ⟨W1.heap.size, 0, none⟩) hsz).trans hbx) (hcell W2 (bel3 hBW hb2))
theorem Right_any {W : World} (c : Cfg) (lo hi : ByteArray) (top : Bool) {n : Nd} {a : At} (h : NdIn W n a) (hf : Fit n) (hkid : ∀ k, k ∈ n.kids → k < 4294967296) (_ : lo.size ≤ 200) (_ : hi.size ≤ 200) : Calls Try.prog 9 #[.agg (cfCs c), spanV lo hi top, .agg (ndCs n a)] W fun e w' => (∃ v : Bool, e = .returned (.bool v) ∧ (v = true ↔ RightN c lo hi top n)) ∧ Below W.heap.size W w' :=
  RightK_any c lo hi top h hf fun _ hb => mayKids_any c (h.kept hb).kids.1 hf.kids hkid
end No
end Go.Proofs.Ytlcdjbleeanpbaa
