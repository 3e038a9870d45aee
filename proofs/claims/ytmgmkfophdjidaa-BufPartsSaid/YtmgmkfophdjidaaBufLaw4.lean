/-
  buf's law BufParts. Written by scripts/buflaw4.py.
-/
import Derived.Test.YtmgmkfophdjidaaBufLaw3
namespace Go.Proofs.Ytmgmkfophdjidaa
open Go.RowKit
namespace Bu
open Mem Lx
def EvML (L : List Mg) (n : Nat) (v : Value) (w : World) : Prop := ∃ (A : Option Addr) (c : Nat), v = .slice A n c ∧ ML w A L
set_option maxRecDepth 100000 in
set_option maxHeartbeats 4000000 in
theorem BufParts_bad (A : Option Addr) (c : Nat) (L : List Mg) (lo hi : ByteArray) (top : Bool) (most : Int) (w : World) (hA : ML w A L) (lA : L.length ≤ maxLen) (hbad : ¬ (Fit L ∧ lo.size ≤ 300 ∧ hi.size ≤ 300 ∧ Rise L)) :
    Calls Try.prog 5 #[.slice A L.length c, spanV lo hi top, .int .i64 most] w fun e w' => e = .returned (.bool true) ∧ Below w.heap.size w w' := by
  have cA := fun W => Lib.hid (awake_any W)
  have HA := Lib.hid hA
  by_cases fA : Fit L
  case neg =>
    have cG := great1 (A := A) (c := c) lA true ⟨(fun h => by cases h), fun h => absurd h fA⟩
    clear hA lA fA hbad
    generalize hn : L.length = n at *
    go_enter Try.func5, Try.ntmps5
    go_upto_region 1 with fail
    have h5 := heap_alloc_new w (.cells #[.string lo, .string hi, .bool top] 35)
    have HW : Hid (Below w.heap.size w (w.alloc (.cells #[.string lo, .string hi, .bool top] 35))) := (Below.refl _ _).alloc (Nat.le_refl _) _
    generalize w.alloc (.cells #[.string lo, .string hi, .bool top] 35) = w1 at *
    obtain ⟨g5, hg5⟩ : ∃ g5, g5 = w.heap.size := ⟨_, rfl⟩
    rw [← hg5] at h5 ⊢
    have HS := Lib.hid h5
    clear h5 hg5
    go_wp2_with (first
      | (go_at_call 7; refine (cG _ _ _ _ _ (heap_alloc_new _ _) (HA.out.kept (HW.out.alloc HW.out.size _))).out.mono ?_; rintro e w' ⟨rfl, rfl⟩; have hb : Below w1.heap.size w1 (w1.alloc (.cells #[.slice A n c] 22)) := (Below.refl _ _).alloc (Nat.le_refl _) _; replace HS := Lib.hid (kept3 HS.out hb); replace HW := Lib.hid (HW.out.trans (hb.mono HW.out.size)); clear hb; obtain ⟨s0, s1, s2⟩ := box3 HS.out; generalize w1.alloc (.cells #[.slice A n c] 22) = w2 at *)
      | (go_at_call 8; refine (cA _).out.mono ?_; rintro e w' ⟨rfl, hb⟩; replace HW := Lib.hid (HW.out.trans (hb.mono HW.out.size)); clear hb))
    go_ret
    exact ⟨rfl, HW.out⟩
  have cG := great1 (A := A) (c := c) lA false ⟨fun _ => fA, fun _ => rfl⟩
  by_cases h1 : lo.size ≤ 300
  case neg =>
    have h1 : (300 : Int) < (lo.size : Int) := by omega
    clear hA lA fA hbad
    generalize hn : L.length = n at *
    go_enter Try.func5, Try.ntmps5
    go_upto_region 1 with fail
    have h5 := heap_alloc_new w (.cells #[.string lo, .string hi, .bool top] 35)
    have HW : Hid (Below w.heap.size w (w.alloc (.cells #[.string lo, .string hi, .bool top] 35))) := (Below.refl _ _).alloc (Nat.le_refl _) _
    generalize w.alloc (.cells #[.string lo, .string hi, .bool top] 35) = w1 at *
    obtain ⟨g5, hg5⟩ : ∃ g5, g5 = w.heap.size := ⟨_, rfl⟩
    rw [← hg5] at h5 ⊢
    have HS := Lib.hid h5
    clear h5 hg5
    go_wp2_with (first
      | (go_at_call 7; refine (cG _ _ _ _ _ (heap_alloc_new _ _) (HA.out.kept (HW.out.alloc HW.out.size _))).out.mono ?_; rintro e w' ⟨rfl, rfl⟩; have hb : Below w1.heap.size w1 (w1.alloc (.cells #[.slice A n c] 22)) := (Below.refl _ _).alloc (Nat.le_refl _) _; replace HS := Lib.hid (kept3 HS.out hb); replace HW := Lib.hid (HW.out.trans (hb.mono HW.out.size)); clear hb; obtain ⟨s0, s1, s2⟩ := box3 HS.out; generalize w1.alloc (.cells #[.slice A n c] 22) = w2 at *)
      | (go_at_call 8; refine (cA _).out.mono ?_; rintro e w' ⟨rfl, hb⟩; replace HW := Lib.hid (HW.out.trans (hb.mono HW.out.size)); clear hb))
    go_ret
    exact ⟨rfl, HW.out⟩
  have lob : decide ((300 : Int) < (lo.size : Int)) = false := by simp; omega
  by_cases h2 : hi.size ≤ 300
  case neg =>
    have h2 : (300 : Int) < (hi.size : Int) := by omega
    clear hA lA fA hbad h1
    generalize hn : L.length = n at *
    go_enter Try.func5, Try.ntmps5
    go_upto_region 1 with fail
    have h5 := heap_alloc_new w (.cells #[.string lo, .string hi, .bool top] 35)
    have HW : Hid (Below w.heap.size w (w.alloc (.cells #[.string lo, .string hi, .bool top] 35))) := (Below.refl _ _).alloc (Nat.le_refl _) _
    generalize w.alloc (.cells #[.string lo, .string hi, .bool top] 35) = w1 at *
    obtain ⟨g5, hg5⟩ : ∃ g5, g5 = w.heap.size := ⟨_, rfl⟩
    rw [← hg5] at h5 ⊢
    have HS := Lib.hid h5
    clear h5 hg5
    go_wp2_with (first
      | (go_at_call 7; refine (cG _ _ _ _ _ (heap_alloc_new _ _) (HA.out.kept (HW.out.alloc HW.out.size _))).out.mono ?_; rintro e w' ⟨rfl, rfl⟩; have hb : Below w1.heap.size w1 (w1.alloc (.cells #[.slice A n c] 22)) := (Below.refl _ _).alloc (Nat.le_refl _) _; replace HS := Lib.hid (kept3 HS.out hb); replace HW := Lib.hid (HW.out.trans (hb.mono HW.out.size)); clear hb; obtain ⟨s0, s1, s2⟩ := box3 HS.out; generalize w1.alloc (.cells #[.slice A n c] 22) = w2 at *)
      | (go_at_call 8; refine (cA _).out.mono ?_; rintro e w' ⟨rfl, hb⟩; replace HW := Lib.hid (HW.out.trans (hb.mono HW.out.size)); clear hb))
    go_ret
    exact ⟨rfl, HW.out⟩
  have hib : decide ((300 : Int) < (hi.size : Int)) = false := by simp; omega
  by_cases rA : Rise L
  case neg =>
    have cRA : ∀ W, Below w.heap.size w W → Hid (Calls Try.prog 10 #[.slice A L.length c] W fun e w' => e = .returned (.bool false) ∧ Below W.heap.size W w') := fun W h => (RRight_any (c := c) (hA.kept h) (fit_key fA) (Nat.le_trans fA.1 (by decide))).mono fun e w' ⟨⟨v, he, hv⟩, hb⟩ => ⟨by rw [he, bool_one (r := false) hv ⟨(fun h => by cases h), fun h => absurd h rA⟩], hb⟩
    clear hA lA fA hbad h1 h2 rA
    generalize hn : L.length = n at *
    go_enter Try.func5, Try.ntmps5
    go_upto_region 1 with fail
    have h5 := heap_alloc_new w (.cells #[.string lo, .string hi, .bool top] 35)
    have HW : Hid (Below w.heap.size w (w.alloc (.cells #[.string lo, .string hi, .bool top] 35))) := (Below.refl _ _).alloc (Nat.le_refl _) _
    generalize w.alloc (.cells #[.string lo, .string hi, .bool top] 35) = w1 at *
    obtain ⟨g5, hg5⟩ : ∃ g5, g5 = w.heap.size := ⟨_, rfl⟩
    rw [← hg5] at h5 ⊢
    have HS := Lib.hid h5
    clear h5 hg5
    go_wp2_with (first
      | (go_at_call 7; refine (cG _ _ _ _ _ (heap_alloc_new _ _) (HA.out.kept (HW.out.alloc HW.out.size _))).out.mono ?_; rintro e w' ⟨rfl, rfl⟩; have hb : Below w1.heap.size w1 (w1.alloc (.cells #[.slice A n c] 22)) := (Below.refl _ _).alloc (Nat.le_refl _) _; replace HS := Lib.hid (kept3 HS.out hb); replace HW := Lib.hid (HW.out.trans (hb.mono HW.out.size)); clear hb; obtain ⟨s0, s1, s2⟩ := box3 HS.out; generalize w1.alloc (.cells #[.slice A n c] 22) = w2 at *)
      | (go_at_call 10; refine (cRA _ HW.out).out.mono ?_; rintro e w3 ⟨rfl, hb⟩; clear s0 s1 s2 cRA; replace HS := Lib.hid (kept3 HS.out hb); replace HW := Lib.hid (HW.out.trans (hb.mono HW.out.size)); clear hb)
      | (go_at_call 8; refine (cA _).out.mono ?_; rintro e w' ⟨rfl, hb⟩; replace HW := Lib.hid (HW.out.trans (hb.mono HW.out.size)); clear hb))
    go_ret
    exact ⟨rfl, HW.out⟩
  exact absurd ⟨fA, h1, h2, rA⟩ hbad
set_option maxRecDepth 100000 in
set_option maxHeartbeats 4000000 in
theorem BufParts_good (A : Option Addr) (c : Nat) (L : List Mg) (lo hi : ByteArray) (top : Bool) (most : Int) (w : World) (hA : ML w A L) (lA : L.length ≤ maxLen) (gA : L.length ≤ c) (fA : Fit L) (h1 : lo.size ≤ 300) (h2 : hi.size ≤ 300) (rA : Rise L) :
    Calls Try.prog 5 #[.slice A L.length c, spanV lo hi top, .int .i64 most] w fun e w' => e = .returned (.bool true) ∧ Below w.heap.size w w' := by
  have cA := fun W => Lib.hid (awake_any W)
  have cG := great1 (A := A) (c := c) lA false ⟨fun _ => fA, fun _ => rfl⟩
  have cRA : ∀ W, Below w.heap.size w W → Hid (Calls Try.prog 10 #[.slice A L.length c] W fun e w' => e = .returned (.bool true) ∧ Below W.heap.size W w') := fun W h => (RRight_any (c := c) (hA.kept h) (fit_key fA) (Nat.le_trans fA.1 (by decide))).mono fun e w' ⟨⟨v, he, hv⟩, hb⟩ => ⟨by rw [he, bool_one (r := true) hv ⟨fun _ => rA, fun _ => rfl⟩], hb⟩
  have lob : decide ((300 : Int) < (lo.size : Int)) = false := by simp; omega
  have hib : decide ((300 : Int) < (hi.size : Int)) = false := by simp; omega
  have iA := rise_iff.1 rA
  have nA : L.length ≤ 1000 := Nat.le_trans fA.1 (by decide)
  have nA4 : L.length ≤ 400000 := Nat.le_trans nA (by decide)
  have lm : lo.size ≤ maxLen := Nat.le_trans h1 (by decide)
  have em : (⟨#[]⟩ : ByteArray).size ≤ maxLen := by decide
  have cT : ∀ W, Below w.heap.size w W → Hid (Calls Try.prog 19 #[.slice A L.length c, .agg #[.string lo, .string hi, .bool top], .int .i64 most] W fun e w' => (∃ A1 c1 A2 c2, e = .returned (.tuple #[.slice A1 (takeD (fun m => inB lo hi top m.1) most L).1.length c1, .slice A2 (takeD (fun m => inB lo hi top m.1) most L).2.length c2]) ∧ ML w' A1 (takeD (fun m => inB lo hi top m.1) most L).1 ∧ ML w' A2 (takeD (fun m => inB lo hi top m.1) most L).2) ∧ Below W.heap.size W w') := fun W h => (Take_any (c := c) ⟨hA.kept h, gA⟩ lo hi top most (by omega) (by omega) (fit_key3 fA) iA nA).mono fun e w' ⟨⟨A1, c1, A2, c2, he, g1, g2, _⟩, hb⟩ => ⟨⟨A1, c1, A2, c2, he, g1.1, g2.1⟩, hb⟩
  have cRT : ∀ W, Below w.heap.size w W → Hid (Calls Try.prog 20 #[.slice A L.length c, .agg #[.string lo, .string hi, .bool top], .int .i64 most] W fun e w' => (∃ A1 c1 A2 c2, e = .returned (.tuple #[.slice A1 (takeD (fun m => inB lo hi top m.1) most L).1.length c1, .slice A2 (takeD (fun m => inB lo hi top m.1) most L).2.length c2]) ∧ ML w' A1 (takeD (fun m => inB lo hi top m.1) most L).1 ∧ ML w' A2 (takeD (fun m => inB lo hi top m.1) most L).2) ∧ Below W.heap.size W w') := fun W h => (RTake_any (c := c) (hA.kept h) lo hi top most lm (fit_key fA) nA4).mono fun e w' ⟨⟨A1, c1, A2, c2, he, g1, g2, _⟩, hb⟩ => ⟨⟨A1, c1, A2, c2, he, g1.rd, g2.rd⟩, hb⟩
  have cS : ∀ W, Below w.heap.size w W → Hid (Calls Try.prog 21 #[.slice A L.length c, .string lo] W fun e w' => (∃ A1 c1 A2 c2, e = .returned (.tuple #[.slice A1 (takeD (fun m => decide (cmpB m.1 lo < 0)) (L.length : Int) L).1.length c1, .slice A2 (takeD (fun m => decide (cmpB m.1 lo < 0)) (L.length : Int) L).2.length c2]) ∧ ML w' A1 (takeD (fun m => decide (cmpB m.1 lo < 0)) (L.length : Int) L).1 ∧ ML w' A2 (takeD (fun m => decide (cmpB m.1 lo < 0)) (L.length : Int) L).2) ∧ Below W.heap.size W w') := fun W h => (Split_any (c := c) ⟨hA.kept h, gA⟩ lo (by omega) (fit_key3 fA) iA nA).mono fun e w' ⟨⟨A1, c1, A2, c2, he, g1, g2, _⟩, hb⟩ => ⟨⟨A1, c1, A2, c2, he, g1.1, g2.1⟩, hb⟩
  have cRS : ∀ W, Below w.heap.size w W → Hid (Calls Try.prog 20 #[.slice A L.length c, .agg #[.string ⟨#[]⟩, .string lo, .bool false], .int .i64 (L.length : Int)] W fun e w' => (∃ A1 c1 A2 c2, e = .returned (.tuple #[.slice A1 (takeD (fun m => decide (cmpB m.1 lo < 0)) (L.length : Int) L).1.length c1, .slice A2 (takeD (fun m => decide (cmpB m.1 lo < 0)) (L.length : Int) L).2.length c2]) ∧ ML w' A1 (takeD (fun m => decide (cmpB m.1 lo < 0)) (L.length : Int) L).1 ∧ ML w' A2 (takeD (fun m => decide (cmpB m.1 lo < 0)) (L.length : Int) L).2) ∧ Below W.heap.size W w') := fun W h => by
    have := RTake_any (c := c) (hA.kept h) ⟨#[]⟩ lo false (L.length : Int) em (fit_key fA) nA4
    rw [in_below] at this
    exact this.mono fun e w' ⟨⟨A1, c1, A2, c2, he, g1, g2, _⟩, hb⟩ => ⟨⟨A1, c1, A2, c2, he, g1.rd, g2.rd⟩, hb⟩
  have cP : ∀ W, Below w.heap.size w W → Hid (Calls Try.prog 22 #[.slice A L.length c, .agg #[.string lo, .string hi, .bool top]] W fun e w' => (∃ A1 c1, e = .returned (.slice A1 (takeD (fun m => inB lo hi top m.1) (L.length : Int) L).1.length c1) ∧ ML w' A1 (takeD (fun m => inB lo hi top m.1) (L.length : Int) L).1) ∧ Below W.heap.size W w') := fun W h => Part_any (c := c) ⟨hA.kept h, gA⟩ lo hi top (by omega) (by omega) (fit_key3 fA) iA nA
  have cRP : ∀ W, Below w.heap.size w W → Hid (Calls Try.prog 23 #[.slice A L.length c, .agg #[.string lo, .string hi, .bool top]] W fun e w' => (∃ A1 c1, e = .returned (.slice A1 (takeD (fun m => inB lo hi top m.1) (L.length : Int) L).1.length c1) ∧ ML w' A1 (takeD (fun m => inB lo hi top m.1) (L.length : Int) L).1) ∧ Below W.heap.size W w') := fun W h => (RPart_any (c := c) (hA.kept h) lo hi top lm (fit_key fA) nA4).mono fun e w' ⟨⟨A1, c1, he, g1⟩, hb⟩ => ⟨⟨A1, c1, he, g1.rd⟩, hb⟩
  have tl := taken_len (fun m => inB lo hi top m.1) most L
  have ul := taken_len (fun m => decide (cmpB m.1 lo < 0)) (L.length : Int) L
  have pl := taken_len (fun m => inB lo hi top m.1) (L.length : Int) L
  generalize (takeD (fun m => inB lo hi top m.1) (L.length : Int) L) = P at *
  generalize (takeD (fun m => inB lo hi top m.1) most L) = T at *
  generalize (takeD (fun m => decide (cmpB m.1 lo < 0)) (L.length : Int) L) = U at *
  obtain ⟨T1, T2⟩ := T
  obtain ⟨U1, U2⟩ := U
  obtain ⟨P1, P2⟩ := P
  simp only at cT cRT cS cRS cP cRP tl ul pl
  have cE : ∀ (M : List Mg) (W : World) (A1 A2 : Option Addr) (c1 c2 : Nat), M.length ≤ 1048576 → ML W A1 M → ML W A2 M → Hid (Calls Try.prog 12 #[.slice A1 M.length c1, .slice A2 M.length c2] W fun e w' => e = .returned (.bool true) ∧ Below W.heap.size W w') := fun M W A1 A2 c1 c2 hl g1 g2 => (RSame_any (c := c1) (c' := c2) g1 g2 hl hl).mono fun e w' ⟨⟨v, he, hv⟩, hb⟩ => ⟨by rw [he, hv.2 rfl], hb⟩
  have cE1 := fun W A1 A2 c1 c2 => cE P1 W A1 A2 c1 c2 (by omega)
  have cE2 := fun W A1 A2 c1 c2 => cE T1 W A1 A2 c1 c2 (by omega)
  have cE3 := fun W A1 A2 c1 c2 => cE T2 W A1 A2 c1 c2 (by omega)
  have cE4 := fun W A1 A2 c1 c2 => cE U1 W A1 A2 c1 c2 (by omega)
  have cE5 := fun W A1 A2 c1 c2 => cE U2 W A1 A2 c1 c2 (by omega)
  have HA := Lib.hid hA
  clear hA gA lA fA rA iA h1 h2 cE tl ul pl nA nA4 lm em
  generalize L.length = n at *
  generalize T1.length = t1 at *
  generalize T2.length = t2 at *
  generalize U1.length = u1 at *
  generalize U2.length = u2 at *
  generalize P1.length = p1 at *
  go_enter Try.func5, Try.ntmps5
  go_upto_region 1 with fail
  have h5 := heap_alloc_new w (.cells #[.string lo, .string hi, .bool top] 35)
  have HW : Hid (Below w.heap.size w (w.alloc (.cells #[.string lo, .string hi, .bool top] 35))) := (Below.refl _ _).alloc (Nat.le_refl _) _
  generalize w.alloc (.cells #[.string lo, .string hi, .bool top] 35) = w1 at *
  obtain ⟨g5, hg5⟩ : ∃ g5, g5 = w.heap.size := ⟨_, rfl⟩
  rw [← hg5] at h5 ⊢
  have HS := Lib.hid h5
  clear h5 hg5
  go_upto_region 3 with (first
    | (go_at_call 7; refine (cG _ _ _ _ _ (heap_alloc_new _ _) (HA.out.kept (HW.out.alloc HW.out.size _))).out.mono ?_; rintro e w' ⟨rfl, rfl⟩; have hb : Below w1.heap.size w1 (w1.alloc (.cells #[.slice A n c] 22)) := (Below.refl _ _).alloc (Nat.le_refl _) _; replace HS := Lib.hid (kept3 HS.out hb); replace HW := Lib.hid (HW.out.trans (hb.mono HW.out.size)); clear hb; obtain ⟨s0, s1, s2⟩ := box3 HS.out; generalize w1.alloc (.cells #[.slice A n c] 22) = w2 at *)
    | (go_at_call 10; refine (cRA _ HW.out).out.mono ?_; rintro e w3 ⟨rfl, hb⟩; clear s0 s1 s2 cRA; replace HS := Lib.hid (kept3 HS.out hb); replace HW := Lib.hid (HW.out.trans (hb.mono HW.out.size)); clear hb))
  clear cG HA
  obtain ⟨s0, s1, s2⟩ := box3 HS.out
  go_upto_region 4 with (go_at_call 19; refine (cT _ HW.out).out.mono ?_; rintro e w4 ⟨⟨A1, c1, A2, c2, rfl, h1, h2⟩, hb⟩)
  clear s0 s1 s2 cT
  have H1 := Lib.hid h1
  have H2 := Lib.hid h2
  replace HS := Lib.hid (kept3 HS.out hb)
  replace HW := Lib.hid (HW.out.trans (hb.mono HW.out.size))
  skip
  clear h1 h2 hb
  obtain ⟨s0, s1, s2⟩ := box3 HS.out
  go_upto_region 5 with (go_at_call 20; refine (cRT _ HW.out).out.mono ?_; rintro e w5 ⟨⟨A3, c3, A4, c4, rfl, h1, h2⟩, hb⟩)
  clear s0 s1 s2 cRT
  have H3 := Lib.hid h1
  have H4 := Lib.hid h2
  replace HS := Lib.hid (kept3 HS.out hb)
  replace HW := Lib.hid (HW.out.trans (hb.mono HW.out.size))
  replace H1 := Lib.hid (H1.out.kept hb); replace H2 := Lib.hid (H2.out.kept hb)
  clear h1 h2 hb
  obtain ⟨s0, s1, s2⟩ := box3 HS.out
  go_upto_region 6 with (go_at_call 21; refine (cS _ HW.out).out.mono ?_; rintro e w6 ⟨⟨A5, c5, A6, c6, rfl, h1, h2⟩, hb⟩)
  clear s0 s1 s2 cS
  have H5 := Lib.hid h1
  have H6 := Lib.hid h2
  replace HS := Lib.hid (kept3 HS.out hb)
  replace HW := Lib.hid (HW.out.trans (hb.mono HW.out.size))
  replace H1 := Lib.hid (H1.out.kept hb); replace H2 := Lib.hid (H2.out.kept hb); replace H3 := Lib.hid (H3.out.kept hb); replace H4 := Lib.hid (H4.out.kept hb)
  clear h1 h2 hb
  obtain ⟨s0, s1, s2⟩ := box3 HS.out
  go_upto_region 7 with (go_at_call 20; refine (cRS _ HW.out).out.mono ?_; rintro e w7 ⟨⟨A7, c7, A8, c8, rfl, h1, h2⟩, hb⟩)
  clear s0 s1 s2 cRS
  have H7 := Lib.hid h1
  have H8 := Lib.hid h2
  replace HS := Lib.hid (kept3 HS.out hb)
  replace HW := Lib.hid (HW.out.trans (hb.mono HW.out.size))
  replace H1 := Lib.hid (H1.out.kept hb); replace H2 := Lib.hid (H2.out.kept hb); replace H3 := Lib.hid (H3.out.kept hb); replace H4 := Lib.hid (H4.out.kept hb); replace H5 := Lib.hid (H5.out.kept hb); replace H6 := Lib.hid (H6.out.kept hb)
  clear h1 h2 hb
  obtain ⟨s0, s1, s2⟩ := box3 HS.out
  have z0 := fun q : Drift.Tide [] w7 [] => Drift.Tide.cell s0 (by simp) q
  have z1 := fun q : Drift.Tide [] w7 [] => Drift.Tide.cell s1 (by simp) q
  have z2 := fun q : Drift.Tide [] w7 [] => Drift.Tide.cell s2 (by simp) q
  refine Drift.wp_region_drift [] [(0,[]),(1,[]),(3,[]),(4,[]),(2,[]),(5,[]),(6,[]),(7,[]),(8,[]),(9,[]),(10,[]),(11,[]),(12,[]),(13,[]),(14,[]),(15,[]),(16,[]),(17,[]),(18,[]),(19,[]),(20,[]),(21,[]),(22,[]),(23,[]),(24,[]),(25,[]),(26,[]),(27,[]),(28,[]),(29,[]),(30,[])] [2, 5] [] (by kernel_rfl) (by kernel_rfl) (by simp) ?_
  simp only [Drift.pick, Drift.opsAt, List.getElem?_toArray, List.getElem?_cons_zero, List.getElem?_cons_succ, List.cons_append, List.nil_append, List.filterMap_nil]
  repeat (refine Drift.walk_step (fun K hK => ?_); go_simp; refine hK _ ?_; clear hK K)
  refine Drift.walk_event rfl Drift.mkwalk_nil (EvML P1 p1) (fun W hk _ => ?_) (fun v w8 hv hI _ hTd => ?_)
  · go_simp
    go_at_call 22
    exact (cP W (HW.out.trans (hk.mono HW.out.size))).out.mono fun e w' ⟨⟨A, c, he, hu⟩, hb⟩ => ⟨_, he, ⟨A, c, rfl, hu⟩, Flow.Into.of_below hb⟩
  obtain ⟨A9, c9, rfl, h9⟩ := hv
  have H9 := Lib.hid h9
  have hb := hI.below
  replace H1 := Lib.hid (H1.out.kept hb); replace H2 := Lib.hid (H2.out.kept hb); replace H3 := Lib.hid (H3.out.kept hb); replace H4 := Lib.hid (H4.out.kept hb); replace H5 := Lib.hid (H5.out.kept hb); replace H6 := Lib.hid (H6.out.kept hb); replace H7 := Lib.hid (H7.out.kept hb); replace H8 := Lib.hid (H8.out.kept hb)
  replace HW := Lib.hid (HW.out.trans (hb.mono HW.out.size))
  clear z0 z1 z2 hI hb h9 cP s0 s1 s2 HS
  repeat (refine Drift.walk_step (fun K hK => ?_); go_simp; refine hK _ ?_; clear hK K)
  refine Drift.walk_event rfl Drift.mkwalk_nil (EvML P1 p1) (fun W hk _ => ?_) (fun v w9 hv hI _ hTd2 => ?_)
  · go_simp
    go_at_call 23
    exact (cRP W (HW.out.trans (hk.mono HW.out.size))).out.mono fun e w' ⟨⟨A, c, he, hu⟩, hb⟩ => ⟨_, he, ⟨A, c, rfl, hu⟩, Flow.Into.of_below hb⟩
  obtain ⟨A10, c10, rfl, h10⟩ := hv
  have H10 := Lib.hid h10
  have hb := hI.below
  replace H1 := Lib.hid (H1.out.kept hb); replace H2 := Lib.hid (H2.out.kept hb); replace H3 := Lib.hid (H3.out.kept hb); replace H4 := Lib.hid (H4.out.kept hb); replace H5 := Lib.hid (H5.out.kept hb); replace H6 := Lib.hid (H6.out.kept hb); replace H7 := Lib.hid (H7.out.kept hb); replace H8 := Lib.hid (H8.out.kept hb); replace H9 := Lib.hid (H9.out.kept hb)
  replace HW := Lib.hid (HW.out.trans (hb.mono HW.out.size))
  clear hI hb h10 cRP hTd
  repeat (refine Drift.walk_step (fun K hK => ?_); go_simp; refine hK _ ?_; clear hK K)
  refine Drift.walk_step (fun K hK => ?_)
  go_simp
  apply Exists.intro
  refine ⟨fun q => ?_, hK _ ?_⟩
  · go_at_call 12
    exact (cE1 _ _ _ _ _ (H9.out.kept q.into.below) (H10.out.kept q.into.below)).out
  clear hK K
  repeat (refine Drift.walk_step (fun K hK => ?_); go_simp; refine hK _ ?_; clear hK K)
  refine Drift.walk_step (fun K hK => ?_)
  go_simp
  apply Exists.intro
  refine ⟨fun q => ?_, hK _ ?_⟩
  · go_at_call 12
    exact (cE2 _ _ _ _ _ (H1.out.kept q.into.below) (H3.out.kept q.into.below)).out
  clear hK K
  repeat (refine Drift.walk_step (fun K hK => ?_); go_simp; refine hK _ ?_; clear hK K)
  refine Drift.walk_step (fun K hK => ?_)
  go_simp
  apply Exists.intro
  refine ⟨fun q => ?_, hK _ ?_⟩
  · go_at_call 12
    exact (cE3 _ _ _ _ _ (H2.out.kept q.into.below) (H4.out.kept q.into.below)).out
  clear hK K
  repeat (refine Drift.walk_step (fun K hK => ?_); go_simp; refine hK _ ?_; clear hK K)
  refine Drift.walk_step (fun K hK => ?_)
  go_simp
  apply Exists.intro
  refine ⟨fun q => ?_, hK _ ?_⟩
  · go_at_call 12
    exact (cE4 _ _ _ _ _ (H5.out.kept q.into.below) (H7.out.kept q.into.below)).out
  clear hK K
  repeat (refine Drift.walk_step (fun K hK => ?_); go_simp; refine hK _ ?_; clear hK K)
  refine Drift.walk_step (fun K hK => ?_)
  go_simp
  apply Exists.intro
  refine ⟨fun q => ?_, hK _ ?_⟩
  · go_at_call 12
    exact (cE5 _ _ _ _ _ (H6.out.kept q.into.below) (H8.out.kept q.into.below)).out
  clear hK K
  repeat (refine Drift.walk_step (fun K hK => ?_); go_simp; refine hK _ ?_; clear hK K)
  refine Drift.walk_step (fun K hK => ?_)
  go_simp
  apply Exists.intro
  refine ⟨fun q => ?_, hK _ ?_⟩
  · go_at_call 8
    exact (cA _).out
  clear hK K
  repeat (refine Drift.walk_step (fun K hK => ?_); go_simp; refine hK _ ?_; clear hK K)
  refine Drift.walk_nil ?_
  intro w10 hb _
  replace HW := Lib.hid (HW.out.trans (hb.mono HW.out.size))
  clear hb H1 H2 H3 H4 H5 H6 H7 H8 H9 H10 hTd2
  simp only [List.length_cons, List.length_nil, List.drop_succ_cons, List.drop_nil, Nat.zero_add, Nat.reduceAdd]
  go_wp2_with fail
  go_ret
  exact ⟨rfl, HW.out⟩
theorem BufParts_walk (A : Option Addr) (c : Nat) (L : List Mg) (lo hi : ByteArray) (top : Bool) (most : Int) (w : World) (hA : MC w A c L) (lA : L.length ≤ maxLen) : Calls Try.prog 5 #[.slice A L.length c, spanV lo hi top, .int .i64 most] w fun e w' => e = .returned (.bool true) ∧ Below w.heap.size w w' := by
  by_cases h : Fit L ∧ lo.size ≤ 300 ∧ hi.size ≤ 300 ∧ Rise L
  · exact BufParts_good A c L lo hi top most w hA.1 lA hA.2 h.1 h.2.1 h.2.2.1 h.2.2.2
  · exact BufParts_bad A c L lo hi top most w hA.1 lA h
end Bu
end Go.Proofs.Ytmgmkfophdjidaa
