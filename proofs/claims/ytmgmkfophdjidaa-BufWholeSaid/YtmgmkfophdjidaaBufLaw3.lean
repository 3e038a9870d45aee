/-
  buf's law BufWhole. Written by scripts/buflaw3.py.
-/
import Derived.Test.YtmgmkfophdjidaaBufLaw
namespace Go.Proofs.Ytmgmkfophdjidaa
open Go.RowKit
namespace Bu
open Mem Lx
theorem great1 {A : Option Addr} {c : Nat} {L : List Mg} (lA : L.length ≤ maxLen) (r : Bool) (hr : r = false ↔ Fit L) (g cx : Nat) (W : World) (U : TypeId) (fl : Nat × Nat) (h : W.heap[g]? = some (.cells #[.slice A L.length c] U fl)) (h1 : ML W A L) : Hid (Calls Try.prog 7 #[.slice (some ⟨g, 0, none⟩) 1 cx] W fun e w' => e = .returned (.bool r) ∧ w' = W) :=
  (great_any (cx := cx) (MM.one h h1) (show 1 ≤ 1000 by decide) (fun K hK => by
    obtain rfl : K = L := by simpa using hK
    exact lA)).mono fun e w' ⟨⟨v, he, hv⟩, hw⟩ => ⟨by
    have hv2 : v = false ↔ Fit L := by
      rw [hv]
      simp
    have : v = r := by
      cases v <;> cases r <;> simp_all
    rw [he, this], hw⟩
set_option maxRecDepth 100000 in
set_option maxHeartbeats 4000000 in
theorem BufWhole_bad (A : Option Addr) (c : Nat) (L : List Mg) (lo hi : ByteArray) (top : Bool) (most : Int) (k : ByteArray) (dl : Bool) (v : ByteArray) (w : World) (hA : ML w A L) (lA : L.length ≤ maxLen) (hbad : ¬ (Fit L ∧ lo.size ≤ 300 ∧ hi.size ≤ 300 ∧ k.size ≤ 300 ∧ Rise L)) :
    Calls Try.prog 6 #[.slice A L.length c, spanV lo hi top, .int .i64 most, .agg #[.string k, .bool dl, .string v]] w fun e w' => e = .returned (.bool true) ∧ Below w.heap.size w w' := by
  have cA := fun W => Lib.hid (awake_any W)
  have HA := Lib.hid hA
  by_cases fA : Fit L
  case neg =>
    have cG := great1 (A := A) (c := c) lA true ⟨(fun h => by cases h), fun h => absurd h fA⟩
    clear hA lA fA hbad
    generalize hn : L.length = n at *
    go_enter Try.func6, Try.ntmps6
    go_upto_region 1 with fail
    have h5 := heap_alloc_new w (.cells #[.string lo, .string hi, .bool top] 35)
    have hb5 : Below w.heap.size w (w.alloc (.cells #[.string lo, .string hi, .bool top] 35)) := (Below.refl _ _).alloc (Nat.le_refl _) _
    have hs0 : (w.alloc (.cells #[.string lo, .string hi, .bool top] 35)).heap.size = w.heap.size + 1 := by simp
    generalize w.alloc (.cells #[.string lo, .string hi, .bool top] 35) = w0 at *
    have h7 := heap_alloc_new w0 (.cells #[.string k, .bool dl, .string v] 28)
    have hb : Below w0.heap.size w0 (w0.alloc (.cells #[.string k, .bool dl, .string v] 28)) := (Below.refl _ _).alloc (Nat.le_refl _) _
    rw [hs0] at h7
    have HS := Lib.hid (kept3 h5 hb)
    have HW : Hid (Below w.heap.size w (w0.alloc (.cells #[.string k, .bool dl, .string v] 28))) := hb5.trans (hb.mono hb5.size)
    generalize w0.alloc (.cells #[.string k, .bool dl, .string v] 28) = w1 at *
    obtain ⟨g7, hg7⟩ : ∃ g7, g7 = w.heap.size + 1 := ⟨_, rfl⟩
    rw [← hg7] at h7 ⊢
    have HX := Lib.hid h7
    obtain ⟨g5, hg5⟩ : ∃ g5, g5 = w.heap.size := ⟨_, rfl⟩
    rw [← hg5] at HS ⊢
    clear h5 hb5 hs0 h7 hb hg7 hg5
    go_wp2_with (first
      | (go_at_call 7; refine (cG _ _ _ _ _ (heap_alloc_new _ _) (HA.out.kept (HW.out.alloc HW.out.size _))).out.mono ?_; rintro e w' ⟨rfl, rfl⟩; have hb : Below w1.heap.size w1 (w1.alloc (.cells #[.slice A n c] 22)) := (Below.refl _ _).alloc (Nat.le_refl _) _; replace HS := Lib.hid (kept3 HS.out hb); replace HX := Lib.hid (kept3 HX.out hb); replace HW := Lib.hid (HW.out.trans (hb.mono HW.out.size)); clear hb; obtain ⟨s0, s1, s2⟩ := box3 HS.out; obtain ⟨d0, d1, d2⟩ := box3 HX.out; generalize w1.alloc (.cells #[.slice A n c] 22) = w2 at *)
      | (go_at_call 8; refine (cA _).out.mono ?_; rintro e w' ⟨rfl, hb⟩; replace HW := Lib.hid (HW.out.trans (hb.mono HW.out.size)); clear hb))
    go_ret
    exact ⟨rfl, HW.out⟩
  have cG := great1 (A := A) (c := c) lA false ⟨fun _ => fA, fun _ => rfl⟩
  by_cases h1 : lo.size ≤ 300
  case neg =>
    have h1 : (300 : Int) < (lo.size : Int) := by omega
    clear hA lA fA hbad
    generalize hn : L.length = n at *
    go_enter Try.func6, Try.ntmps6
    go_upto_region 1 with fail
    have h5 := heap_alloc_new w (.cells #[.string lo, .string hi, .bool top] 35)
    have hb5 : Below w.heap.size w (w.alloc (.cells #[.string lo, .string hi, .bool top] 35)) := (Below.refl _ _).alloc (Nat.le_refl _) _
    have hs0 : (w.alloc (.cells #[.string lo, .string hi, .bool top] 35)).heap.size = w.heap.size + 1 := by simp
    generalize w.alloc (.cells #[.string lo, .string hi, .bool top] 35) = w0 at *
    have h7 := heap_alloc_new w0 (.cells #[.string k, .bool dl, .string v] 28)
    have hb : Below w0.heap.size w0 (w0.alloc (.cells #[.string k, .bool dl, .string v] 28)) := (Below.refl _ _).alloc (Nat.le_refl _) _
    rw [hs0] at h7
    have HS := Lib.hid (kept3 h5 hb)
    have HW : Hid (Below w.heap.size w (w0.alloc (.cells #[.string k, .bool dl, .string v] 28))) := hb5.trans (hb.mono hb5.size)
    generalize w0.alloc (.cells #[.string k, .bool dl, .string v] 28) = w1 at *
    obtain ⟨g7, hg7⟩ : ∃ g7, g7 = w.heap.size + 1 := ⟨_, rfl⟩
    rw [← hg7] at h7 ⊢
    have HX := Lib.hid h7
    obtain ⟨g5, hg5⟩ : ∃ g5, g5 = w.heap.size := ⟨_, rfl⟩
    rw [← hg5] at HS ⊢
    clear h5 hb5 hs0 h7 hb hg7 hg5
    go_wp2_with (first
      | (go_at_call 7; refine (cG _ _ _ _ _ (heap_alloc_new _ _) (HA.out.kept (HW.out.alloc HW.out.size _))).out.mono ?_; rintro e w' ⟨rfl, rfl⟩; have hb : Below w1.heap.size w1 (w1.alloc (.cells #[.slice A n c] 22)) := (Below.refl _ _).alloc (Nat.le_refl _) _; replace HS := Lib.hid (kept3 HS.out hb); replace HX := Lib.hid (kept3 HX.out hb); replace HW := Lib.hid (HW.out.trans (hb.mono HW.out.size)); clear hb; obtain ⟨s0, s1, s2⟩ := box3 HS.out; obtain ⟨d0, d1, d2⟩ := box3 HX.out; generalize w1.alloc (.cells #[.slice A n c] 22) = w2 at *)
      | (go_at_call 8; refine (cA _).out.mono ?_; rintro e w' ⟨rfl, hb⟩; replace HW := Lib.hid (HW.out.trans (hb.mono HW.out.size)); clear hb))
    go_ret
    exact ⟨rfl, HW.out⟩
  have lob : decide ((300 : Int) < (lo.size : Int)) = false := by simp; omega
  by_cases h2 : hi.size ≤ 300
  case neg =>
    have h2 : (300 : Int) < (hi.size : Int) := by omega
    clear hA lA fA hbad h1
    generalize hn : L.length = n at *
    go_enter Try.func6, Try.ntmps6
    go_upto_region 1 with fail
    have h5 := heap_alloc_new w (.cells #[.string lo, .string hi, .bool top] 35)
    have hb5 : Below w.heap.size w (w.alloc (.cells #[.string lo, .string hi, .bool top] 35)) := (Below.refl _ _).alloc (Nat.le_refl _) _
    have hs0 : (w.alloc (.cells #[.string lo, .string hi, .bool top] 35)).heap.size = w.heap.size + 1 := by simp
    generalize w.alloc (.cells #[.string lo, .string hi, .bool top] 35) = w0 at *
    have h7 := heap_alloc_new w0 (.cells #[.string k, .bool dl, .string v] 28)
    have hb : Below w0.heap.size w0 (w0.alloc (.cells #[.string k, .bool dl, .string v] 28)) := (Below.refl _ _).alloc (Nat.le_refl _) _
    rw [hs0] at h7
    have HS := Lib.hid (kept3 h5 hb)
    have HW : Hid (Below w.heap.size w (w0.alloc (.cells #[.string k, .bool dl, .string v] 28))) := hb5.trans (hb.mono hb5.size)
    generalize w0.alloc (.cells #[.string k, .bool dl, .string v] 28) = w1 at *
    obtain ⟨g7, hg7⟩ : ∃ g7, g7 = w.heap.size + 1 := ⟨_, rfl⟩
    rw [← hg7] at h7 ⊢
    have HX := Lib.hid h7
    obtain ⟨g5, hg5⟩ : ∃ g5, g5 = w.heap.size := ⟨_, rfl⟩
    rw [← hg5] at HS ⊢
    clear h5 hb5 hs0 h7 hb hg7 hg5
    go_wp2_with (first
      | (go_at_call 7; refine (cG _ _ _ _ _ (heap_alloc_new _ _) (HA.out.kept (HW.out.alloc HW.out.size _))).out.mono ?_; rintro e w' ⟨rfl, rfl⟩; have hb : Below w1.heap.size w1 (w1.alloc (.cells #[.slice A n c] 22)) := (Below.refl _ _).alloc (Nat.le_refl _) _; replace HS := Lib.hid (kept3 HS.out hb); replace HX := Lib.hid (kept3 HX.out hb); replace HW := Lib.hid (HW.out.trans (hb.mono HW.out.size)); clear hb; obtain ⟨s0, s1, s2⟩ := box3 HS.out; obtain ⟨d0, d1, d2⟩ := box3 HX.out; generalize w1.alloc (.cells #[.slice A n c] 22) = w2 at *)
      | (go_at_call 8; refine (cA _).out.mono ?_; rintro e w' ⟨rfl, hb⟩; replace HW := Lib.hid (HW.out.trans (hb.mono HW.out.size)); clear hb))
    go_ret
    exact ⟨rfl, HW.out⟩
  have hib : decide ((300 : Int) < (hi.size : Int)) = false := by simp; omega
  by_cases h3 : k.size ≤ 300
  case neg =>
    have h3 : (300 : Int) < (k.size : Int) := by omega
    clear hA lA fA hbad h1 h2
    generalize hn : L.length = n at *
    go_enter Try.func6, Try.ntmps6
    go_upto_region 1 with fail
    have h5 := heap_alloc_new w (.cells #[.string lo, .string hi, .bool top] 35)
    have hb5 : Below w.heap.size w (w.alloc (.cells #[.string lo, .string hi, .bool top] 35)) := (Below.refl _ _).alloc (Nat.le_refl _) _
    have hs0 : (w.alloc (.cells #[.string lo, .string hi, .bool top] 35)).heap.size = w.heap.size + 1 := by simp
    generalize w.alloc (.cells #[.string lo, .string hi, .bool top] 35) = w0 at *
    have h7 := heap_alloc_new w0 (.cells #[.string k, .bool dl, .string v] 28)
    have hb : Below w0.heap.size w0 (w0.alloc (.cells #[.string k, .bool dl, .string v] 28)) := (Below.refl _ _).alloc (Nat.le_refl _) _
    rw [hs0] at h7
    have HS := Lib.hid (kept3 h5 hb)
    have HW : Hid (Below w.heap.size w (w0.alloc (.cells #[.string k, .bool dl, .string v] 28))) := hb5.trans (hb.mono hb5.size)
    generalize w0.alloc (.cells #[.string k, .bool dl, .string v] 28) = w1 at *
    obtain ⟨g7, hg7⟩ : ∃ g7, g7 = w.heap.size + 1 := ⟨_, rfl⟩
    rw [← hg7] at h7 ⊢
    have HX := Lib.hid h7
    obtain ⟨g5, hg5⟩ : ∃ g5, g5 = w.heap.size := ⟨_, rfl⟩
    rw [← hg5] at HS ⊢
    clear h5 hb5 hs0 h7 hb hg7 hg5
    go_wp2_with (first
      | (go_at_call 7; refine (cG _ _ _ _ _ (heap_alloc_new _ _) (HA.out.kept (HW.out.alloc HW.out.size _))).out.mono ?_; rintro e w' ⟨rfl, rfl⟩; have hb : Below w1.heap.size w1 (w1.alloc (.cells #[.slice A n c] 22)) := (Below.refl _ _).alloc (Nat.le_refl _) _; replace HS := Lib.hid (kept3 HS.out hb); replace HX := Lib.hid (kept3 HX.out hb); replace HW := Lib.hid (HW.out.trans (hb.mono HW.out.size)); clear hb; obtain ⟨s0, s1, s2⟩ := box3 HS.out; obtain ⟨d0, d1, d2⟩ := box3 HX.out; generalize w1.alloc (.cells #[.slice A n c] 22) = w2 at *)
      | (go_at_call 8; refine (cA _).out.mono ?_; rintro e w' ⟨rfl, hb⟩; replace HW := Lib.hid (HW.out.trans (hb.mono HW.out.size)); clear hb))
    go_ret
    exact ⟨rfl, HW.out⟩
  have kb : decide ((300 : Int) < (k.size : Int)) = false := by simp; omega
  by_cases rA : Rise L
  case neg =>
    have cRA : ∀ W, Below w.heap.size w W → Hid (Calls Try.prog 10 #[.slice A L.length c] W fun e w' => e = .returned (.bool false) ∧ Below W.heap.size W w') := fun W h => (RRight_any (c := c) (hA.kept h) (fit_key fA) (Nat.le_trans fA.1 (by decide))).mono fun e w' ⟨⟨v, he, hv⟩, hb⟩ => ⟨by rw [he, bool_one (r := false) hv ⟨(fun h => by cases h), fun h => absurd h rA⟩], hb⟩
    clear hA lA fA hbad h1 h2 h3 rA
    generalize hn : L.length = n at *
    go_enter Try.func6, Try.ntmps6
    go_upto_region 1 with fail
    have h5 := heap_alloc_new w (.cells #[.string lo, .string hi, .bool top] 35)
    have hb5 : Below w.heap.size w (w.alloc (.cells #[.string lo, .string hi, .bool top] 35)) := (Below.refl _ _).alloc (Nat.le_refl _) _
    have hs0 : (w.alloc (.cells #[.string lo, .string hi, .bool top] 35)).heap.size = w.heap.size + 1 := by simp
    generalize w.alloc (.cells #[.string lo, .string hi, .bool top] 35) = w0 at *
    have h7 := heap_alloc_new w0 (.cells #[.string k, .bool dl, .string v] 28)
    have hb : Below w0.heap.size w0 (w0.alloc (.cells #[.string k, .bool dl, .string v] 28)) := (Below.refl _ _).alloc (Nat.le_refl _) _
    rw [hs0] at h7
    have HS := Lib.hid (kept3 h5 hb)
    have HW : Hid (Below w.heap.size w (w0.alloc (.cells #[.string k, .bool dl, .string v] 28))) := hb5.trans (hb.mono hb5.size)
    generalize w0.alloc (.cells #[.string k, .bool dl, .string v] 28) = w1 at *
    obtain ⟨g7, hg7⟩ : ∃ g7, g7 = w.heap.size + 1 := ⟨_, rfl⟩
    rw [← hg7] at h7 ⊢
    have HX := Lib.hid h7
    obtain ⟨g5, hg5⟩ : ∃ g5, g5 = w.heap.size := ⟨_, rfl⟩
    rw [← hg5] at HS ⊢
    clear h5 hb5 hs0 h7 hb hg7 hg5
    go_wp2_with (first
      | (go_at_call 7; refine (cG _ _ _ _ _ (heap_alloc_new _ _) (HA.out.kept (HW.out.alloc HW.out.size _))).out.mono ?_; rintro e w' ⟨rfl, rfl⟩; have hb : Below w1.heap.size w1 (w1.alloc (.cells #[.slice A n c] 22)) := (Below.refl _ _).alloc (Nat.le_refl _) _; replace HS := Lib.hid (kept3 HS.out hb); replace HX := Lib.hid (kept3 HX.out hb); replace HW := Lib.hid (HW.out.trans (hb.mono HW.out.size)); clear hb; obtain ⟨s0, s1, s2⟩ := box3 HS.out; obtain ⟨d0, d1, d2⟩ := box3 HX.out; generalize w1.alloc (.cells #[.slice A n c] 22) = w2 at *)
      | (go_at_call 10; refine (cRA _ HW.out).out.mono ?_; rintro e w3 ⟨rfl, hb⟩; clear s0 s1 s2 d0 d1 d2 cRA; replace HS := Lib.hid (kept3 HS.out hb); replace HX := Lib.hid (kept3 HX.out hb); replace HW := Lib.hid (HW.out.trans (hb.mono HW.out.size)); clear hb)
      | (go_at_call 8; refine (cA _).out.mono ?_; rintro e w' ⟨rfl, hb⟩; replace HW := Lib.hid (HW.out.trans (hb.mono HW.out.size)); clear hb))
    go_ret
    exact ⟨rfl, HW.out⟩
  exact absurd ⟨fA, h1, h2, h3, rA⟩ hbad
theorem taken_key {p : Mg → Bool} {most : Int} {L : List Mg} {n : Nat} (h : ∀ x, x ∈ L → x.1.size ≤ n) : (∀ x, x ∈ (takeD p most L).1 → x.1.size ≤ n) ∧ (∀ x, x ∈ (takeD p most L).2 → x.1.size ≤ n) := by
  have hp : ((takeD p most L).1 ++ (takeD p most L).2).Perm L := foldT_perm p most L ([], [])
  exact ⟨fun x hx => h x (hp.mem_iff.1 (List.mem_append_left _ hx)), fun x hx => h x (hp.mem_iff.1 (List.mem_append_right _ hx))⟩
theorem taken_len (p : Mg → Bool) (most : Int) (L : List Mg) : (takeD p most L).1.length + (takeD p most L).2.length = L.length := by
  have := foldT_len p most L ([], [])
  rw [List.length_nil, Nat.zero_add] at this
  exact this
set_option maxRecDepth 100000 in
set_option maxHeartbeats 4000000 in
theorem BufWhole_good (A : Option Addr) (c : Nat) (L : List Mg) (lo hi : ByteArray) (top : Bool) (most : Int) (k : ByteArray) (dl : Bool) (v : ByteArray) (w : World) (hA : ML w A L) (lA : L.length ≤ maxLen) (gA : L.length ≤ c) (fA : Fit L) (h1 : lo.size ≤ 300) (h2 : hi.size ≤ 300) (h3 : k.size ≤ 300) (rA : Rise L) :
    Calls Try.prog 6 #[.slice A L.length c, spanV lo hi top, .int .i64 most, .agg #[.string k, .bool dl, .string v]] w fun e w' => e = .returned (.bool true) ∧ Below w.heap.size w w' := by
  have cA := fun W => Lib.hid (awake_any W)
  have cG := great1 (A := A) (c := c) lA false ⟨fun _ => fA, fun _ => rfl⟩
  have cRA : ∀ W, Below w.heap.size w W → Hid (Calls Try.prog 10 #[.slice A L.length c] W fun e w' => e = .returned (.bool true) ∧ Below W.heap.size W w') := fun W h => (RRight_any (c := c) (hA.kept h) (fit_key fA) (Nat.le_trans fA.1 (by decide))).mono fun e w' ⟨⟨v, he, hv⟩, hb⟩ => ⟨by rw [he, bool_one (r := true) hv ⟨fun _ => rA, fun _ => rfl⟩], hb⟩
  have lob : decide ((300 : Int) < (lo.size : Int)) = false := by simp; omega
  have hib : decide ((300 : Int) < (hi.size : Int)) = false := by simp; omega
  have kb : decide ((300 : Int) < (k.size : Int)) = false := by simp; omega
  have iA := rise_iff.1 rA
  have nA : L.length ≤ 1000 := Nat.le_trans fA.1 (by decide)
  have cT : ∀ W, Below w.heap.size w W → Hid (Calls Try.prog 19 #[.slice A L.length c, .agg #[.string lo, .string hi, .bool top], .int .i64 most] W fun e w' => (∃ A1 c1 A2 c2, e = .returned (.tuple #[.slice A1 (takeD (fun m => inB lo hi top m.1) most L).1.length c1, .slice A2 (takeD (fun m => inB lo hi top m.1) most L).2.length c2]) ∧ MC w' A1 c1 (takeD (fun m => inB lo hi top m.1) most L).1 ∧ MC w' A2 c2 (takeD (fun m => inB lo hi top m.1) most L).2 ∧ (0 < (takeD (fun m => inB lo hi top m.1) most L).1.length → M3 w' W.heap.size A1 c1 (takeD (fun m => inB lo hi top m.1) most L).1) ∧ Off A1 A2 (takeD (fun m => inB lo hi top m.1) most L).1) ∧ Below W.heap.size W w') := fun W h => Take_any (c := c) ⟨hA.kept h, gA⟩ lo hi top most (by omega) (by omega) (fit_key3 fA) iA nA
  have cS : ∀ W, Below w.heap.size w W → Hid (Calls Try.prog 21 #[.slice A L.length c, .string k] W fun e w' => (∃ A1 c1 A2 c2, e = .returned (.tuple #[.slice A1 (takeD (fun m => decide (cmpB m.1 k < 0)) (L.length : Int) L).1.length c1, .slice A2 (takeD (fun m => decide (cmpB m.1 k < 0)) (L.length : Int) L).2.length c2]) ∧ MC w' A1 c1 (takeD (fun m => decide (cmpB m.1 k < 0)) (L.length : Int) L).1 ∧ MC w' A2 c2 (takeD (fun m => decide (cmpB m.1 k < 0)) (L.length : Int) L).2 ∧ From W A A2) ∧ Below W.heap.size W w') := fun W h => Split_any (c := c) ⟨hA.kept h, gA⟩ k (by omega) (fit_key3 fA) iA nA
  have cP : ∀ W, Below w.heap.size w W → Hid (Calls Try.prog 15 #[.slice A L.length c, .agg #[.string k, .bool dl, .string v]] W fun e w' => (∃ u, e = .returned u) ∧ Below W.heap.size W w') := fun W h => (Put_any (c := c) ⟨hA.kept h, gA⟩ (k, dl, v) (show k.size ≤ 1000 by omega) (fit_key3 fA) iA nA).mono fun e w' ⟨⟨A', c', he, _⟩, hb⟩ => ⟨⟨_, he⟩, hb⟩
  have cM : ∀ (p : Mg → Bool) (q : Int) (W : World) (A1 A2 : Option Addr) (c1 c2 : Nat), MC W A1 c1 (takeD p q L).1 → MC W A2 c2 (takeD p q L).2 → Hid (Calls Try.prog 16 #[.slice A1 (takeD p q L).1.length c1, .slice A2 (takeD p q L).2.length c2] W fun e w' => (∃ A' c', e = .returned (.slice A' L.length c') ∧ ML w' A' L ∧ From W A2 A') ∧ Below W.heap.size W w') := fun p q W A1 A2 c1 c2 g1 g2 => by
    have := taken_len p q L
    have := Merge_any (c := c1) (c' := c2) g1 g2 (taken_key (fit_key3 fA)).1 (taken_key (fit_key3 fA)).2 (iA.taken p q).1 (iA.taken p q).2 (by omega) (by omega)
    rw [iA.whole p q] at this
    exact this
  have cM1 := fun W A1 A2 c1 c2 => cM (fun m => inB lo hi top m.1) most W A1 A2 c1 c2
  have cM2 := fun W A1 A2 c1 c2 => cM (fun m => decide (cmpB m.1 k < 0)) (L.length : Int) W A1 A2 c1 c2
  have cE : ∀ (W : World) (A1 A2 : Option Addr) (c1 c2 : Nat), ML W A1 L → ML W A2 L → Hid (Calls Try.prog 12 #[.slice A1 L.length c1, .slice A2 L.length c2] W fun e w' => e = .returned (.bool true) ∧ Below W.heap.size W w') := fun W A1 A2 c1 c2 g1 g2 => (RSame_any (c := c1) (c' := c2) g1 g2 (by omega) (by omega)).mono fun e w' ⟨⟨v, he, hv⟩, hb⟩ => ⟨by rw [he, hv.2 rfl], hb⟩
  have cE1 := cE
  have cE2 := cE
  have tl := taken_len (fun m => inB lo hi top m.1) most L
  generalize (takeD (fun m => inB lo hi top m.1) most L) = T at *
  generalize (takeD (fun m => decide (cmpB m.1 k < 0)) (L.length : Int) L) = U at *
  obtain ⟨T1, T2⟩ := T
  obtain ⟨U1, U2⟩ := U
  simp only at cT cS cM1 cM2 tl
  have HA := Lib.hid hA
  clear hA gA lA fA rA iA cM h1 h2 h3
  generalize hn : L.length = n at *
  have HN := Lib.hid hn
  generalize ht : T1.length = t1 at *
  have HT := Lib.hid ht
  generalize T2.length = t2 at *
  generalize U1.length = u1 at *
  generalize U2.length = u2 at *
  clear hn ht
  go_enter Try.func6, Try.ntmps6
  go_upto_region 1 with fail
  have h5 := heap_alloc_new w (.cells #[.string lo, .string hi, .bool top] 35)
  have hb5 : Below w.heap.size w (w.alloc (.cells #[.string lo, .string hi, .bool top] 35)) := (Below.refl _ _).alloc (Nat.le_refl _) _
  have hs0 : (w.alloc (.cells #[.string lo, .string hi, .bool top] 35)).heap.size = w.heap.size + 1 := by simp
  generalize w.alloc (.cells #[.string lo, .string hi, .bool top] 35) = w0 at *
  have h7 := heap_alloc_new w0 (.cells #[.string k, .bool dl, .string v] 28)
  have hb : Below w0.heap.size w0 (w0.alloc (.cells #[.string k, .bool dl, .string v] 28)) := (Below.refl _ _).alloc (Nat.le_refl _) _
  rw [hs0] at h7
  have HS := Lib.hid (kept3 h5 hb)
  have HW : Hid (Below w.heap.size w (w0.alloc (.cells #[.string k, .bool dl, .string v] 28))) := hb5.trans (hb.mono hb5.size)
  generalize w0.alloc (.cells #[.string k, .bool dl, .string v] 28) = w1 at *
  obtain ⟨g7, hg7⟩ : ∃ g7, g7 = w.heap.size + 1 := ⟨_, rfl⟩
  rw [← hg7] at h7 ⊢
  have HX := Lib.hid h7
  obtain ⟨g5, hg5⟩ : ∃ g5, g5 = w.heap.size := ⟨_, rfl⟩
  rw [← hg5] at HS ⊢
  clear h5 hb5 hs0 h7 hb hg7 hg5
  go_upto_region 3 with (first
    | (go_at_call 7; refine (cG _ _ _ _ _ (heap_alloc_new _ _) (HA.out.kept (HW.out.alloc HW.out.size _))).out.mono ?_; rintro e w' ⟨rfl, rfl⟩; have hb : Below w1.heap.size w1 (w1.alloc (.cells #[.slice A n c] 22)) := (Below.refl _ _).alloc (Nat.le_refl _) _; replace HS := Lib.hid (kept3 HS.out hb); replace HX := Lib.hid (kept3 HX.out hb); replace HW := Lib.hid (HW.out.trans (hb.mono HW.out.size)); clear hb; obtain ⟨s0, s1, s2⟩ := box3 HS.out; obtain ⟨d0, d1, d2⟩ := box3 HX.out; generalize w1.alloc (.cells #[.slice A n c] 22) = w2 at *)
    | (go_at_call 10; refine (cRA _ HW.out).out.mono ?_; rintro e w3 ⟨rfl, hb⟩; clear s0 s1 s2 d0 d1 d2 cRA; replace HS := Lib.hid (kept3 HS.out hb); replace HX := Lib.hid (kept3 HX.out hb); replace HW := Lib.hid (HW.out.trans (hb.mono HW.out.size)); clear hb))
  clear cG
  have hb3 : Below w3.heap.size w3 (w3.alloc (.cells #[] 28)) := (Below.refl _ _).alloc (Nat.le_refl _) _
  have HAL := Lib.hid (HA.out.kept (HW.out.trans (hb3.mono HW.out.size)))
  have HV0 : Hid (M3 (w3.alloc (.cells #[] 28)) w3.heap.size (some ⟨w3.heap.size, 0, none⟩) 0 []) := VK.lit (K := MgK) w3 w3.heap.size (Nat.le_refl _)
  have hn2 : 0 + n ≤ 1048576 := by omega
  have hs3 := hb3.size
  have HB3 := Lib.hid hb3
  clear hb3
  go_upto_region 4 with (with_reducible refine wpList_append_allK (K := MgK) Try.underlying22 mginfo rfl (by decide) (by decide) rfl (.tmp 43) (.tmp 44) rfl w3.heap.size (some ⟨w3.heap.size, 0, none⟩) 0 0 [] rfl rfl HV0.out A n c L rfl HN.out HAL.out hn2 hs3 ?_; intro Aw cw w4 hv4 hb4)
  have hb : Below w3.heap.size w3 w4 := HB3.out.trans hb4.out
  have HQ : Hid (ML w4 Aw L) := hv4.out.rd
  replace HS := Lib.hid (kept3 HS.out hb); replace HX := Lib.hid (kept3 HX.out hb)
  replace HW := Lib.hid (HW.out.trans (hb.mono HW.out.size))
  clear HAL HV0 hn2 hs3 HB3 hv4 hb4 hb
  obtain ⟨s0, s1, s2⟩ := box3 HS.out
  obtain ⟨d0, d1, d2⟩ := box3 HX.out
  go_upto_region 5 with (go_at_call 19; refine (cT _ HW.out).out.mono ?_; rintro e w5 ⟨⟨A1, c1, A2, c2, rfl, h1, h2, h3, h4⟩, hb⟩)
  clear s0 s1 s2 d0 d1 d2 cT
  have H1 := Lib.hid h1
  have H2 := Lib.hid h2
  have H3 := Lib.hid h3
  have H4 := Lib.hid h4
  have z4 := HW.out.size
  have z5 := hb.size
  replace HS := Lib.hid (kept3 HS.out hb); replace HX := Lib.hid (kept3 HX.out hb)
  replace HW := Lib.hid (HW.out.trans (hb.mono HW.out.size))
  have HQ5 := Lib.hid (HQ.out.kept hb)
  have HM := Lib.hid fun h0 => (h3 h0)
  clear h1 h2 h3 h4 hb
  obtain ⟨s0, s1, s2⟩ := box3 HS.out
  obtain ⟨d0, d1, d2⟩ := box3 HX.out
  go_upto_region 6 with (go_at_call 21; refine (cS _ HW.out).out.mono ?_; rintro e w6 ⟨⟨A3, c3, A4, c4, rfl, h1, h2, h3⟩, hb⟩)
  clear s0 s1 s2 d0 d1 d2 cS
  have H5 := Lib.hid h1
  have H6 := Lib.hid h2
  have H7 := Lib.hid h3
  have z6 := hb.size
  replace HS := Lib.hid (kept3 HS.out hb); replace HX := Lib.hid (kept3 HX.out hb)
  replace HW := Lib.hid (HW.out.trans (hb.mono HW.out.size))
  replace H1 := Lib.hid (H1.out.kept hb); replace H2 := Lib.hid (H2.out.kept hb); replace HQ5 := Lib.hid (HQ5.out.kept hb)
  replace HM := Lib.hid fun h0 => (HM.out h0).kept hb
  clear h1 h2 h3 hb
  go_upto_region 7 with (first
    | (go_at_call 16; refine (cM1 _ _ _ _ _ H1.out H2.out).out.mono ?_; rintro e w7 ⟨⟨Ax, cx, rfl, h1, h2⟩, hb⟩; have H8 := Lib.hid h1; have H9 := Lib.hid h2; have z7 := hb.size; replace HS := Lib.hid (kept3 HS.out hb); replace HX := Lib.hid (kept3 HX.out hb); replace HW := Lib.hid (HW.out.trans (hb.mono HW.out.size)); replace H5 := Lib.hid (H5.out.kept hb); replace H6 := Lib.hid (H6.out.kept hb); replace HQ5 := Lib.hid (HQ5.out.kept hb); replace HM := Lib.hid fun h0 => (HM.out h0).kept hb; clear h1 h2 hb H1 H2 cM1)
    | (go_at_call 16; refine (cM2 _ _ _ _ _ H5.out H6.out).out.mono ?_; rintro e w8 ⟨⟨Ay, cy, rfl, h1, h2⟩, hb⟩; have H10 := Lib.hid h1; have H11 := Lib.hid h2; replace HS := Lib.hid (kept3 HS.out hb); replace HX := Lib.hid (kept3 HX.out hb); replace HW := Lib.hid (HW.out.trans (hb.mono HW.out.size)); replace H8 := Lib.hid (H8.out.kept hb); replace HQ5 := Lib.hid (HQ5.out.kept hb); replace HM := Lib.hid fun h0 => (HM.out h0).kept hb; clear h1 h2 hb H5 H6 cM2))
  obtain ⟨s0, s1, s2⟩ := box3 HS.out
  obtain ⟨d0, d1, d2⟩ := box3 HX.out
  go_upto_region 8 with (go_at_call 15; refine (cP _ HW.out).out.mono ?_; rintro e w9 ⟨⟨u, rfl⟩, hb⟩)
  clear s0 s1 s2 d0 d1 d2 cP
  replace HS := Lib.hid (kept3 HS.out hb); replace HX := Lib.hid (kept3 HX.out hb)
  replace HW := Lib.hid (HW.out.trans (hb.mono HW.out.size))
  replace H8 := Lib.hid (H8.out.kept hb); replace H10 := Lib.hid (H10.out.kept hb); replace HQ5 := Lib.hid (HQ5.out.kept hb)
  replace HM := Lib.hid fun h0 => (HM.out h0).kept hb
  clear hb
  have HAx : Hid (ML w9 A L) := HA.out.kept HW.out
  by_cases h0 : 0 < t1
  · have h0' : 0 < T1.length := by rw [HT.out]; exact h0
    obtain ⟨g1, C, e1, hg1, hC⟩ := VK.block (HM.out h0) h0'
    subst e1
    have hlt : g1 < w5.heap.size := ((H3.out h0).at_ _ rfl).2
    have hL0 : 0 < L.length := by rw [HN.out]; omega
    have NL : Hid (∀ a, A = some a → a.block ≠ g1) := fun a ha e => by
      have := RdK.lt HA.out hL0 a ha
      omega
    have NQ : Hid (∀ a, Aw = some a → a.block ≠ g1) := fun a ha e => by
      have := RdK.lt HQ.out hL0 a ha
      omega
    have NX : Hid (∀ a, Ax = some a → a.block ≠ g1) := fun a ha e => by
      rcases H9.out a ha with h | ⟨y, hy, e2⟩
      · omega
      · exact H4.out h0' _ y rfl hy (e2.trans e).symm
    have NY : Hid (∀ a, Ay = some a → a.block ≠ g1) := fun a ha e => by
      rcases H11.out a ha with h | ⟨y, hy, e2⟩
      · omega
      · rcases H7.out y hy with h | ⟨z, hz, e3⟩
        · omega
        · exact NL.out z hz (e3.trans (e2.trans e))
    have HBx : Hid (w.heap.size ≤ g1) := Nat.le_trans z4 hg1
    have f0 := free3 hC 0
    have f1 := free3 hC 1
    have f2 := free3 hC 2
    obtain ⟨x, hx⟩ : ∃ x, x = T1[0] := ⟨_, rfl⟩
    have hx' := nat_len h0'
    rw [← hx] at hx'
    obtain ⟨g', e', hc⟩ := (HM.out h0).cell hx'
    obtain rfl : g1 = g' := by simpa using e'
    have c0 : w9.cell? ⟨g1, 0, none⟩ = some (.string x.1) := by simpa [MgK] using hc 0 _ rfl
    have c1' : w9.cell? ⟨g1, 1, none⟩ = some (.bool x.2.1) := by simpa [MgK] using hc 1 _ rfl
    have c2' : w9.cell? ⟨g1, 2, none⟩ = some (.string x.2.2) := by simpa [MgK] using hc 2 _ rfl
    clear e' hc hx hx' hC hL0 h0' hlt hg1 H3 H4 H7 H9 H11 HM HQ HT tl z4 z5 z6 z7 HN
    obtain ⟨d0, d1, d2⟩ := box3 HX.out
    clear HX HS
    go_upto_region 10 with fail
    have HW2 : Hid (Below w.heap.size w (set3 w9 g1 (.string k) (.bool dl) (.string v))) := set3_below HW.out HBx.out _ _ _
    have G1 : Hid (ML (set3 w9 g1 (.string k) (.bool dl) (.string v)) Ax L) := RdK.set3 H8.out _ _ _ _ fun _ => NX.out
    have G2 : Hid (ML (set3 w9 g1 (.string k) (.bool dl) (.string v)) Ay L) := RdK.set3 H10.out _ _ _ _ fun _ => NY.out
    have G3 : Hid (ML (set3 w9 g1 (.string k) (.bool dl) (.string v)) Aw L) := RdK.set3 HQ5.out _ _ _ _ fun _ => NQ.out
    have G4 : Hid (ML (set3 w9 g1 (.string k) (.bool dl) (.string v)) A L) := RdK.set3 HAx.out _ _ _ _ fun _ => NL.out
    clear H8 H10 HQ5 HAx NX NY NQ NL HW c0 c1' c2' d0 d1 d2 f0 f1 f2 HBx
    unfold set3 at HW2 G1 G2 G3 G4
    generalize ((w9.setCell ⟨g1, 0, none⟩ (.string k)).setCell ⟨g1, 1, none⟩ (.bool dl)).setCell ⟨g1, 2, none⟩ (.string v) = w10 at *
    have HW := HW2
    clear HW2
    go_wp2_with (first
      | (go_at_call 12; refine (cE _ _ _ _ _ G1.out G4.out).out.mono ?_; rintro e w' ⟨rfl, hb⟩; replace HW := Lib.hid (HW.out.trans (hb.mono HW.out.size)); replace G2 := Lib.hid (G2.out.kept hb); replace G3 := Lib.hid (G3.out.kept hb); replace G4 := Lib.hid (G4.out.kept hb); clear hb cE G1)
      | (go_at_call 12; refine (cE1 _ _ _ _ _ G2.out G4.out).out.mono ?_; rintro e w' ⟨rfl, hb⟩; replace HW := Lib.hid (HW.out.trans (hb.mono HW.out.size)); replace G3 := Lib.hid (G3.out.kept hb); replace G4 := Lib.hid (G4.out.kept hb); clear hb cE1 G2)
      | (go_at_call 12; refine (cE2 _ _ _ _ _ G4.out G3.out).out.mono ?_; rintro e w' ⟨rfl, hb⟩; replace HW := Lib.hid (HW.out.trans (hb.mono HW.out.size)); clear hb cE2 G3 G4)
      | (go_at_call 8; refine (cA _).out.mono ?_; rintro e w' ⟨rfl, hb⟩; replace HW := Lib.hid (HW.out.trans (hb.mono HW.out.size)); clear hb))
    go_ret
    exact ⟨rfl, HW.out⟩
  · obtain rfl : t1 = 0 := by omega
    clear H3 H4 H7 H9 H11 HM HQ HT tl z4 z5 z6 z7 HN HX HS h0
    have G1 := H8
    have G2 := H10
    have G3 := HQ5
    have G4 := HAx
    clear H8 H10 HQ5 HAx
    go_wp2_with (first
      | (go_at_call 12; refine (cE _ _ _ _ _ G1.out G4.out).out.mono ?_; rintro e w' ⟨rfl, hb⟩; replace HW := Lib.hid (HW.out.trans (hb.mono HW.out.size)); replace G2 := Lib.hid (G2.out.kept hb); replace G3 := Lib.hid (G3.out.kept hb); replace G4 := Lib.hid (G4.out.kept hb); clear hb cE G1)
      | (go_at_call 12; refine (cE1 _ _ _ _ _ G2.out G4.out).out.mono ?_; rintro e w' ⟨rfl, hb⟩; replace HW := Lib.hid (HW.out.trans (hb.mono HW.out.size)); replace G3 := Lib.hid (G3.out.kept hb); replace G4 := Lib.hid (G4.out.kept hb); clear hb cE1 G2)
      | (go_at_call 12; refine (cE2 _ _ _ _ _ G4.out G3.out).out.mono ?_; rintro e w' ⟨rfl, hb⟩; replace HW := Lib.hid (HW.out.trans (hb.mono HW.out.size)); clear hb cE2 G3 G4)
      | (go_at_call 8; refine (cA _).out.mono ?_; rintro e w' ⟨rfl, hb⟩; replace HW := Lib.hid (HW.out.trans (hb.mono HW.out.size)); clear hb))
    go_ret
    exact ⟨rfl, HW.out⟩
theorem BufWhole_walk (A : Option Addr) (c : Nat) (L : List Mg) (lo hi : ByteArray) (top : Bool) (most : Int) (k : ByteArray) (dl : Bool) (v : ByteArray) (w : World) (hA : MC w A c L) (lA : L.length ≤ maxLen) : Calls Try.prog 6 #[.slice A L.length c, spanV lo hi top, .int .i64 most, .agg #[.string k, .bool dl, .string v]] w fun e w' => e = .returned (.bool true) ∧ Below w.heap.size w w' := by
  by_cases h : Fit L ∧ lo.size ≤ 300 ∧ hi.size ≤ 300 ∧ k.size ≤ 300 ∧ Rise L
  · exact BufWhole_good A c L lo hi top most k dl v w hA.1 lA hA.2 h.1 h.2.1 h.2.2.1 h.2.2.2.1 h.2.2.2.2
  · exact BufWhole_bad A c L lo hi top most k dl v w hA.1 lA h
end Bu
end Go.Proofs.Ytmgmkfophdjidaa
