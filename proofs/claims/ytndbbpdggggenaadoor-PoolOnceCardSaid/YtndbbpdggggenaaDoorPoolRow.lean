/-
  Contracts of layer pool: row, New, Free, Held, Has, Mark, Give.
-/
import Derived.Test.YtndbbpdggggenaaDoorBitsMake
import Derived.Test.YtndbbpdggggenaaDoorPoolPlain
import Derived.Deep.CutBlock
import Derived.Deep.DeepCutAuto
namespace Go.Proofs.YtndbbpdggggenaaDoor
open Go.RowKit
namespace Po
open Mem Bt

/-- a pool that was made behind W: its struct in block q, its row in blocks g and b -/
structure Pw (W w : World) (q g b : Nat) (tb : List Bool) : Prop where
  hd : w.heap[q]? = some (.cells #[.pointer (some ⟨g, 0, none⟩)] 55 (0, 0))
  rw : Rw W w g b tb
  hq : W.heap.size ≤ q
section
variable {W w w' : World} {q g b : Nat} {tb tb' : List Bool}
theorem Pw.lt (h : Pw W w q g b tb) : q < w.heap.size := (Array.getElem?_eq_some_iff.1 h.hd).1
theorem Pw.ne (h : Pw W w q g b tb) : q ≠ g ∧ q ≠ b := by
  obtain ⟨c, ws, hw⟩ := h.rw.row
  have hd := h.hd
  refine ⟨?_, ?_⟩
  · rintro rfl
    rw [hw.hd] at hd; simp at hd
  · rintro rfl
    obtain ⟨_, h2⟩ := hw.ow
    rcases h2 with ⟨h2, _⟩ | ⟨g2, c2, cur2, e2, _, hh2, _⟩
    · cases h2
    · obtain ⟨rfl, rfl⟩ : q = g2 ∧ c = c2 := by simpa using e2
      rw [hh2] at hd
      simp at hd
theorem Pw.cell (h : Pw W w q g b tb) : w.cell? ⟨q, 0, none⟩ = some (.pointer (some ⟨g, 0, none⟩)) := by
  have := h.hd
  simp [World.cell?, this]
theorem Pw.size (h : Pw W w q g b tb) : W.heap.size ≤ w.heap.size := h.rw.bel.size
theorem Pw.kept (h : Pw W w q g b tb) (hT : Tab W) (hb : Below w.heap.size w w') : Pw W w' q g b tb := ⟨(hb.block q h.lt).trans h.hd, h.rw.kept hT hb, h.hq⟩
theorem Pw.into (h : Pw W w q g b tb) (hT : Tab W) (hi : Flow.Into [b] w w') (hr : RowAt w' g b tb') : Pw W w' q g b tb' :=
  ⟨(hi.block q h.lt (by simpa using h.ne.2)).trans h.hd, h.rw.into hT hi hr, h.hq⟩
theorem Pw.len (h : Pw W w q g b tb) : 1 ≤ tb.length ∧ tb.length ≤ 65536 := h.rw.row.lt.2.2.2
end

theorem row_at (q : Nat) (v : Value) (w : World) (h : w.cell? ⟨q, 0, none⟩ = some v) : Calls Tryd.prog 25 #[.pointer (some ⟨q, 0, none⟩)] w fun e w' => e = .returned v ∧ w = w' := by
  go_enter Tryd.func25, Tryd.ntmps25
  go_wp2
  go_ret
  exact ⟨rfl, rfl⟩
theorem row_nil (w : World) : Calls Tryd.prog 25 #[.pointer none] w fun e w' => e = .returned (.pointer none) ∧ w = w' := by
  go_enter Tryd.func25, Tryd.ntmps25
  go_wp2
  go_ret
  exact ⟨rfl, rfl⟩
theorem row_any {W w : World} {q g b : Nat} {tb : List Bool} (h : Pw W w q g b tb) : Calls Tryd.prog 25 #[.pointer (some ⟨q, 0, none⟩)] w fun e w' => e = .returned (.pointer (some ⟨g, 0, none⟩)) ∧ w = w' := row_at q _ w h.cell

theorem Held_any {W w : World} {q g b : Nat} {tb : List Bool} (h : Pw W w q g b tb) : Calls Tryd.prog 9 #[.pointer (some ⟨q, 0, none⟩)] w fun e w' => e = .returned (.int .i64 (cnt tb : Int)) ∧ w = w' := by
  have cR := Lib.hid (row_any h)
  have cC := Lib.hid (Count_any g b tb w h.rw.row)
  clear h
  go_enter Tryd.func9, Tryd.ntmps9
  go_wp2_with (first
    | (go_at_call 25; refine cR.out.mono ?_; rintro e w' ⟨rfl, rfl⟩)
    | (go_at_call 27; refine cC.out.mono ?_; rintro e w' ⟨rfl, rfl⟩))
  go_ret
  exact ⟨rfl, rfl⟩
theorem Free_any {W w : World} {q g b : Nat} {tb : List Bool} (h : Pw W w q g b tb) : Calls Tryd.prog 8 #[.pointer (some ⟨q, 0, none⟩)] w fun e w' => e = .returned (.int .i64 (free tb : Int)) ∧ w = w' := by
  have cR := Lib.hid (row_any h)
  have cL := Lib.hid (Len_any g b tb w h.rw.row)
  have cH := Lib.hid (Held_any h)
  have hl := h.len
  have hc := cnt_le tb
  have hf : IntKind.i64.wrap ((tb.length : Int) - (cnt tb : Int)) = (free tb : Int) := by unfold free; rw [IntKind.wrap_i64]; omega
  generalize tb.length = n at *
  generalize cnt tb = c at *
  generalize free tb = f at *
  clear h hl hc
  go_enter Tryd.func8, Tryd.ntmps8
  go_wp2_with (first
    | (go_at_call 25; refine cR.out.mono ?_; rintro e w' ⟨rfl, rfl⟩)
    | (go_at_call 26; refine cL.out.mono ?_; rintro e w' ⟨rfl, rfl⟩)
    | (go_at_call 9; refine cH.out.mono ?_; rintro e w' ⟨rfl, rfl⟩))
  go_ret
  exact ⟨rfl, rfl⟩
theorem Has_any {W w : World} {q g b : Nat} {tb : List Bool} (h : Pw W w q g b tb) (hT : Tab W) (i : Nat) (hi : i < 4294967296) : Calls Tryd.prog 22 #[.pointer (some ⟨q, 0, none⟩), .int .u32 (i : Int)] w fun e w' => e = .returned (.bool (tb.getD i false)) ∧ Pw W w' q g b tb ∧ Below w.heap.size w w' := by
  have cR := Lib.hid (row_any h)
  have cH : Hid (Calls Tryd.prog 32 #[.pointer (some ⟨g, 0, none⟩), .int .i64 (i : Int)] w fun e w' => e = .returned (.bool (tb.getD i false)) ∧ Pw W w' q g b tb ∧ Below w.heap.size w w') :=
    (Bt.Has_any g b i tb w h.rw.row).mono fun _ _ ⟨he, hb⟩ => ⟨by rw [he, has_nat], h.kept hT hb, hb⟩
  generalize tb.getD i false = v at *
  have hw : IntKind.i64.wrap (i : Int) = (i : Int) := by rw [IntKind.wrap_i64]; omega
  clear h
  go_enter Tryd.func22, Tryd.ntmps22
  go_wp2_with (first
    | (go_at_call 25; refine cR.out.mono ?_; rintro e w' ⟨rfl, rfl⟩)
    | (go_at_call 32; refine cH.out.mono ?_; rintro e w1 ⟨rfl, hp, hb⟩; have HP := Lib.hid hp; have HB := Lib.hid hb; clear hp hb))
  go_ret
  exact ⟨rfl, HP.out, HB.out⟩
theorem Mark_any {W w : World} {q g b : Nat} {tb : List Bool} (h : Pw W w q g b tb) (hT : Tab W) (i : Nat) (hi : i < 4294967296) : Calls Tryd.prog 16 #[.pointer (some ⟨q, 0, none⟩), .int .u32 (i : Int)] w fun e w' => e = .returned (.int .i64 (setE tb i)) ∧ Pw W w' q g b (setT tb i) ∧ Flow.Into [b] w w' := by
  have cR := Lib.hid (row_any h)
  have cS : Hid (Calls Tryd.prog 24 #[.pointer (some ⟨g, 0, none⟩), .int .i64 (i : Int)] w fun e w' => e = .returned (.int .i64 (setE tb i)) ∧ Pw W w' q g b (setT tb i) ∧ Flow.Into [b] w w') :=
    (Bt.Set_any g b i tb w h.rw.row).mono fun _ _ ⟨he, hr, hi⟩ => ⟨he, h.into hT hi hr, hi⟩
  generalize setE tb i = v at *
  generalize setT tb i = t at *
  have hw : IntKind.i64.wrap (i : Int) = (i : Int) := by rw [IntKind.wrap_i64]; omega
  clear h
  go_enter Tryd.func16, Tryd.ntmps16
  go_wp2_with (first
    | (go_at_call 25; refine cR.out.mono ?_; rintro e w' ⟨rfl, rfl⟩)
    | (go_at_call 24; refine cS.out.mono ?_; rintro e w1 ⟨rfl, hp, hb⟩; have HP := Lib.hid hp; have HB := Lib.hid hb; clear hp hb))
  go_ret
  exact ⟨rfl, HP.out, HB.out⟩
theorem Give_any {W w : World} {q g b : Nat} {tb : List Bool} (h : Pw W w q g b tb) (hT : Tab W) (i : Nat) (hi : i < 4294967296) : Calls Tryd.prog 18 #[.pointer (some ⟨q, 0, none⟩), .int .u32 (i : Int)] w fun e w' => e = .returned (.int .i64 (gvE tb i)) ∧ Pw W w' q g b (gvT tb i) ∧ Flow.Into [b] w w' := by
  have cR := Lib.hid (row_any h)
  by_cases h0 : i = 0
  · subst h0
    have HP := Lib.hid h
    clear h
    go_enter Tryd.func18, Tryd.ntmps18
    go_wp2_with (go_at_call 25; refine cR.out.mono ?_; rintro e w' ⟨rfl, rfl⟩)
    go_ret
    exact ⟨rfl, HP.out, Flow.Into.refl _ _⟩
  · have cS : Hid (Calls Tryd.prog 30 #[.pointer (some ⟨g, 0, none⟩), .int .i64 (i : Int)] w fun e w' => e = .returned (.int .i64 (gvE tb i)) ∧ Pw W w' q g b (gvT tb i) ∧ Flow.Into [b] w w') := by
      unfold gvE gvT
      rw [if_neg h0, if_neg h0]
      exact (Bt.Clear_any g b i tb w h.rw.row).mono fun _ _ ⟨he, hr, hi⟩ => ⟨he, h.into hT hi hr, hi⟩
    generalize gvE tb i = v at *
    generalize gvT tb i = t at *
    have hw : IntKind.i64.wrap (i : Int) = (i : Int) := by rw [IntKind.wrap_i64]; omega
    have hz : ((i : Int) == 0) = false := by simpa using h0
    clear h
    go_enter Tryd.func18, Tryd.ntmps18
    go_wp2_with (first
      | (go_at_call 25; refine cR.out.mono ?_; rintro e w' ⟨rfl, rfl⟩)
      | (go_at_call 30; refine cS.out.mono ?_; rintro e w1 ⟨rfl, hp, hb⟩; have HP := Lib.hid hp; have HB := Lib.hid hb; clear hp hb))
    go_ret
    exact ⟨rfl, HP.out, HB.out⟩

/-- a new pool's places -/
def tbN (n : Nat) : List Bool := (List.replicate n false).set 0 true
theorem tbN_len (n : Nat) : (tbN n).length = n := by simp [tbN]
theorem New_out (n : Int) (w : World) (h : ¬ (5 ≤ n ∧ n ≤ 65536)) : Calls Tryd.prog 6 #[.int .i64 n] w fun e w' => e = .returned (.tuple #[.pointer none, .int .i64 2]) ∧ w = w' := by
  by_cases h0 : n < 5
  · clear h
    go_enter Tryd.func6, Tryd.ntmps6
    go_wp2
    exact bodyPost_ret (v := .tuple #[.pointer none, .int .i64 2]) (by simp [results, Tryd.results6, go_sem]) rfl ⟨rfl, rfl⟩
  · have h1 : 65536 < n := by omega
    have h2 : ¬ n < 5 := h0
    have cN := Lib.hid (Bt.New_out n w (by omega))
    clear h h0
    go_enter Tryd.func6, Tryd.ntmps6
    go_wp2_with (go_at_call 23; refine cN.out.mono ?_; rintro e w' ⟨rfl, rfl⟩)
    exact bodyPost_ret (v := .tuple #[.pointer none, .int .i64 2]) (by simp [results, Tryd.results6, go_sem]) rfl ⟨rfl, rfl⟩
theorem New_in (W w : World) (hT : Tab W) (hb : Below W.heap.size W w) (n : Nat) (h0 : 5 ≤ n) (h1 : n ≤ 65536) : Calls Tryd.prog 6 #[.int .i64 (n : Int)] w fun e w' => ∃ q g b, e = .returned (.tuple #[.pointer (some ⟨q, 0, none⟩), .int .i64 0]) ∧ Pw W w' q g b (tbN n) := by
  have cN := Lib.hid (New_rw W w hT hb n (by omega) h1)
  have HT := Lib.hid hT
  have cS : ∀ w1 g b, Rw W w1 g b (List.replicate n false) → Hid (Calls Tryd.prog 24 #[.pointer (some ⟨g, 0, none⟩), .int .i64 0] w1 fun e w' => e = .returned (.int .i64 0) ∧ Rw W w' g b (tbN n) ∧ Flow.Into [b] w1 w') := fun w1 g b hr => by
    have e1 : setE (List.replicate n false) 0 = 0 := by
      unfold setE
      rw [show (0 : Int) = ((0 : Nat) : Int) from rfl, in_lt (by simp; omega), has_nat]
      simp [List.getD, show 0 < n by omega]
    have e2 : setT (List.replicate n false) 0 = tbN n := by
      unfold setT
      rw [show (0 : Int) = ((0 : Nat) : Int) from rfl, in_lt (by simp; omega)]; rfl
    have := hr.Set hT 0
    rw [e1, e2] at this
    exact this
  generalize List.replicate n false = t0 at *
  generalize tbN n = t1 at *
  clear hT hb
  go_enter Tryd.func6, Tryd.ntmps6
  go_upto_region 6 with (first
    | (go_at_call 23; refine cN.out.mono ?_; rintro e w1 ⟨g, b, rfl, hr, -⟩; have HR1 := Lib.hid hr; clear hr))
  have hb2 : Below w1.heap.size w1 (w1.alloc (.cells #[.pointer (some ⟨g, 0, none⟩)] 55)) := (Below.refl _ _).alloc (Nat.le_refl _) _
  have HR2 := Lib.hid (HR1.out.kept HT.out hb2)
  have HQ : Hid ((w1.alloc (.cells #[.pointer (some ⟨g, 0, none⟩)] 55)).heap[w1.heap.size]? = some (.cells #[.pointer (some ⟨g, 0, none⟩)] 55 (0, 0))) := by unfold Hid; rw [heap_alloc_new]
  have HL : Hid (w1.heap.size < (w1.alloc (.cells #[.pointer (some ⟨g, 0, none⟩)] 55)).heap.size ∧ b < w1.heap.size) := by unfold Hid; exact ⟨by simp, HR1.out.row.lt.2.1⟩
  clear hb2
  go_wp2_with (go_at_call 24; refine (cS _ g b HR2.out).out.mono ?_; rintro e w3 ⟨rfl, hr, hi⟩; have HR3 := Lib.hid hr; have HI := Lib.hid hi; clear hr hi)
  refine bodyPost_ret (v := .tuple #[.pointer (some ⟨w1.heap.size, 0, none⟩), .int .i64 0]) (by simp [results, Tryd.results6, go_sem]) rfl ⟨w1.heap.size, g, b, rfl, ⟨?_, HR3.out, HR1.out.bel.size⟩⟩
  rw [HI.out.block w1.heap.size HL.out.1 (by have := HL.out.2; simp; omega)]
  exact HQ.out
end Po
end Go.Proofs.YtndbbpdggggenaaDoor
