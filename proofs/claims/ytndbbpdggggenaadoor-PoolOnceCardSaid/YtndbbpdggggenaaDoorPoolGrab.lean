/-
  Contracts of layer pool: Grab, Take, Row.
-/
import Derived.Test.YtndbbpdggggenaaDoorPoolRow
import Derived.Test.YtndbbpdggggenaaDoorVals
namespace Go.Proofs.YtndbbpdggggenaaDoor
open Go.RowKit
namespace Po
open Mem Bt

theorem u32info : (Tryd.prog.info? 23).map (fun i => (i.zero, i.size, i.bytes)) = some (some (.int .u32 0), 1, 4) := by kernel_rfl
def u32V (x : Nat) : Value := .int .u32 (x : Int)
section
variable {W w w' : World} {q g b a : Nat} {tb : List Bool}
theorem Pw.far (h : Pw W w q g b tb) (hT : Tab W) (hi : Flow.Into [a] w w') (ha : q ≠ a ∧ g ≠ a ∧ b ≠ a) (hW : W.heap.size ≤ a) : Pw W w' q g b tb := by
  have h1 := below_into h.rw.bel hi (by simpa using hW) h.rw.bel.size
  exact ⟨(hi.block q h.lt (by simpa using ha.1)).trans h.hd, ⟨h.rw.row.into hi (by simpa using ha.2.1) (by simpa using ha.2.2), hT.below h1, h1, h.rw.hg, h.rw.hb⟩, h.hq⟩
theorem Pw.lts (h : Pw W w q g b tb) : q < w.heap.size ∧ g < w.heap.size ∧ b < w.heap.size ∧ W.heap.size ≤ b := ⟨h.lt, h.rw.row.lt.1, h.rw.row.lt.2.1, h.rw.hb⟩
end
theorem Grab_neg {W w : World} {q g b : Nat} {tb : List Bool} (h : Pw W w q g b tb) (k : Int) (hk : k < 0) : Calls Tryd.prog 13 #[.pointer (some ⟨q, 0, none⟩), .int .i64 k] w fun e w' => e = .returned (.tuple #[.slice none 0 0, .int .i64 2]) ∧ w = w' := by
  have cR := Lib.hid (row_any h)
  clear h
  go_enter Tryd.func13, Tryd.ntmps13
  go_wp2_with (go_at_call 25; refine cR.out.mono ?_; rintro e w' ⟨rfl, rfl⟩)
  exact bodyPost_ret (v := .tuple #[.slice none 0 0, .int .i64 2]) (by simp [results, Tryd.results13, go_sem]) rfl ⟨rfl, rfl⟩
theorem Grab_full {W w : World} {q g b : Nat} {tb : List Bool} (h : Pw W w q g b tb) (k : Int) (hk : 0 ≤ k) (hf : (free tb : Int) < k) : Calls Tryd.prog 13 #[.pointer (some ⟨q, 0, none⟩), .int .i64 k] w fun e w' => e = .returned (.tuple #[.slice none 0 0, .int .i64 11]) ∧ w = w' := by
  have cR := Lib.hid (row_any h)
  have cF := Lib.hid (Free_any h)
  generalize free tb = f at *
  clear h
  go_enter Tryd.func13, Tryd.ntmps13
  go_wp2_with (first
    | (go_at_call 25; refine cR.out.mono ?_; rintro e w' ⟨rfl, rfl⟩)
    | (go_at_call 8; refine cF.out.mono ?_; rintro e w' ⟨rfl, rfl⟩))
  exact bodyPost_ret (v := .tuple #[.slice none 0 0, .int .i64 11]) (by simp [results, Tryd.results13, go_sem]) rfl ⟨rfl, rfl⟩

/-- the blocks laid so far, noughts behind them -/
def part (l : List Nat) (d : Nat) : List Value := l.map u32V ++ List.replicate d (.int .u32 0)
theorem part_len (l : List Nat) (d : Nat) : (part l d).length = l.length + d := by simp [part]
theorem part_at (l : List Nat) (d j : Nat) (h : j < (part l d).length) (hj : l.length ≤ j) : (part l d)[j] = .int .u32 0 := by
  have e : (part l d)[j]? = some (.int .u32 0) := by
    have h' := h
    rw [part_len] at h'
    unfold part
    rw [List.getElem?_append_right (by simpa using hj)]
    simp only [List.getElem?_replicate, List.length_map]
    rw [if_pos (by omega)]
  rw [List.getElem?_eq_getElem h] at e
  exact Option.some.inj e
theorem part_set (l : List Nat) (d r : Nat) : (part l (d + 1)).set l.length (.int .u32 (r : Int)) = part (l ++ [r]) d := by
  unfold part
  rw [List.set_append_right _ _ (by simp), List.map_append]
  simp [List.replicate_succ, u32V]
/-- round j of the loop: p places filled, a where the search goes on -/
structure Rnd (W w1 wr : World) (q g b c k : Nat) (tb : List Bool) (j a p : Nat) : Prop where
  pw : Pw W wr q g b (fill tb p)
  ow : Ow 23 wr c k (part (frs tb p) (k - j))
  io : Flow.Into [b, c] w1 wr
  hp : p ≤ tb.length
  hl : (frs tb p).length = j
  ha : a ≤ p
  hf : ∀ m, a ≤ m → m < p → (fill tb p).getD m false = true
theorem Rnd.next {W w1 wr : World} {q g b c k : Nat} {tb : List Bool} {j a p : Nat} (H : Rnd W w1 wr q g b c k tb j a p) (hT : Tab W) (hj : j < k) (hk : k ≤ free tb) (hc : q ≠ c ∧ g ≠ c ∧ b ≠ c ∧ W.heap.size ≤ c) :
    ∃ r : Nat, r < 65536 ∧ Calls Tryd.prog 29 #[.pointer (some ⟨g, 0, none⟩), .int .i64 (a : Int)] wr (fun e w' => e = .returned (.tuple #[.int .i64 (r : Int), .bool true]) ∧ wr = w') ∧
      Calls Tryd.prog 24 #[.pointer (some ⟨g, 0, none⟩), .int .i64 (r : Int)] wr (fun e w' => ∃ x, e = .returned (.int .i64 x) ∧ w'.cell? ⟨q, 0, none⟩ = some (.pointer (some ⟨g, 0, none⟩)) ∧ w'.cell? ⟨c, j, none⟩ = some (.int .u32 0) ∧ w'.frozen? ⟨c, j, none⟩ = false ∧ Rnd W w1 (w'.setCell ⟨c, j, none⟩ (.int .u32 (r : Int))) q g b c k tb (j + 1) r (r + 1)) := by
  obtain ⟨r, h1, h2, h3, h4, h5, h6⟩ := next_free H.hp H.ha H.hf (by rw [H.hl]; exact hj) hk
  have hlen := H.pw.len.2
  rw [fill_len] at hlen
  have ha := H.ha
  have hp := H.hp
  refine ⟨r, by omega, ?_, ?_⟩
  · have := H.pw.rw.Free (a : Int) (by omega)
    rw [h3] at this
    exact this
  · refine (Bt.Set_any g b r (fill tb p) wr H.pw.rw.row).mono fun e w' ⟨he, hr, hi⟩ => ⟨_, he, ?_⟩
    have e1 : setT (fill tb p) (r : Int) = fill tb (r + 1) := by
      unfold setT
      rw [in_lt (by rw [fill_len]; exact h2)]
      exact h5
    rw [e1] at hr
    have hp1 := H.pw.into hT hi hr
    have ho1 := H.ow.into hi (by simpa using fun e => hc.2.2.1 e.symm)
    obtain ⟨d, hd⟩ : ∃ d, k - j = d + 1 := ⟨k - j - 1, by omega⟩
    have hd' : k - (j + 1) = d := by omega
    have hlp : j < (part (frs tb p) (k - j)).length := by rw [part_len, H.hl]; omega
    obtain ⟨ho2, hi2⟩ := ho1.set j (.int .u32 (r : Int))
    have e2 : (part (frs tb p) (k - j)).set j (.int .u32 (r : Int)) = part (frs tb (r + 1)) (k - (j + 1)) := by
      have := part_set (frs tb p) d r
      rw [H.hl] at this
      rw [hd, hd', this, h6]
    rw [e2] at ho2
    refine ⟨hp1.cell, ?_, ho1.free j, ⟨hp1.far hT hi2 ⟨hc.1, hc.2.1, hc.2.2.1⟩ hc.2.2.2, ho2, ?_, by omega, by rw [h6, List.length_append, H.hl]; rfl, by omega, fun m h7 h8 => ?_⟩⟩
    · rw [ho1.cell hlp, part_at _ _ _ hlp (by rw [H.hl]; exact Nat.le_refl _)]
    · exact (H.io.trans (hi.mono (by simp))).trans (hi2.mono (by simp))
    · obtain rfl : m = r := by omega
      exact fill_at tb m h2
set_option maxHeartbeats 1000000 in
theorem Grab_ok {W w : World} {q g b : Nat} {tb : List Bool} (h : Pw W w q g b tb) (hT : Tab W) (k : Nat) (hf : k ≤ free tb) : Calls Tryd.prog 13 #[.pointer (some ⟨q, 0, none⟩), .int .i64 (k : Int)] w fun e w' =>
    ∃ c t l, e = .returned (.tuple #[.slice (some ⟨c, 0, none⟩) k k, .int .i64 0]) ∧ Got tb k t l ∧ Pw W w' q g b t ∧ Ow 23 w' c k (l.map u32V) ∧ w.heap.size ≤ c ∧ Flow.Into [b] w w' := by
  have HP := Lib.hid h
  have HT := Lib.hid hT
  have cR := Lib.hid (row_any h)
  have cF := Lib.hid (Free_any h)
  have hle := h.len
  have hfr : free tb ≤ tb.length := by unfold free; omega
  have hk1 : k ≤ 65536 := by omega
  have hF : decide (free tb < k) = false := by simp; omega
  have HF := Lib.hid hf
  have hmk := fun w => run_make_at (P := Tryd.prog) Tryd.underlying34 u32info rfl (by omega) k (by omega) w
  generalize hfv : free tb = f at cF hF
  clear h hT hle hfr hf hfv
  go_enter Tryd.func13, Tryd.ntmps13
  go_upto_region 8 with (first
    | (go_at_call 25; refine cR.out.mono ?_; rintro e w' ⟨rfl, rfl⟩)
    | (go_at_call 8; refine cF.out.mono ?_; rintro e w' ⟨rfl, rfl⟩))
  have HB : Hid (Below w.heap.size w (w.alloc (.cells (Array.replicate k (.int .u32 0)) 23))) := (Below.refl _ _).alloc (Nat.le_refl _) _
  have HO : Hid (Ow 23 (w.alloc (.cells (Array.replicate k (.int .u32 0)) 23)) w.heap.size k (List.replicate k (.int .u32 0))) := by
    unfold Hid
    have := ow_made 23 w (.int .u32 0) k (by omega)
    simpa using this
  generalize w.alloc (.cells (Array.replicate k (.int .u32 0)) 23) = w1 at *
  have HP1 := Lib.hid (HP.out.kept HT.out HB.out)
  obtain ⟨c, hc⟩ : ∃ c, c = w.heap.size := ⟨_, rfl⟩
  have HC := Lib.hid hc
  have HN : Hid (q ≠ c ∧ g ≠ c ∧ b ≠ c ∧ W.heap.size ≤ c) := by
    have := HP.out.lts
    have := HP.out.size
    unfold Hid; omega
  rw [← hc] at HO
  rw [← hc]
  have H0 : Hid (Rnd W w1 w1 q g b c k tb 0 0 0) := ⟨HP1.out, HO.out, Flow.Into.refl _ _, Nat.zero_le _, rfl, Nat.le_refl _, fun m h1 h2 => by omega⟩
  clear hc HO cR cF hmk
  go_wp2
  go_loopw [7, 24] (fun x i wr => ∃ j a p : Nat, j ≤ k ∧ i = .int .i64 (j : Int) ∧ x = .int .i64 (a : Int) ∧ Hid (Rnd W w1 wr q g b c k tb j a p)) (fun _ i _ => k - (intOf i).toNat)
  case atStart => exact ⟨0, 0, 0, Nat.zero_le _, rfl, rfl, H0⟩
  case round =>
    obtain ⟨j, a, p, hj, rfl, rfl, HR⟩ := hrel
    clear H0 HP1
    by_cases hlt : j < k
    · obtain ⟨r, hr, cF, cS⟩ := HR.out.next HT.out hlt HF.out HN.out
      have CF := Lib.hid cF
      have CS := Lib.hid cS
      have d0 := HR.out.pw.cell
      have hw : IntKind.u32.wrap (r : Int) = (r : Int) := by rw [IntKind.wrap_u32]; omega
      clear cF cS
      go_wp2_with (first
        | (go_at_call 29; refine CF.out.mono ?_; rintro e w' ⟨rfl, rfl⟩)
        | (go_at_call 24; refine CS.out.mono ?_; rintro e w2 ⟨x, rfl, d1, d2, d3, hrn⟩; have HR2 := Lib.hid hrn; clear hrn d0))
      exact ⟨⟨j + 1, r, r + 1, hlt, by go_num, rfl, HR2⟩, by simp [intOf]; omega⟩
    · obtain rfl : j = k := by omega
      go_wp2_with fail
      refine bodyPost_ret (v := .tuple #[.slice (some ⟨c, 0, none⟩) j j, .int .i64 0]) (by simp [results, Tryd.results13, go_sem]) rfl ⟨c, fill tb p, frs tb p, rfl, ⟨p, HR.out.hp, rfl, rfl, HR.out.hl⟩, HR.out.pw, ?_, by rw [HC.out]; exact Nat.le_refl _, ?_⟩
      · have := HR.out.ow
        rw [Nat.sub_self] at this
        simpa [part] using this
      · have h1 := (Flow.Into.of_below HB.out).trans (HR.out.io.mono (S' := [b, c]) (by simp))
        exact ⟨h1.os, h1.tape, h1.output, h1.size, fun m hm hn => h1.block m hm (by have := HC.out; simp at hn ⊢; omega)⟩
end Po
end Go.Proofs.YtndbbpdggggenaaDoor
