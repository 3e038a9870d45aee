/-
  Contracts of layer cache: Row, Flush.
-/
import Derived.Test.YtjnbdmimflhhiaaCacheDirty
namespace Go.Proofs.Ytjnbdmimflhhiaa
open Go.RowKit
namespace Ca
open Mem Dv Cn Po So

theorem CRowAll {w : World} {g b n : Nat} {l : List Nat} (h : Chn w g b n l) : Calls Try.prog 52 #[.pointer (some ⟨g, 0, none⟩)] w fun e w' => (∃ A c, e = .returned (.slice A l.length c) ∧ IL w' A (rowZ l)) ∧ Below w.heap.size w w' := by
  by_cases h0 : 0 < l.length
  · refine (Row_cons h h0).mono fun e w' ⟨⟨A, c, he, hi⟩, hb⟩ => ⟨⟨A, c, he, hi.il⟩, hb⟩
  · obtain rfl : l = [] := List.eq_nil_of_length_eq_zero (by omega)
    exact (Row_nil h).mono fun e w' ⟨⟨A, c, he, hi⟩, hb⟩ => ⟨⟨A, c, he, hi.il⟩, hb⟩
/-- the blocks of some frames -/
def rowOf (fr : List (Option Fr)) (l : List Nat) : List Nat := l.filterMap fun j => ((fr[j]?).getD none).map (·.1)
theorem rowOf_take (fr : List (Option Fr)) (l : List Nat) {k : Nat} (hk : k < l.length) : rowOf fr (l.take (k + 1)) = rowOf fr (l.take k) ++ (match (fr[l[k]]?).getD none with | some f => [f.1] | none => []) := by
  unfold rowOf
  rw [List.take_succ_eq_append_getElem hk, List.filterMap_append]
  congr 1
  simp only [List.filterMap_cons, List.filterMap_nil]
  cases (fr[l[k]]?).getD none <;> rfl
set_option maxRecDepth 100000 in
set_option maxHeartbeats 1000000 in
theorem Row_w {W : World} {S : List Nat} {p f mp ch cb g k0 : Nat} {qk : Nat → Nat × Nat} {st : St} {M : Nat → Option Nat} (h : CwW W S p f mp ch cb g qk st M k0) (hg : Good st) :
    Calls Try.prog 22 #[.pointer (some ⟨p, 0, none⟩)] W fun e w' => (∃ A c, e = .returned (.slice A (rowL st).length c) ∧ UL w' A (rowL st)) ∧ Below W.heap.size W w' := by
  have cM := Lib.hid (isMade_any h)
  have cR := Lib.hid (CRowAll h.cn)
  have cE := fun v0 v2 v3 A m c w => Lib.hid (isEmpty_any v0 v2 v3 A m c w)
  obtain ⟨-, -, -, c3⟩ := h.cells
  have HH := Lib.hid h
  have HG := Lib.hid hg
  have HLT := Lib.hid h.cn.lt
  obtain ⟨R, hR⟩ : ∃ R, R = st.row := ⟨_, rfl⟩
  have hRN : R.length ≤ 4096 := by rw [hR]; have := h.cn.lt; omega
  have HRW := Lib.hid hR
  rw [← hR] at cR
  obtain ⟨N, hN⟩ : ∃ N, N = R.length := ⟨_, rfl⟩
  have HN := Lib.hid hN
  rw [← hN] at cR hRN
  clear h hg hR hN
  go_enter Try.func22, Try.ntmps22
  go_wp2_with (first
    | (go_at_call 49; refine cM.out.mono ?_; rintro e w' ⟨rfl, rfl⟩)
    | (go_at_call 52; refine cR.out.mono ?_; rintro e w1 ⟨⟨IA, ic, rfl, hil⟩, hb1⟩; have HIL := Lib.hid hil; have HB1 := Lib.hid hb1; clear hil hb1))
  clear cM cR c3
  go_loopg [3, 15] N (fun gk bv iv wr => ∃ (k m c : Nat) (A : Option Addr), k ≤ N ∧ gk = N - k ∧ iv = .int .i64 (k : Int) ∧ bv = .slice A m c ∧ Hid ((rowOf st.fr (R.take k)).length = m) ∧ m ≤ k ∧ Hid (VO 23 wr w1.heap.size A c ((rowOf st.fr (R.take k)).map u32V)) ∧ Hid (Below w1.heap.size w1 wr))
  case atStart => exact ⟨0, 0, 0, none, Nat.zero_le _, rfl, rfl, rfl, rfl, Nat.le_refl _, VO.nil _ _ _, Below.refl _ _⟩
  case round =>
    obtain ⟨k, m, c, A, hk, rfl, rfl, rfl, HM, hm, HV, HB⟩ := hrel
    by_cases hlt : k < N
    · have hkR : k < R.length := by rw [← HN.out]; exact hlt
      obtain ⟨j, hj⟩ : ∃ j, j = R[k] := ⟨_, rfl⟩
      have hil := HIL.out.below HB.out
      obtain ⟨ib, io, hIA, hic0⟩ := hil.at_ (i := k) (by simpa [rowZ] using hkR)
      have hic : wr.cell? ⟨ib, io + k, none⟩ = some (.int .i64 (j : Int)) := by rw [hic0]; simp [rowZ, hj]
      have hjn : j < st.fr.length := HLT.out.2.2.2.2.2.2.2 j (by rw [hj, ← HRW.out]; exact List.getElem_mem hkR)
      have hw1 : IntKind.i64.wrap ((k : Int) + 1) = ((k + 1 : Nat) : Int) := by rw [IntKind.wrap_i64]; omega
      have h1 := HH.out.kept (below_all HB1.out HB.out (Nat.le_refl _))
      obtain ⟨-, c1, -, -⟩ := h1.cells
      have hx : st.fr[j]? = some (st.fr[j]) := List.getElem?_eq_getElem hjn
      obtain ⟨x, hxx⟩ : ∃ x, x = st.fr[j] := ⟨_, rfl⟩
      rw [← hxx] at hx
      obtain ⟨d0, d1, d2, d3⟩ := h1.fw.cell hx
      have hstep := rowOf_take st.fr R hkR
      rw [← hj, hx] at hstep
      simp only [Option.getD_some] at hstep
      have HJ := Lib.hid (And.intro hj (And.intro hx hxx))
      have HH1 := Lib.hid h1
      obtain ⟨Nf, hNf⟩ : ∃ Nf, Nf = st.fr.length := ⟨_, rfl⟩
      rw [← hNf] at c1 hjn
      clear h1 hj hx hxx hil hNf hic0
      subst hIA
      cases x with
      | none =>
        simp only [f0, f1, f2, f3] at d0 d1 d2 d3
        simp only [List.append_nil] at hstep
        have HS := Lib.hid hstep
        have cE1 := fun w => cE (.int .u32 0) (.bool false) (.int .i64 0) none 0 0 w
        simp only [Option.isNone_none] at cE1
        clear hstep cE
        go_wp2_with (go_at_call 53; refine (cE1 _).out.mono ?_; rintro e w2 ⟨rfl, hb⟩; have HB2 := Lib.hid hb; clear hb)
        go_roundg (N - (k + 1))
        case measure => omega
        case rel => exact ⟨k + 1, m, c, A, hlt, rfl, by go_num, rfl, by unfold Hid; rw [HS.out]; exact HM.out, by omega, by unfold Hid; rw [HS.out]; exact HV.out.kept HB2.out, below_all HB.out HB2.out (Nat.le_refl _)⟩
      | some fx =>
        obtain ⟨b, y, d, n⟩ := fx
        simp only [f0, f1, f2, f3] at d0 d1 d2 d3
        simp only at hstep
        have HS := Lib.hid hstep
        have cE1 := fun w => cE (.int .u32 (b : Int)) (.bool d) (.int .i64 (n : Int)) (some ⟨(qk j).1, 0, none⟩) y.length (qk j).2 w
        simp only [Option.isNone_some] at cE1
        clear hstep cE
        go_upto_region 8 with (go_at_call 53; refine (cE1 _).out.mono ?_; rintro e w2 ⟨rfl, hb⟩; have HB2 := Lib.hid hb; clear hb)
        have h2 := HH1.out.kept HB2.out
        obtain ⟨-, c1', -, -⟩ := h2.cells
        have hNf2 : st.fr.length = Nf := by
          have e1 := HH1.out.cells.2.1
          rw [c1] at e1
          simpa using e1.symm
        rw [hNf2] at c1'
        obtain ⟨d0', -, -, -⟩ := h2.fw.cell HJ.out.2.1
        simp only [f0] at d0'
        have HX : Hid (Below w2.heap.size w2 (w2.alloc (.cells #[.int .u32 (b : Int)] 23))) := (Below.refl _ _).alloc (Nat.le_refl _) _
        have hcl : Hid ((w2.alloc (.cells #[.int .u32 (b : Int)] 23)).cell? ⟨w2.heap.size, 0, none⟩ = some (.int .u32 (b : Int))) := by unfold Hid; simp
        have hb12 := below_all HB.out HB2.out (Nat.le_refl _)
        have hBx : w1.heap.size ≤ (w2.alloc (.cells #[.int .u32 (b : Int)] 23)).heap.size := Nat.le_trans hb12.size HX.out.size
        have HVO : Hid (VO 23 (w2.alloc (.cells #[.int .u32 (b : Int)] 23)) w1.heap.size A c ((rowOf st.fr (R.take k)).map u32V)) := (HV.out.kept HB2.out).kept HX.out
        have HM2 : Hid (((rowOf st.fr (R.take k)).map u32V).length = m) := by unfold Hid; rw [List.length_map, HM.out]
        have hm65 : m + 1 ≤ 1048576 := by omega
        have HB12 := Lib.hid hb12
        clear h2 c1 d0 d1 d2 d3 hb12
        go_wp2_with (with_reducible refine wpList_append_one rfl (.tmp 28) (.tmp 37) _ rfl 23 Try.underlying37 (.int .u32 0) 4 u32info rfl (by omega) w1.heap.size A m c ((rowOf st.fr (R.take k)).map u32V) rfl HM2.out HVO.out w2.heap.size 1 (.int .u32 (b : Int)) rfl hcl.out rfl hm65 hBx ?_; intro A' c' w3 hd3)
        go_roundg (N - (k + 1))
        case measure => omega
        case rel =>
          refine ⟨k + 1, m + 1, c', A', hlt, rfl, by go_num, rfl, ?_, by omega, ?_, ?_⟩
          · unfold Hid; rw [HS.out, List.length_append, HM.out]; rfl
          · unfold Hid
            rw [HS.out, List.map_append]
            exact hd3.out.vo
          · exact (below_all HB12.out HX.out (Nat.le_refl _)).trans hd3.out.below
    · obtain rfl : k = N := by omega
      have e : rowOf st.fr (R.take k) = rowL st := by rw [List.take_of_length_le (by rw [← HN.out]; exact Nat.le_refl _), HRW.out]; rfl
      rw [e] at HM HV
      rw [← HM.out]
      go_wp2_with fail
      go_ret
      exact ⟨⟨A, c, rfl, UL.of_vo HV.out⟩, below_all HB1.out HB.out (Nat.le_refl _)⟩
theorem CRow {w : World} {F : List Nat} {p g : Nat} {st : St} (h : Cw w F p g st) : Calls Try.prog 22 #[.pointer (some ⟨p, 0, none⟩)] w fun e w' => (∃ A c, e = .returned (.slice A (rowL st).length c) ∧ UL w' A (rowL st)) ∧ Below w.heap.size w w' := by
  obtain ⟨S, fb, mp, ch, cb, qk, h1, h2, h3, h4, h5, h6⟩ := h
  exact Row_w h1 h5
section
variable {st : St}
theorem cleanB_at {b j : Nat} {f : Fr} (h : look st.fr b = some (j, f)) : cleanB st b = cleanT st j := by unfold cleanB; rw [h]
theorem ix_clean (h : Good st) (a : Nat) : ix (cleanT st a).fr = ix st.fr := by
  unfold cleanT
  split
  · rename_i hf
    exact ix_mark h.uq hf
  · rfl
theorem ix_cleanB (h : Good st) (b : Nat) : ix (cleanB st b).fr = ix st.fr := by
  unfold cleanB
  split
  · exact ix_clean h _
  · rfl
theorem cleans_facts (l : List Nat) : ∀ {st : St}, Good st → ix (l.foldl cleanB st).fr = ix st.fr ∧ (l.foldl cleanB st).s ≤ st.s + l.length ∧ (l.foldl cleanB st).r = st.r ∧ (l.foldl cleanB st).m = st.m ∧ (l.foldl cleanB st).ls.length = st.ls.length ∧ (l.foldl cleanB st).row = st.row := by
  induction l with
  | nil => intro st _; simp
  | cons x r ih =>
    intro st h
    obtain ⟨h1, h2, h3, h4, h5, h6⟩ := ih (h.cleanB x)
    have hs : (cleanB st x).s ≤ st.s + 1 ∧ (cleanB st x).r = st.r ∧ (cleanB st x).m = st.m ∧ (cleanB st x).ls.length = st.ls.length ∧ (cleanB st x).row = st.row := by
      unfold cleanB
      split
      · obtain ⟨c1, c2, c3, c4, c5, c6⟩ := clean_spec st ‹_›
        exact ⟨c4, c3, c1, c2, c5⟩
      · simp
    refine ⟨h1.trans (ix_cleanB h x), ?_, h3.trans hs.2.1, h4.trans hs.2.2.1, h5.trans hs.2.2.2.1, h6.trans hs.2.2.2.2⟩
    simp only [List.foldl_cons, List.length_cons]
    omega
theorem dirty_le (st : St) : (dirtyL st).length ≤ st.ls.length := by
  have : (dirtyL st).length ≤ (List.range st.ls.length).length := List.length_filter_le _ _
  rwa [List.length_range] at this
set_option maxRecDepth 100000 in
set_option maxHeartbeats 1000000 in
theorem CFlush {W : World} {F : List Nat} {p g : Nat} (h : Cw W F p g st) (hK : Sm st 900000) (hl : st.ls.length ≤ 12) : Calls Try.prog 44 #[.pointer (some ⟨p, 0, none⟩)] W fun e w' => e = .returned (.int .i64 0) ∧ Aft W w' F p g (flushT st) := by
  have cM := Lib.hid (CisMade h)
  have cD := Lib.hid (CDirty h hl)
  have HH := Lib.hid h
  have HG := Lib.hid h.good
  have HK := Lib.hid hK.s
  obtain ⟨R, hR⟩ : ∃ R, R = dirtyL st := ⟨_, rfl⟩
  have hR12 : R.length ≤ 12 := by rw [hR]; exact Nat.le_trans (dirty_le st) hl
  have HRW := Lib.hid hR
  rw [← hR] at cD
  obtain ⟨N, hN⟩ : ∃ N, N = R.length := ⟨_, rfl⟩
  have HN := Lib.hid hN
  rw [← hN] at cD hR12
  clear h hK hl hR hN
  go_enter Try.func44, Try.ntmps44
  go_wp2_with (first
    | (go_at_call 49; refine cM.out.mono ?_; rintro e w' ⟨rfl, rfl⟩)
    | (go_at_call 20; refine cD.out.mono ?_; rintro e w1 ⟨⟨IA, ic, rfl, hul, hfr⟩, hb1⟩; have HUL := Lib.hid hul; have HFR := Lib.hid hfr; have HB1 := Lib.hid hb1; clear hul hfr hb1))
  clear cM cD
  go_loopg [11] N (fun gk iv wr => ∃ k : Nat, k ≤ N ∧ gk = N - k ∧ iv = .int .i64 (k : Int) ∧ Hid (Aft w1 wr F p g ((R.take k).foldl cleanB st)))
  case atStart => exact ⟨0, Nat.zero_le _, rfl, rfl, Aft.same (HH.out.kept HB1.out) (Below.refl _ _)⟩
  case round =>
    obtain ⟨k, hk, rfl, rfl, HA⟩ := hrel
    by_cases hlt : k < N
    · have hkR : k < R.length := by rw [← HN.out]; exact hlt
      obtain ⟨b, hb⟩ : ∃ b, b = R[k] := ⟨_, rfl⟩
      have hiF := HA.out.2
      obtain ⟨⟨F1, h1, hg1⟩, hi1⟩ := HA.out
      have hulr : UL wr IA R := fun h0 => by
        obtain ⟨q, rfl, hq, hc⟩ := HUL.out h0
        refine ⟨q, rfl, Nat.lt_of_lt_of_le hq hi1.size, fun i hi => ?_⟩
        rw [← hc i hi]
        refine World.cell?_of_block (w := w1) (a := ⟨q, i, none⟩) (hi1.block q hq fun hm => ?_)
        have h1 := HFR.out _ rfl
        have h2 := HH.out.lt q hm
        simp only at h1
        omega
      obtain ⟨q, hIA, -, hic0⟩ := hulr (by omega)
      have hic := hic0 k hkR
      rw [← hb] at hic
      have hmem : b ∈ dirtyL st := by rw [← HRW.out, hb]; exact List.getElem_mem hkR
      obtain ⟨c1, c2, c3, c4, c5, c6⟩ := cleans_facts (R.take k) HG.out
      have hbl : b < st.ls.length ∧ dirtyP st b = true := by
        unfold dirtyL at hmem
        rw [List.mem_filter, List.mem_range] at hmem
        exact hmem
      have hb2 : b < 4294967296 := by have := HG.out.l32; omega
      obtain ⟨j, hj⟩ : ∃ j, ix st.fr b = some j := by
        have := hbl.2
        unfold dirtyP at this
        unfold ix
        cases e : look st.fr b with
        | none => rw [e] at this; cases this
        | some y => exact ⟨_, rfl⟩
      have hjk := hj
      rw [← c1] at hjk
      obtain ⟨f, hf, hfb⟩ := ix_some hjk
      have hlk : look ((R.take k).foldl cleanB st).fr b = some (j, f) := by rw [← hfb]; exact look_at h1.good.uq hf
      have hstep : (R.take (k + 1)).foldl cleanB st = cleanT ((R.take k).foldl cleanB st) j := by
        rw [List.take_succ_eq_append_getElem hkR, List.foldl_append, ← hb]
        exact cleanB_at hlk
      have hs : ((R.take k).foldl cleanB st).s ≤ 1000000 := by
        have := HK.out
        have : (R.take k).length ≤ 12 := by rw [List.length_take]; omega
        omega
      have cC := Lib.hid (Cclean h1 hf hs)
      have hw1 : IntKind.i64.wrap ((k : Int) + 1) = ((k + 1 : Nat) : Int) := by rw [IntKind.wrap_i64]; omega
      have HST := Lib.hid hstep
      obtain ⟨S, fb, mp, ch, cb, qk, hcw, _⟩ := h1
      obtain ⟨-, -, m2, -⟩ := hcw.cells
      have hq := hcw.mc.look hb2
      rw [hjk] at hq
      simp only [Option.getD_some] at hq
      have HG1 := Lib.hid (And.intro hg1 hi1)
      subst hIA
      clear hic0 hb hiF hg1 hi1 hulr hmem c1 c2 c3 c4 c5 c6 hbl hj hjk hf hfb hlk hstep hs hcw HA
      generalize (R.take k).foldl cleanB st = stk at *
      go_wp2_with (go_at_call 81; refine cC.out.mono ?_; rintro e w2 ⟨rfl, ha⟩; have HA2 := Lib.hid ha; clear ha)
      go_roundg (N - (k + 1))
      case measure => omega
      case rel =>
        refine ⟨k + 1, hlt, rfl, by go_num, ?_⟩
        unfold Hid
        rw [HST.out]
        obtain ⟨⟨F2, k1, k2⟩, k3⟩ := HA2.out
        refine ⟨⟨F2, k1, fun x hx => ?_⟩, into_more HG1.out.2 k3 HG1.out.1⟩
        rcases k2 x hx with h' | h'
        · exact HG1.out.1 x h'
        · exact .inr (Nat.le_trans HG1.out.2.size h')
    · obtain rfl : k = N := by omega
      have e : (R.take k).foldl cleanB st = flushT st := by rw [List.take_of_length_le (by rw [← HN.out]; exact Nat.le_refl _), HRW.out]; rfl
      have HA2 := HA.out
      rw [e] at HA2
      go_wp2_with fail
      go_ret
      exact ⟨rfl, Aft.behind HB1.out HA2⟩
end
end Ca
end Go.Proofs.Ytjnbdmimflhhiaa
