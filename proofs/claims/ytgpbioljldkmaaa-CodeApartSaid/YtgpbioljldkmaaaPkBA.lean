/-
  CodeCalls, CodeLaw, CodeLaw1, CodeLaw2. Put together by pack.py.
-/
import Derived.Test.YtgpbioljldkmaaaPkAV
import Derived.Test.YtgpbioljldkmaaaPqCodeD7

namespace Go.Proofs.Ytgpbioljldkmaaa
open Go.RowKit
namespace No
open Mem Lx Bu Lf Fa
/-- what read tells, by its cells -/
def RdT (c : Cfg) (b : List UInt8) (lv : Int) (z : At) (kn pn bn qn : Nat) (ok : Bool) (w : World) : Prop := ∃ n, (n.lv = lv ∧ n.kids.length = kn ∧ n.piv.length = pn ∧ n.buf.length = bn ∧ n.prs.length = qn) ∧ NdIn w n z ∧ EvRead c b n ok
set_option maxRecDepth 100000 in
set_option maxHeartbeats 8000000 in
theorem Decode_c (c : Cfg) {A : Option Addr} {cap : Nat} {b : List UInt8} {W : World} (h : BL W A b) (hb : b.length ≤ 4000) (_ : b.length ≤ cap) (hc : c.bytes ≤ 3000) : Calls Try.prog 9 #[.agg (cfCs c), .slice A b.length cap] W fun e w' => (∃ v, e = .returned v ∧ EvDec c b v w') ∧ Below W.heap.size W w' := by
  by_cases hcr : Cf.Right c.blocks c.bytes c.frames c.fan c.buffer c.leaf c.key c.val
  case neg =>
    have cQ : ∀ w, Hid (Calls Try.prog 10 #[.agg (cfCs c)] w fun e w' => e = .returned (.int .i64 2) ∧ Below w.heap.size w w') := fun w => Cf.Check_no c.blocks c.bytes c.frames c.fan c.buffer c.leaf c.key c.val w hcr
    have HN : Hid (∀ {w}, EvDec c b (.tuple #[.agg #[.int .i64 0, .slice none 0 0, .slice none 0 0, .slice none 0 0, .slice none 0 0], .int .i64 2]) w) := fun {w} => ⟨nilN, 2, ⟨none, 0, none, 0, none, 0, none, 0⟩, rfl, NdIn.nil w, .inl ⟨hcr, rfl, rfl⟩⟩
    generalize EvDec c b = E at *
    generalize b.length = bn at *
    clear h hb hc hcr
    obtain ⟨cB, cY, cF, cN, cU, cL, cKy, cV⟩ := c
    unfold cfCs at *
    simp only at *
    go_enter Try.func9, Try.ntmps9
    go_upto_region 1 with fail
    have HB := Lib.hid (Bx2.new W (.cells #[.int .i64 cB, .int .i64 cY, .int .i64 cF, .int .i64 cN, .int .i64 cU, .int .i64 cL, .int .i64 cKy, .int .i64 cV] 23) (.cells #[.int .i64 0, .slice none 0 0, .slice none 0 0, .slice none 0 0, .slice none 0 0] 29))
    generalize (W.alloc (.cells #[.int .i64 cB, .int .i64 cY, .int .i64 cF, .int .i64 cN, .int .i64 cU, .int .i64 cL, .int .i64 cKy, .int .i64 cV] 23)).alloc (.cells #[.int .i64 0, .slice none 0 0, .slice none 0 0, .slice none 0 0, .slice none 0 0] 29) = w1 at *
    obtain ⟨g, hg⟩ : ∃ g, g = W.heap.size := ⟨_, rfl⟩
    rw [← hg] at HB
    have HWG : Hid (W.heap.size ≤ g) := Nat.le_of_eq hg.symm
    simp only [← hg]
    clear hg
    obtain ⟨g0, g1, g2, g3, g4, g5, g6, g7⟩ := box8 HB.out.x
    go_upto_region 2 with (go_at_call 10; refine (cQ _).out.mono ?_; rintro e w2 ⟨rfl, hb⟩; replace HB := Lib.hid (HB.out.kept hb); clear hb cQ g0 g1 g2 g3 g4 g5 g6 g7)
    obtain ⟨y0, y1, y2, y3, y4⟩ := box5 HB.out.y
    have f0 := free5 HB.out.y 0; have f1 := free5 HB.out.y 1; have f2 := free5 HB.out.y 2; have f3 := free5 HB.out.y 3; have f4 := free5 HB.out.y 4
    have HU := Lib.hid (set5_at HB.out.y (.int .i64 0) (.slice none 0 0) (.slice none 0 0) (.slice none 0 0) (.slice none 0 0))
    have HBW := Lib.hid (set5_below HB.out.below (Nat.le_succ_of_le HWG.out) (.int .i64 0) (.slice none 0 0) (.slice none 0 0) (.slice none 0 0) (.slice none 0 0))
    unfold set5 at HU HBW
    go_wp2_with fail
    generalize ((((w2.setCell ⟨g + 1, 0, none⟩ (.int .i64 0)).setCell ⟨g + 1, 1, none⟩ (.slice none 0 0)).setCell ⟨g + 1, 2, none⟩ (.slice none 0 0)).setCell ⟨g + 1, 3, none⟩ (.slice none 0 0)).setCell ⟨g + 1, 4, none⟩ (.slice none 0 0) = w91 at *
    clear y0 y1 y2 y3 y4 f0 f1 f2 f3 f4
    obtain ⟨y0, y1, y2, y3, y4⟩ := box5 HU.out
    exact bodyPost_ret (v := .tuple #[.agg #[.int .i64 0, .slice none 0 0, .slice none 0 0, .slice none 0 0, .slice none 0 0], .int .i64 2]) (by simp [results, Try.results9, go_sem, y0, y1, y2, y3, y4]) rfl ⟨⟨_, rfl, HN.out⟩, HBW.out⟩
  have cQ : ∀ w, Hid (Calls Try.prog 10 #[.agg (cfCs c)] w fun e w' => e = .returned (.int .i64 0) ∧ Below w.heap.size w w') := fun w => Cf.Check_yes c.blocks c.bytes c.frames c.fan c.buffer c.leaf c.key c.val w hcr
  obtain ⟨F, Bf, Lf', K, V, hs⟩ := set_ok hcr
  have cRd : ∀ w, Below W.heap.size W w → Hid (Calls Try.prog 17 #[.agg (cfCs c), .slice A b.length cap] w fun e w' => (∃ lv kA kn kc pA pn pc bA bn bc qA qn qc ok, e = .returned (.tuple #[.agg #[.int .i64 lv, .slice kA kn kc, .slice pA pn pc, .slice bA bn bc, .slice qA qn qc], .bool ok]) ∧ RdT c b lv ⟨kA, kc, pA, pc, bA, bc, qA, qc⟩ kn pn bn qn ok w') ∧ Below w.heap.size w w') := fun w hw => by
    have hl : b.length = c.bytes.toNat ∨ b.length ≠ c.bytes.toNat := by omega
    have h9 : Calls Try.prog 17 #[.agg (cfCs c), .slice A b.length cap] w fun e w' => ∃ n z ok, e = .returned (.tuple #[.agg (ndCs n z), .bool ok]) ∧ NdIn w' n z ∧ Below w.heap.size w w' ∧ EvRead c b n ok := by
      rcases hl with hl | hl
      · exact Read_long c hs (h.below hw) hb hc hl
      · exact Read_short c hs (h.below hw) hb hc hl
    exact h9.mono fun e w' ⟨n, z, ok, he, h1, h2, h3⟩ => ⟨⟨n.lv, z.kA, n.kids.length, z.kc, z.pA, n.piv.length, z.pc, z.bA, n.buf.length, z.bc, z.qA, n.prs.length, z.qc, ok, he, n, ⟨rfl, rfl, rfl, rfl, rfl⟩, h1, h3⟩, h2⟩
  have cIs : ∀ n, ∃ t : Bool, (t = true ↔ RightN c ⟨#[]⟩ ⟨#[]⟩ true n) ∧ ∀ z w, NdIn w n z → Sz n → n.kids.length ≤ 80 → (∀ k, k ∈ n.kids → k < 4294967296) → Hid (Calls Try.prog 11 #[.agg (cfCs c), .agg (ndCs n z)] w fun e w' => e = .returned (.bool t) ∧ Below w.heap.size w w') := fun n => by
    obtain ⟨t, ht⟩ := bool_of (RightN c ⟨#[]⟩ ⟨#[]⟩ true n)
    exact ⟨t, ht, fun z w h1 h2 h3 h4 => IsRight_any c h1 h2 h3 h4 t ht⟩
  have HN : Hid (∀ {w}, (∀ m, ¬ (RightA c m ∧ blockL c m = b)) → EvDec c b (.tuple #[.agg #[.int .i64 0, .slice none 0 0, .slice none 0 0, .slice none 0 0, .slice none 0 0], .int .i64 12]) w) := fun {w} hno => ⟨nilN, 12, ⟨none, 0, none, 0, none, 0, none, 0⟩, rfl, NdIn.nil w, .inr (.inl ⟨hcr, hno, rfl, rfl⟩)⟩
  have HY : Hid (∀ {w n z}, NdIn w n z → RightN c ⟨#[]⟩ ⟨#[]⟩ true n → blockL c n = b → EvDec c b (.tuple #[.agg (ndCs n z), .int .i64 0]) w) := fun {w n z} h1 h2 h3 => ⟨n, 0, z, rfl, h1, .inr (.inr ⟨⟨hcr, h2⟩, h3, rfl⟩)⟩
  generalize EvDec c b = E at *
  generalize hbl : b.length = bl at *
  clear h hb hc hs hcr hbl
  have HCC : Hid (∃ c', c' = c) := ⟨c, rfl⟩
  obtain ⟨c', hcc⟩ := HCC.out
  rw [← hcc] at cIs cRd HN HY
  obtain ⟨cB, cY, cF, cN, cU, cL, cKy, cV⟩ := c
  have hcf : cfCs c' = #[.int .i64 cB, .int .i64 cY, .int .i64 cF, .int .i64 cN, .int .i64 cU, .int .i64 cL, .int .i64 cKy, .int .i64 cV] := by rw [hcc]; rfl
  rw [hcf] at cRd
  unfold cfCs at cQ
  simp only [hcf] at cIs
  unfold cfCs
  simp only at *
  clear HCC hcc hcf
  go_enter Try.func9, Try.ntmps9
  go_upto_region 1 with fail
  have HB := Lib.hid (Bx2.new W (.cells #[.int .i64 cB, .int .i64 cY, .int .i64 cF, .int .i64 cN, .int .i64 cU, .int .i64 cL, .int .i64 cKy, .int .i64 cV] 23) (.cells #[.int .i64 0, .slice none 0 0, .slice none 0 0, .slice none 0 0, .slice none 0 0] 29))
  generalize (W.alloc (.cells #[.int .i64 cB, .int .i64 cY, .int .i64 cF, .int .i64 cN, .int .i64 cU, .int .i64 cL, .int .i64 cKy, .int .i64 cV] 23)).alloc (.cells #[.int .i64 0, .slice none 0 0, .slice none 0 0, .slice none 0 0, .slice none 0 0] 29) = w1 at *
  obtain ⟨g, hg⟩ : ∃ g, g = W.heap.size := ⟨_, rfl⟩
  rw [← hg] at HB
  have HWG : Hid (W.heap.size ≤ g) := Nat.le_of_eq hg.symm
  simp only [← hg]
  clear hg
  obtain ⟨g0, g1, g2, g3, g4, g5, g6, g7⟩ := box8 HB.out.x
  go_upto_region 3 with (go_at_call 10; refine (cQ _).out.mono ?_; rintro e w2 ⟨rfl, hb⟩; replace HB := Lib.hid (HB.out.kept hb); clear hb cQ g0 g1 g2 g3 g4 g5 g6 g7)
  obtain ⟨g0, g1, g2, g3, g4, g5, g6, g7⟩ := box8 HB.out.x
  go_upto_region 4 with (go_at_call 17; refine (cRd _ HB.out.below).out.mono ?_; rintro e w3 ⟨⟨lv, kA, kn, kc, pA, pn, pc, bA, bn, bc, qA, qn, qc, ok, rfl, n, heq, hni, her⟩, hb⟩; replace HB := Lib.hid (HB.out.kept hb); have HEQ := Lib.hid heq; have HNI := Lib.hid hni; have HER := Lib.hid her; clear heq hni her hb cRd g0 g1 g2 g3 g4 g5 g6 g7)
  have hxn := heap_alloc_new w3 (.cells #[.int .i64 lv, .slice kA kn kc, .slice pA pn pc, .slice bA bn bc, .slice qA qn qc] 29)
  have hbl : Below w3.heap.size w3 (w3.alloc (.cells #[.int .i64 lv, .slice kA kn kc, .slice pA pn pc, .slice bA bn bc, .slice qA qn qc] 29)) := (Below.refl _ _).alloc (Nat.le_refl _) _
  have HNB : Hid (g + 1 < w3.heap.size) := (Array.getElem?_eq_some_iff.1 HB.out.y).1
  generalize w3.alloc (.cells #[.int .i64 lv, .slice kA kn kc, .slice pA pn pc, .slice bA bn bc, .slice qA qn qc] 29) = w4 at *
  obtain ⟨nb, hnb⟩ : ∃ nb, nb = w3.heap.size := ⟨_, rfl⟩
  rw [← hnb] at hxn HNB
  simp only [← hnb]
  have HXN := Lib.hid hxn
  replace HB := Lib.hid (HB.out.kept hbl)
  replace HNI := Lib.hid (HNI.out.kept hbl)
  clear hxn hbl hnb
  cases ok with
  | false =>
    have HN2 : Hid (∀ {w}, E (.tuple #[.agg #[.int .i64 0, .slice none 0 0, .slice none 0 0, .slice none 0 0, .slice none 0 0], .int .i64 12]) w) := HN.out fun m hm => HER.out.2 rfl m hm.1 hm.2
    clear HN HY cIs HER
    go_upto_region 5 with fail
    obtain ⟨y0, y1, y2, y3, y4⟩ := box5 HB.out.y
    have f0 := free5 HB.out.y 0; have f1 := free5 HB.out.y 1; have f2 := free5 HB.out.y 2; have f3 := free5 HB.out.y 3; have f4 := free5 HB.out.y 4
    have HU := Lib.hid (set5_at HB.out.y (.int .i64 0) (.slice none 0 0) (.slice none 0 0) (.slice none 0 0) (.slice none 0 0))
    have HBW := Lib.hid (set5_below HB.out.below (Nat.le_succ_of_le HWG.out) (.int .i64 0) (.slice none 0 0) (.slice none 0 0) (.slice none 0 0) (.slice none 0 0))
    unfold set5 at HU HBW
    go_wp2_with fail
    generalize ((((w4.setCell ⟨g + 1, 0, none⟩ (.int .i64 0)).setCell ⟨g + 1, 1, none⟩ (.slice none 0 0)).setCell ⟨g + 1, 2, none⟩ (.slice none 0 0)).setCell ⟨g + 1, 3, none⟩ (.slice none 0 0)).setCell ⟨g + 1, 4, none⟩ (.slice none 0 0) = w91 at *
    clear y0 y1 y2 y3 y4 f0 f1 f2 f3 f4
    obtain ⟨y0, y1, y2, y3, y4⟩ := box5 HU.out
    exact bodyPost_ret (v := .tuple #[.agg #[.int .i64 0, .slice none 0 0, .slice none 0 0, .slice none 0 0, .slice none 0 0], .int .i64 12]) (by simp [results, Try.results9, go_sem, y0, y1, y2, y3, y4]) rfl ⟨⟨_, rfl, HN2.out⟩, HBW.out⟩
  | true =>
    obtain ⟨h1, ⟨h2, h3, h4⟩, h5⟩ := HER.out.1 rfl
    obtain ⟨t, ht, cI⟩ := cIs n
    have cI2 : ∀ w, NdIn w n ⟨kA, kc, pA, pc, bA, bc, qA, qc⟩ → Hid (Calls Try.prog 11 #[.agg #[.int .i64 cB, .int .i64 cY, .int .i64 cF, .int .i64 cN, .int .i64 cU, .int .i64 cL, .int .i64 cKy, .int .i64 cV], .agg #[.int .i64 lv, .slice kA kn kc, .slice pA pn pc, .slice bA bn bc, .slice qA qn qc]] w fun e w' => e = .returned (.bool t) ∧ Below w.heap.size w w') := fun w h => by
      have h9 := cI _ w h h2 h3 h4
      obtain ⟨q1, q2, q3, q4, q5⟩ := HEQ.out
      unfold ndCs at h9
      simp only [q1, q2, q3, q4, q5] at h9
      exact h9
    obtain ⟨g0, g1, g2, g3, g4, g5, g6, g7⟩ := box8 HB.out.x
    obtain ⟨z0, z1, z2, z3, z4⟩ := box5 HXN.out
    have HB1 := Lib.hid h1
    have HB5 := Lib.hid h5
    have HT := Lib.hid ht
    clear h1 h2 h3 h4 h5 ht cI cIs HER
    cases t with
    | false =>
      have HN2 : Hid (∀ {w}, E (.tuple #[.agg #[.int .i64 0, .slice none 0 0, .slice none 0 0, .slice none 0 0, .slice none 0 0], .int .i64 12]) w) := HN.out fun m hm => by
        have h9 := HB5.out m hm.1 hm.2
        subst h9
        cases HT.out.2 hm.1.2
      clear HN HY HB5 HT
      go_upto_region 5 with (go_at_call 11; refine (cI2 _ HNI.out).out.mono ?_; rintro e w5 ⟨rfl, hb⟩; replace HB := Lib.hid (HB.out.kept hb); clear hb cI2 g0 g1 g2 g3 g4 g5 g6 g7 z0 z1 z2 z3 z4)
      obtain ⟨y0, y1, y2, y3, y4⟩ := box5 HB.out.y
      have f0 := free5 HB.out.y 0; have f1 := free5 HB.out.y 1; have f2 := free5 HB.out.y 2; have f3 := free5 HB.out.y 3; have f4 := free5 HB.out.y 4
      have HU := Lib.hid (set5_at HB.out.y (.int .i64 0) (.slice none 0 0) (.slice none 0 0) (.slice none 0 0) (.slice none 0 0))
      have HBW := Lib.hid (set5_below HB.out.below (Nat.le_succ_of_le HWG.out) (.int .i64 0) (.slice none 0 0) (.slice none 0 0) (.slice none 0 0) (.slice none 0 0))
      unfold set5 at HU HBW
      go_wp2_with fail
      generalize ((((w5.setCell ⟨g + 1, 0, none⟩ (.int .i64 0)).setCell ⟨g + 1, 1, none⟩ (.slice none 0 0)).setCell ⟨g + 1, 2, none⟩ (.slice none 0 0)).setCell ⟨g + 1, 3, none⟩ (.slice none 0 0)).setCell ⟨g + 1, 4, none⟩ (.slice none 0 0) = w91 at *
      clear y0 y1 y2 y3 y4 f0 f1 f2 f3 f4
      obtain ⟨y0, y1, y2, y3, y4⟩ := box5 HU.out
      exact bodyPost_ret (v := .tuple #[.agg #[.int .i64 0, .slice none 0 0, .slice none 0 0, .slice none 0 0, .slice none 0 0], .int .i64 12]) (by simp [results, Try.results9, go_sem, y0, y1, y2, y3, y4]) rfl ⟨⟨_, rfl, HN2.out⟩, HBW.out⟩
    | true =>
      go_upto_region 6 with (go_at_call 11; refine (cI2 _ HNI.out).out.mono ?_; rintro e w5 ⟨rfl, hb⟩; replace HB := Lib.hid (HB.out.kept hb); replace HNI := Lib.hid (HNI.out.kept hb); replace HXN := Lib.hid (kept3 HXN.out hb); clear hb cI2 g0 g1 g2 g3 g4 g5 g6 g7 z0 z1 z2 z3 z4)
      obtain ⟨z0, z1, z2, z3, z4⟩ := box5 HXN.out
      have hnb : g + 1 < nb := HNB.out
      obtain ⟨y0, y1, y2, y3, y4⟩ := box5 HB.out.y
      have f0 := free5 HB.out.y 0; have f1 := free5 HB.out.y 1; have f2 := free5 HB.out.y 2; have f3 := free5 HB.out.y 3; have f4 := free5 HB.out.y 4
      have HU := Lib.hid (set5_at HB.out.y (.int .i64 lv) (.slice kA kn kc) (.slice pA pn pc) (.slice bA bn bc) (.slice qA qn qc))
      have HBW := Lib.hid (set5_below HB.out.below (Nat.le_succ_of_le HWG.out) (.int .i64 lv) (.slice kA kn kc) (.slice pA pn pc) (.slice bA bn bc) (.slice qA qn qc))
      have HI9 := Lib.hid (into_set5 w5 (g + 1) (.int .i64 lv) (.slice kA kn kc) (.slice pA pn pc) (.slice bA bn bc) (.slice qA qn qc))
      have HNF : Hid (NdIn (set5 w5 (g + 1) (.int .i64 lv) (.slice kA kn kc) (.slice pA pn pc) (.slice bA bn bc) (.slice qA qn qc)) n ⟨kA, kc, pA, pc, bA, bc, qA, qc⟩) := nd_box HNI.out HI9.out (IsBox.of HB.out.y).one
      unfold set5 at HU HBW HNF HI9
      go_wp2_with fail
      generalize ((((w5.setCell ⟨g + 1, 0, none⟩ (.int .i64 lv)).setCell ⟨g + 1, 1, none⟩ (.slice kA kn kc)).setCell ⟨g + 1, 2, none⟩ (.slice pA pn pc)).setCell ⟨g + 1, 3, none⟩ (.slice bA bn bc)).setCell ⟨g + 1, 4, none⟩ (.slice qA qn qc) = w91 at *
      clear y0 y1 y2 y3 y4 f0 f1 f2 f3 f4 z0 z1 z2 z3 z4
      obtain ⟨y0, y1, y2, y3, y4⟩ := box5 HU.out
      have hfin := HY.out HNF.out (HT.out.1 (by simp)) HB1.out
      obtain ⟨q1, q2, q3, q4, q5⟩ := HEQ.out
      unfold ndCs at hfin
      simp only [q1, q2, q3, q4, q5] at hfin
      have HFIN := Lib.hid hfin
      clear hfin q1 q2 q3 q4 q5
      exact bodyPost_ret (v := .tuple #[.agg #[.int .i64 lv, .slice kA kn kc, .slice pA pn pc, .slice bA bn bc, .slice qA qn qc], .int .i64 0]) (by simp [results, Try.results9, go_sem, y0, y1, y2, y3, y4]) rfl ⟨⟨_, rfl, HFIN.out⟩, HBW.out⟩
end No
end Go.Proofs.Ytgpbioljldkmaaa

namespace Go.Proofs.Ytgpbioljldkmaaa
open Go.RowKit
namespace No
open Mem Lx Bu Lf Fa
set_option maxRecDepth 100000 in
set_option maxHeartbeats 8000000 in
theorem CAwake_any (W : World) : Calls Try.prog 6 #[] W fun e w' => e = .returned (.bool true) ∧ Below W.heap.size W w' := by
  obtain ⟨bl, hbl⟩ : ∃ b, b = blockL cC cN := ⟨_, rfl⟩
  have hb15 : bl.take 15 = [1, 0, 0, 1, 0, 0, 0, 0, 1, 0, 1, 97, 0, 55, 0] := by rw [hbl]; exact c_block.1
  have hb200 : bl.length = 200 := by rw [hbl]; exact c_block.2
  have cE : ∀ (w : World) (z : At), NdIn w cN z → Hid (Calls Try.prog 7 #[.agg #[.int .i64 9, .int .i64 200, .int .i64 8, .int .i64 8, .int .i64 16, .int .i64 16, .int .i64 2, .int .i64 1], .agg (ndCs cN z)] w fun e w' => (∃ A cap, e = .returned (.tuple #[.slice A 200 cap, .int .i64 0]) ∧ FrB w' w.heap.size A bl ∧ 200 ≤ cap) ∧ Below w.heap.size w w') := fun w z h => (Encode_c cC h c_sz (by decide) (by decide +kernel) (by decide) c_enc).mono fun e w' ⟨⟨A, cap, he, h1, h2⟩, hb⟩ => by
    rw [← hbl, hb200] at he h2
    rw [← hbl] at h1
    exact ⟨⟨A, cap, he, h1, h2⟩, hb⟩
  have cD : ∀ (w : World) (A : Option Addr) (cap : Nat), BL w A bl → 200 ≤ cap → Hid (Calls Try.prog 9 #[.agg #[.int .i64 9, .int .i64 200, .int .i64 8, .int .i64 8, .int .i64 16, .int .i64 16, .int .i64 2, .int .i64 1], .slice A 200 cap] w fun e w' => (∃ z : At, e = .returned (.tuple #[.agg #[.int .i64 0, .slice z.kA 0 z.kc, .slice z.pA 0 z.pc, .slice z.bA 0 z.bc, .slice z.qA 1 z.qc], .int .i64 0]) ∧ NdIn w' cN z) ∧ Below w.heap.size w w') := fun w A cap h hcap => by
    have h9 := Decode_c cC (cap := cap) h (by omega) (by omega) (by decide)
    rw [hb200] at h9
    refine h9.mono fun e w' ⟨⟨v, he, n, f, z, hv, hn, hd⟩, hb⟩ => ?_
    rw [hbl] at hd
    obtain ⟨rfl, rfl⟩ := hd.one c_dec
    exact ⟨⟨z, by rw [he, hv]; rfl, hn⟩, hb⟩
  have HTX : Hid (strOf (bl.take 15) = ⟨#[1, 0, 0, 1, 0, 0, 0, 0, 1, 0, 1, 97, 0, 55, 0]⟩) := by
    unfold Hid
    rw [hb15]
    rfl
  have HL15 : Hid ((bl.take 15).length = 15) := by
    unfold Hid
    rw [hb15]
    rfl
  clear hb15 hb200 hbl
  go_enter Try.func6, Try.ntmps6
  go_upto_region 2 with fail
  have hx := heap_alloc_new W (.cells #[.int .i64 9, .int .i64 200, .int .i64 8, .int .i64 8, .int .i64 16, .int .i64 16, .int .i64 2, .int .i64 1] 23)
  have hb0 : Below W.heap.size W (W.alloc (.cells #[.int .i64 9, .int .i64 200, .int .i64 8, .int .i64 8, .int .i64 16, .int .i64 16, .int .i64 2, .int .i64 1] 23)) := (Below.refl _ _).alloc (Nat.le_refl _) _
  generalize W.alloc (.cells #[.int .i64 9, .int .i64 200, .int .i64 8, .int .i64 8, .int .i64 16, .int .i64 16, .int .i64 2, .int .i64 1] 23) = w1 at *
  obtain ⟨g, hg⟩ : ∃ g, g = W.heap.size := ⟨_, rfl⟩
  simp only [← hg] at hx ⊢
  clear hg
  have HX := Lib.hid hx
  have HB := Lib.hid hb0
  clear hx hb0
  obtain ⟨g0, g1, g2, g3, g4, g5, g6, g7⟩ := box8 HX.out
  have hp := heap_alloc_new w1 (.cells #[.string ⟨#[97]⟩, .string ⟨#[55]⟩] 42)
  have hbp : Below w1.heap.size w1 (w1.alloc (.cells #[.string ⟨#[97]⟩, .string ⟨#[55]⟩] 42)) := (Below.refl _ _).alloc (Nat.le_refl _) _
  obtain ⟨z0, hz0⟩ : ∃ z : At, z = ⟨none, 0, none, 0, none, 0, some ⟨w1.heap.size, 0, none⟩, 1⟩ := ⟨_, rfl⟩
  have hni : NdIn (w1.alloc (.cells #[.string ⟨#[97]⟩, .string ⟨#[55]⟩] 42)) cN z0 := by
    subst hz0
    exact ⟨RC.nil _ _ _, RC.nil _ _ _, RC.nil _ _ _, ⟨rd_block hp, Nat.le_refl _⟩⟩
  have cE1 := (cE _ z0 hni).out
  have hv : ndCs cN z0 = #[.int .i64 0, .slice none 0 0, .slice none 0 0, .slice none 0 0, .slice (some ⟨w1.heap.size, 0, none⟩) 1 1] := by
    subst hz0
    rfl
  rw [hv] at cE1
  have HE := Lib.hid cE1
  have HBP := Lib.hid hbp
  clear cE cE1 hv hni hz0 hp hbp
  go_upto_region 3 with (go_at_call 7; refine HE.out.mono ?_; rintro e w2 ⟨⟨A, cap, rfl, hf, hcap⟩, hb⟩; have hb' := HBP.out.trans (hb.mono HBP.out.size); replace HX := Lib.hid (kept3 HX.out hb'); replace HB := Lib.hid (HB.out.trans (hb'.mono HB.out.size)); have HF := Lib.hid hf.bl; clear hf hb hb' HE HBP g0 g1 g2 g3 g4 g5 g6 g7; obtain ⟨g0, g1, g2, g3, g4, g5, g6, g7⟩ := box8 HX.out)
  go_upto_region 4 with (go_at_call 9; refine (cD _ _ _ HF.out hcap).out.mono ?_; rintro e w3 ⟨⟨z, rfl, hn⟩, hb⟩; replace HB := Lib.hid (HB.out.trans (hb.mono HB.out.size)); replace HF := Lib.hid (HF.out.below hb); have HN := Lib.hid hn; clear hn hb cD HX g0 g1 g2 g3 g4 g5 g6 g7)
  have hm := heap_alloc_new w3 (.cells #[.int .i64 0, .slice z.kA 0 z.kc, .slice z.pA 0 z.pc, .slice z.bA 0 z.bc, .slice z.qA 1 z.qc] 29)
  have hbm : Below w3.heap.size w3 (w3.alloc (.cells #[.int .i64 0, .slice z.kA 0 z.kc, .slice z.pA 0 z.pc, .slice z.bA 0 z.bc, .slice z.qA 1 z.qc] 29)) := (Below.refl _ _).alloc (Nat.le_refl _) _
  generalize w3.alloc (.cells #[.int .i64 0, .slice z.kA 0 z.kc, .slice z.pA 0 z.pc, .slice z.bA 0 z.bc, .slice z.qA 1 z.qc] 29) = w4 at *
  obtain ⟨q, hq⟩ : ∃ q, q = w3.heap.size := ⟨_, rfl⟩
  simp only [← hq] at hm ⊢
  clear hq
  replace HB := Lib.hid (HB.out.trans (hbm.mono HB.out.size))
  replace HF := Lib.hid (HF.out.below hbm)
  replace HN := Lib.hid (HN.out.kept hbm)
  obtain ⟨m0, m1, m2, m3, m4⟩ := box5 hm
  obtain ⟨b', o', hbo, -, y0, y1⟩ := RdK.pair HN.out.prs.1 (i := 0) (m := (⟨#[97]⟩, ⟨#[55]⟩)) rfl
  simp only [hbo] at m4
  rw [Nat.zero_mul, Nat.add_zero] at y0 y1
  obtain ⟨i0, hi0, -, -, -⟩ := info_parts Wd.u8info
  have r15 : ∀ w, (Instr.slice 33 (.slice A 200 cap) none (some (.int .i64 15)) none).run Try.prog w = .ok (.slice A 15 cap) w := fun w => run_upTo (P := Try.prog) Try.underlying33 hi0 A 200 cap 15 (by omega) w
  clear hi0
  have rt := run_text_n (P := Try.prog) Try.underlying33 Try.underlying5 Try.underlying9 (HF.out.take 15) HL15.out cap
  rw [HTX.out] at rt
  clear hm hbm HF HN HL15 HTX
  go_wp2_with fail
  go_ret
  exact ⟨rfl, HB.out⟩
end No
end Go.Proofs.Ytgpbioljldkmaaa

namespace Go.Proofs.Ytgpbioljldkmaaa
open Go.RowKit
namespace No
open Mem Lx Bu Lf Fa
theorem Fit.sz {n : Nd} (h : Fit n) : Sz n := ⟨fun p hp => Nat.le_trans (h.pk p hp) (by decide), fun m hm => Nat.le_trans (h.bk m hm) (by decide), fun m hm => Nat.le_trans (h.qk m hm) (by decide), Nat.le_trans h.kids (by decide), Nat.le_trans h.piv (by decide), Nat.le_trans h.buf (by decide), Nat.le_trans h.prs (by decide)⟩
end No
end Go.Proofs.Ytgpbioljldkmaaa

namespace Go.Proofs.Ytgpbioljldkmaaa
open Go.RowKit
namespace No
open Mem Lx Bu Lf Fa
theorem DecP.some (c : Cfg) (b : List UInt8) : ∃ n f, DecP c b n f := by
  by_cases h1 : Cf.Right c.blocks c.bytes c.frames c.fan c.buffer c.leaf c.key c.val
  · by_cases h2 : ∃ m, RightA c m ∧ blockL c m = b
    · obtain ⟨m, h3, h4⟩ := h2
      exact ⟨m, 0, .inr (.inr ⟨h3, h4, rfl⟩)⟩
    · exact ⟨nilN, 12, .inr (.inl ⟨h1, fun m h => h2 ⟨m, h⟩, rfl, rfl⟩)⟩
  · exact ⟨nilN, 2, .inl ⟨h1, rfl, rfl⟩⟩
end No
end Go.Proofs.Ytgpbioljldkmaaa
