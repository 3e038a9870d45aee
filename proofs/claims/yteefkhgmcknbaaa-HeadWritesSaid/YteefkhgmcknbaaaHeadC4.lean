/-
  The code's head: Decode. Written by scripts/headc4.py.
-/
import Derived.Test.YteefkhgmcknbaaaHeadC3
import Derived.Test.YteefkhgmcknbaaaHeadD
namespace Go.Proofs.Yteefkhgmcknbaaa
open Go.RowKit
namespace No
open Mem Bu
open Wd (be val be_length val_be isW St takeS numS zerosS textS endS Only Rd)
open Ck (more more_lt)
theorem bg_magic (bg : List UInt8) : (strOf bg).toList = [83, 76, 85, 73, 67, 69, 48, 49] ↔ bg = magicL := by
  have e : (strOf bg).toList = bg := by
    have h := ByteArray.toList_eq (strOf bg)
    exact h
  rw [e]
  exact Iff.rfl
/-- what Decode keeps: the result's box at g, the reader at q -/
structure Db (W : World) (g q : Nat) (s : St) (w : World) : Prop where
  z : w.heap[g]? = some (.cells #[.int .i64 0, .int .i64 0, .int .i64 0, .int .i64 0, .int .i64 0, .int .i64 0, .int .i64 0, .int .i64 0, .int .u32 0, .int .i64 0] 26 (0, 0))
  rd : Rd 73 w q s
  below : Below W.heap.size W w
  gt : g < q
  ge : W.heap.size ≤ g
section
variable {W w w' : World} {g q : Nat} {s s' : St}
theorem Db.only_ (h : Db W g q s w) (ho : Only q w w') (hr : Rd 73 w' q s') : Db W g q s' w' := by
  have h1 := h.gt
  have h2 := h.ge
  refine ⟨box_only h.z ho (Nat.ne_of_lt h1), hr, ⟨ho.os.trans h.below.os, ho.tape.trans h.below.tape, ho.output.trans h.below.output, Nat.le_trans h.below.size ho.size, fun k hk => (ho.block k (Nat.lt_of_lt_of_le hk h.below.size) ?_).trans (h.below.block k hk)⟩, h1, h2⟩
  simp only [List.mem_singleton]
  omega
theorem Db.keep (h : Db W g q s w) (hb : Below w.heap.size w w') : Db W g q s w' := ⟨kept3 h.z hb, h.rd.keep hb, h.below.trans (hb.mono h.below.size), h.gt, h.ge⟩
end
set_option maxRecDepth 100000 in
set_option maxHeartbeats 4000000 in
theorem HDecode_c {A : Option Addr} {cap : Nat} {b : List UInt8} {W : World} (h : BL W A b) (hb : b.length ≤ 70000) (hcap : b.length ≤ cap) (k : Hdr) (p : Bool) (hp : HdP b k p) : Calls Try.prog 12 #[.slice A b.length cap] W fun e w' => e = .returned (.tuple #[.agg (hdCs k), .int .i64 (okE p)]) ∧ Below W.heap.size W w' := by
  obtain ⟨⟨s1, bg⟩, h1⟩ : ∃ p, textS ⟨b, 0⟩ 8 8 = p := ⟨_, rfl⟩
  obtain ⟨⟨s2, L⟩, h2⟩ : ∃ p, rdS rdN 10 s1 = p := ⟨_, rfl⟩
  obtain ⟨s3, h3⟩ : ∃ p, zerosS s2 12 = p := ⟨_, rfl⟩
  obtain ⟨⟨s4, sm⟩, h4⟩ : ∃ p, numS s3 (4 : Nat) = p := ⟨_, rfl⟩
  obtain ⟨s5, h5⟩ : ∃ p, zerosS s4 ((L.getD 1 0 : Int) - 64) = p := ⟨_, rfl⟩
  have hrd : HRead b bg L sm s1 s2 s3 s4 s5 := ⟨h1, h2, h3, h4, h5⟩
  have hL := hrd.len
  obtain ⟨hsl, hsm⟩ := hrd.small
  obtain ⟨t, ht⟩ := bool_of (HdOk (hdOf L))
  have HNO : Hid ((endS s5 ≠ 0 ∨ bg ≠ magicL ∨ more 1 (b.take 60) ≠ sm ∨ t = false) → hdCs k = #[.int .i64 0, .int .i64 0, .int .i64 0, .int .i64 0, .int .i64 0, .int .i64 0, .int .i64 0, .int .i64 0, .int .u32 0, .int .i64 0] ∧ p = false) := fun hh => by
    have h9 : HdP b zeroHd false := .inr ⟨rfl, rfl, fun k hk => by
      obtain ⟨a1, a2, a3, a4⟩ := hrd.complete hk.1 hk.2
      rcases hh with hh | hh | hh | hh
      · exact hh a1
      · exact hh a2
      · exact hh a3
      · rw [a4] at ht
        rw [ht.2 hk.1] at hh
        cases hh⟩
    obtain ⟨rfl, rfl⟩ := hp.one h9
    exact ⟨rfl, rfl⟩
  have HYES : Hid (endS s5 = 0 → bg = magicL → more 1 (b.take 60) = sm → t = true → hdCs k = hdCs (hdOf L) ∧ p = true) := fun a1 a2 a3 a4 => by
    have h9 : HdP b (hdOf L) true := .inl ⟨rfl, ht.1 a4, (hrd.sound a1).2 a2 a3⟩
    obtain ⟨rfl, rfl⟩ := hp.one h9
    exact ⟨rfl, rfl⟩
  have HLEN : Hid (endS s5 = 0 → 64 ≤ b.length) := fun a => (hrd.sound a).1
  have cOp : ∀ w, BL w A b → Hid (Calls Try.prog 21 #[.slice A b.length cap] w fun e w' => ∃ g, e = .returned (.pointer (some ⟨g, 0, none⟩)) ∧ Rd 73 w' g ⟨b, 0⟩ ∧ w.heap.size ≤ g ∧ Below w.heap.size w w') := fun w h => Wd.Open_any A cap b w h (by omega)
  have cTx : ∀ w q, Rd 73 w q ⟨b, 0⟩ → Hid (Calls Try.prog 22 #[.pointer (some ⟨q, 0, none⟩), .int .i64 8, .int .i64 8] w fun e w' => e = .returned (.string (strOf bg)) ∧ Rd 73 w' q s1 ∧ Only q w w') := fun w q h => by
    have h9 := Wd.Text_any q ⟨b, 0⟩ 8 8 w h
    rw [h1] at h9
    exact h9
  have cRN : ∀ w q, Rd 73 w q s1 → Hid (Calls Try.prog 24 #[.pointer (some ⟨q, 0, none⟩)] w fun e w' => e = .returned (.agg (numCs L)) ∧ Rd 73 w' q s2 ∧ Only q w w') := fun w q h => by
    have h9 := ReadNumbers_any h
    rw [h2] at h9
    exact h9
  have cHO := fun w => Lib.hid (HeadOf_any L hL hsl w)
  have cZ1 : ∀ w q, Rd 73 w q s2 → Hid (Calls Try.prog 25 #[.pointer (some ⟨q, 0, none⟩), .int .i64 12] w fun e w' => e = .returned (.tuple #[]) ∧ Rd 73 w' q s3 ∧ Only q w w') := fun w q h => by
    have h9 := Wd.Zeros_any q s2 12 w h
    rw [h3] at h9
    exact h9
  have cNm : ∀ w q, Rd 73 w q s3 → Hid (Calls Try.prog 26 #[.pointer (some ⟨q, 0, none⟩), .int .i64 4] w fun e w' => e = .returned (.int .u64 (sm : Int)) ∧ Rd 73 w' q s4 ∧ Only q w w') := fun w q h => by
    have h9 := Wd.Num_any q s3 (4 : Nat) w h
    rw [h4] at h9
    exact h9
  have cZ2 : ∀ w q, Rd 73 w q s4 → Hid (Calls Try.prog 25 #[.pointer (some ⟨q, 0, none⟩), .int .i64 ((L.getD 1 0 : Int) - 64)] w fun e w' => e = .returned (.tuple #[]) ∧ Rd 73 w' q s5 ∧ Only q w w') := fun w q h => by
    have h9 := Wd.Zeros_any q s4 ((L.getD 1 0 : Int) - 64) w h
    rw [h5] at h9
    exact h9
  have cEn := fun w q h => Lib.hid (Wd.End_any q s5 w h)
  have cCk : 60 ≤ cap → 60 ≤ b.length → ∀ w, BL w A b → Hid (Calls Try.prog 28 #[.slice A 60 cap, .int .u32 (sm : Int)] w fun e w' => e = .returned (.bool ((more 1 (b.take 60) : Int) == (sm : Int))) ∧ Below w.heap.size w w') := fun h60 hb60 w h => by
    have hl : (b.take 60).length = 60 := by rw [List.length_take]; omega
    have h9 := Ck.Right_any A cap (b.take 60) (sm : Int) w (h.take 60) (by omega) (by omega)
    rw [hl] at h9
    exact h9
  obtain ⟨x0, x1, x2, x3, x4, x5, x6, x7, x8, x9, rfl⟩ := ten_of hL
  have cRt : ∀ w, Hid (Calls Try.prog 9 #[.agg #[.int .i64 (x0 : Int), .int .i64 (x1 : Int), .int .i64 (x2 : Int), .int .i64 (x3 : Int), .int .i64 (x4 : Int), .int .i64 (x5 : Int), .int .i64 (x6 : Int), .int .i64 (x7 : Int), .int .u32 (x8 : Int), .int .i64 (x9 : Int)]] w fun e w' => e = .returned (.bool t) ∧ Below w.heap.size w w') := fun w => HRight_c (hdOf [x0, x1, x2, x3, x4, x5, x6, x7, x8, x9]) (hsl x8 (by simp)) w t ht
  have hxs := hsl x1 (by simp)
  have hsub : IntKind.i64.wrap ((x1 : Int) - 64) = (x1 : Int) - 64 := by rw [IntKind.wrap_i64]; omega
  have hwx : IntKind.u32.wrap (sm : Int) = (sm : Int) := by rw [IntKind.wrap_u32]; omega
  clear h1 h2 h3 h4 h5 hrd hL hsl hsm hp ht hxs
  replace cHO : ∀ w, Hid (Calls Try.prog 23 #[.agg (numCs [x0, x1, x2, x3, x4, x5, x6, x7, x8, x9])] w fun e w' => e = .returned (.agg #[.int .i64 (x0 : Int), .int .i64 (x1 : Int), .int .i64 (x2 : Int), .int .i64 (x3 : Int), .int .i64 (x4 : Int), .int .i64 (x5 : Int), .int .i64 (x6 : Int), .int .i64 (x7 : Int), .int .u32 (x8 : Int), .int .i64 (x9 : Int)]) ∧ Below w.heap.size w w') := cHO
  replace HYES : Hid (endS s5 = 0 → bg = magicL → more 1 (b.take 60) = sm → t = true → hdCs k = #[.int .i64 (x0 : Int), .int .i64 (x1 : Int), .int .i64 (x2 : Int), .int .i64 (x3 : Int), .int .i64 (x4 : Int), .int .i64 (x5 : Int), .int .i64 (x6 : Int), .int .i64 (x7 : Int), .int .u32 (x8 : Int), .int .i64 (x9 : Int)] ∧ p = true) := HYES
  replace cZ2 : ∀ w q, Rd 73 w q s4 → Hid (Calls Try.prog 25 #[.pointer (some ⟨q, 0, none⟩), .int .i64 ((x1 : Int) - 64)] w fun e w' => e = .returned (.tuple #[]) ∧ Rd 73 w' q s5 ∧ Only q w w') := cZ2
  generalize numCs [x0, x1, x2, x3, x4, x5, x6, x7, x8, x9] = NC at *
  generalize hdCs k = hv at *
  obtain ⟨er, her⟩ : ∃ e, e = endS s5 := ⟨_, rfl⟩
  rw [← her] at HNO HYES HLEN
  simp only [← her] at cEn
  obtain ⟨mm, hmm⟩ : ∃ e, e = more 1 (b.take 60) := ⟨_, rfl⟩
  rw [← hmm] at HNO HYES cCk
  obtain ⟨bn, hbn⟩ : ∃ n, n = b.length := ⟨_, rfl⟩
  rw [← hbn] at HLEN cOp cCk hcap ⊢
  have HBL := Lib.hid h
  have HCAP := Lib.hid hcap
  clear her hmm h hb hcap hbn
  go_enter Try.func12, Try.ntmps12
  go_upto_region 1 with fail
  have hz := heap_alloc_new W (.cells #[.int .i64 0, .int .i64 0, .int .i64 0, .int .i64 0, .int .i64 0, .int .i64 0, .int .i64 0, .int .i64 0, .int .u32 0, .int .i64 0] 26)
  have hb : Below W.heap.size W (W.alloc (.cells #[.int .i64 0, .int .i64 0, .int .i64 0, .int .i64 0, .int .i64 0, .int .i64 0, .int .i64 0, .int .i64 0, .int .u32 0, .int .i64 0] 26)) := (Below.refl _ _).alloc (Nat.le_refl _) _
  have hlt9 : W.heap.size < (W.alloc (.cells #[.int .i64 0, .int .i64 0, .int .i64 0, .int .i64 0, .int .i64 0, .int .i64 0, .int .i64 0, .int .i64 0, .int .u32 0, .int .i64 0] 26)).heap.size := by simp
  generalize W.alloc (.cells #[.int .i64 0, .int .i64 0, .int .i64 0, .int .i64 0, .int .i64 0, .int .i64 0, .int .i64 0, .int .i64 0, .int .u32 0, .int .i64 0] 26) = w1 at *
  obtain ⟨g, hg⟩ : ∃ g, g = W.heap.size := ⟨_, rfl⟩
  have HGE : Hid (W.heap.size ≤ g) := Nat.le_of_eq hg.symm
  rw [← hg] at hz hlt9
  simp only [← hg]
  have HZ := Lib.hid hz
  have HB := Lib.hid hb
  have HGL := Lib.hid hlt9
  clear hz hb hg hlt9
  go_upto_region 2 with (go_at_call 21; refine (cOp _ (HBL.out.below HB.out)).out.mono ?_; rintro e w2 ⟨q, rfl, hr, hq, hb⟩; have HD : Hid (Db W g q ⟨b, 0⟩ w2) := ⟨kept3 HZ.out hb, hr, HB.out.trans (hb.mono HB.out.size), Nat.lt_of_lt_of_le HGL.out hq, HGE.out⟩; clear hr hq hb cOp)
  clear HZ HB HGL
  go_upto_region 3 with (go_at_call 22; refine (cTx _ _ HD.out.rd).out.mono ?_; rintro e w3 ⟨rfl, hr, ho⟩; replace HD := Lib.hid (HD.out.only_ ho hr); clear hr ho cTx)
  go_upto_region 4 with (first
    | (go_at_call 24; refine (cRN _ _ HD.out.rd).out.mono ?_; rintro e w4 ⟨rfl, hr, ho⟩; replace HD := Lib.hid (HD.out.only_ ho hr); clear hr ho cRN)
    | (go_at_call 23; refine (cHO _).out.mono ?_; rintro e w5 ⟨rfl, hb⟩; replace HD := Lib.hid (HD.out.keep hb); clear hb cHO))
  have hx := heap_alloc_new w5 (.cells #[.int .i64 (x0 : Int), .int .i64 (x1 : Int), .int .i64 (x2 : Int), .int .i64 (x3 : Int), .int .i64 (x4 : Int), .int .i64 (x5 : Int), .int .i64 (x6 : Int), .int .i64 (x7 : Int), .int .u32 (x8 : Int), .int .i64 (x9 : Int)] 26)
  have hb : Below w5.heap.size w5 (w5.alloc (.cells #[.int .i64 (x0 : Int), .int .i64 (x1 : Int), .int .i64 (x2 : Int), .int .i64 (x3 : Int), .int .i64 (x4 : Int), .int .i64 (x5 : Int), .int .i64 (x6 : Int), .int .i64 (x7 : Int), .int .u32 (x8 : Int), .int .i64 (x9 : Int)] 26)) := (Below.refl _ _).alloc (Nat.le_refl _) _
  replace HD := Lib.hid (HD.out.keep hb)
  generalize w5.alloc (.cells #[.int .i64 (x0 : Int), .int .i64 (x1 : Int), .int .i64 (x2 : Int), .int .i64 (x3 : Int), .int .i64 (x4 : Int), .int .i64 (x5 : Int), .int .i64 (x6 : Int), .int .i64 (x7 : Int), .int .u32 (x8 : Int), .int .i64 (x9 : Int)] 26) = w6 at *
  obtain ⟨hbx, hhb⟩ : ∃ g, g = w5.heap.size := ⟨_, rfl⟩
  rw [← hhb] at hx
  simp only [← hhb]
  have HX := Lib.hid hx
  have HXQ : Hid (hbx ≠ q) := rd_ne HD.out.rd HX.out (by decide)
  clear hx hb hhb
  go_upto_region 5 with (go_at_call 25; refine (cZ1 _ _ HD.out.rd).out.mono ?_; rintro e w7 ⟨rfl, hr, ho⟩; replace HD := Lib.hid (HD.out.only_ ho hr); replace HX := Lib.hid (box_only HX.out ho HXQ.out); clear hr ho cZ1)
  go_upto_region 6 with (go_at_call 26; refine (cNm _ _ HD.out.rd).out.mono ?_; rintro e w8 ⟨rfl, hr, ho⟩; replace HD := Lib.hid (HD.out.only_ ho hr); replace HX := Lib.hid (box_only HX.out ho HXQ.out); clear hr ho cNm)
  obtain ⟨d0, d1, d2, d3, d4, d5, d6, d7, d8, d9⟩ := box10 HX.out
  go_upto_region 7 with (go_at_call 25; refine (cZ2 _ _ HD.out.rd).out.mono ?_; rintro e w9 ⟨rfl, hr, ho⟩; replace HD := Lib.hid (HD.out.only_ ho hr); replace HX := Lib.hid (box_only HX.out ho HXQ.out); clear hr ho cZ2)
  clear hsub hwx d0 d1 d2 d3 d4 d5 d6 d7 d8 d9
  obtain ⟨d0, d1, d2, d3, d4, d5, d6, d7, d8, d9⟩ := box10 HX.out
  have HGB : Hid (∀ x, x ∈ [W.heap.size] → True) := fun _ _ => trivial
  clear HGB
  by_cases hE : er = 0
  case neg =>
    obtain ⟨rfl, rfl⟩ := HNO.out (.inl hE)
    clear HNO HYES HLEN cCk cRt
    go_upto_region 8 with (go_at_call 27; refine (cEn _ _ HD.out.rd).out.mono ?_; rintro e w10 ⟨rfl, rfl⟩)
    clear hE
    obtain ⟨y0, y1, y2, y3, y4, y5, y6, y7, y8, y9⟩ := box10 HD.out.z
    have fz := free10 HD.out.z
    have HU := Lib.hid (set10_at HD.out.z (.int .i64 0) (.int .i64 0) (.int .i64 0) (.int .i64 0) (.int .i64 0) (.int .i64 0) (.int .i64 0) (.int .i64 0) (.int .u32 0) (.int .i64 0))
    have HBW := Lib.hid (below_set10 HD.out.below HD.out.ge (.int .i64 0) (.int .i64 0) (.int .i64 0) (.int .i64 0) (.int .i64 0) (.int .i64 0) (.int .i64 0) (.int .i64 0) (.int .u32 0) (.int .i64 0))
    unfold set10 at HU HBW
    go_wp2_with fail
    generalize (((((((((w9.setCell ⟨g, 0, none⟩ (.int .i64 0)).setCell ⟨g, 1, none⟩ (.int .i64 0)).setCell ⟨g, 2, none⟩ (.int .i64 0)).setCell ⟨g, 3, none⟩ (.int .i64 0)).setCell ⟨g, 4, none⟩ (.int .i64 0)).setCell ⟨g, 5, none⟩ (.int .i64 0)).setCell ⟨g, 6, none⟩ (.int .i64 0)).setCell ⟨g, 7, none⟩ (.int .i64 0)).setCell ⟨g, 8, none⟩ (.int .u32 0)).setCell ⟨g, 9, none⟩ (.int .i64 0) = w91 at *
    clear y0 y1 y2 y3 y4 y5 y6 y7 y8 y9 fz d0 d1 d2 d3 d4 d5 d6 d7 d8 d9
    obtain ⟨y0, y1, y2, y3, y4, y5, y6, y7, y8, y9⟩ := box10 HU.out
    exact bodyPost_ret (v := .tuple #[.agg #[.int .i64 0, .int .i64 0, .int .i64 0, .int .i64 0, .int .i64 0, .int .i64 0, .int .i64 0, .int .i64 0, .int .u32 0, .int .i64 0], .int .i64 12]) (by simp [results, Try.results12, go_sem, y0, y1, y2, y3, y4, y5, y6, y7, y8, y9]) rfl ⟨rfl, HBW.out⟩
  have h64 := HLEN.out hE
  have hcp := HCAP.out
  have cCk := cCk (by omega) (by omega)
  obtain ⟨i, hi, -⟩ := info_parts Ck.u8info
  have hsl := fun w => run_upTo (P := Try.prog) Try.underlying27 hi A bn cap 60 (by omega) w
  have hE9 := hE
  subst hE
  have hMg := bg_magic bg
  by_cases hM : (strOf bg).toList = [83, 76, 85, 73, 67, 69, 48, 49]
  case neg =>
    obtain ⟨rfl, rfl⟩ := HNO.out (.inr (.inl fun h => hM (hMg.2 h)))
    clear HNO HYES HLEN cCk cRt hMg
    go_upto_region 8 with (go_at_call 27; refine (cEn _ _ HD.out.rd).out.mono ?_; rintro e w10 ⟨rfl, rfl⟩)
    clear hM
    obtain ⟨y0, y1, y2, y3, y4, y5, y6, y7, y8, y9⟩ := box10 HD.out.z
    have fz := free10 HD.out.z
    have HU := Lib.hid (set10_at HD.out.z (.int .i64 0) (.int .i64 0) (.int .i64 0) (.int .i64 0) (.int .i64 0) (.int .i64 0) (.int .i64 0) (.int .i64 0) (.int .u32 0) (.int .i64 0))
    have HBW := Lib.hid (below_set10 HD.out.below HD.out.ge (.int .i64 0) (.int .i64 0) (.int .i64 0) (.int .i64 0) (.int .i64 0) (.int .i64 0) (.int .i64 0) (.int .i64 0) (.int .u32 0) (.int .i64 0))
    unfold set10 at HU HBW
    go_wp2_with fail
    generalize (((((((((w9.setCell ⟨g, 0, none⟩ (.int .i64 0)).setCell ⟨g, 1, none⟩ (.int .i64 0)).setCell ⟨g, 2, none⟩ (.int .i64 0)).setCell ⟨g, 3, none⟩ (.int .i64 0)).setCell ⟨g, 4, none⟩ (.int .i64 0)).setCell ⟨g, 5, none⟩ (.int .i64 0)).setCell ⟨g, 6, none⟩ (.int .i64 0)).setCell ⟨g, 7, none⟩ (.int .i64 0)).setCell ⟨g, 8, none⟩ (.int .u32 0)).setCell ⟨g, 9, none⟩ (.int .i64 0) = w91 at *
    clear y0 y1 y2 y3 y4 y5 y6 y7 y8 y9 fz d0 d1 d2 d3 d4 d5 d6 d7 d8 d9
    obtain ⟨y0, y1, y2, y3, y4, y5, y6, y7, y8, y9⟩ := box10 HU.out
    exact bodyPost_ret (v := .tuple #[.agg #[.int .i64 0, .int .i64 0, .int .i64 0, .int .i64 0, .int .i64 0, .int .i64 0, .int .i64 0, .int .i64 0, .int .u32 0, .int .i64 0], .int .i64 12]) (by simp [results, Try.results12, go_sem, y0, y1, y2, y3, y4, y5, y6, y7, y8, y9]) rfl ⟨rfl, HBW.out⟩
  have hM9 := hMg.1 hM
  by_cases hS : (mm : Int) = (sm : Int)
  case neg =>
    obtain ⟨rfl, rfl⟩ := HNO.out (.inr (.inr (.inl fun h => hS (by rw [h]))))
    clear HNO HYES HLEN cRt hMg hM9
    go_upto_region 8 with (first | (go_at_call 27; refine (cEn _ _ HD.out.rd).out.mono ?_; rintro e w10 ⟨rfl, rfl⟩) | (go_at_call 28; refine (cCk _ (HBL.out.below HD.out.below)).out.mono ?_; rintro e w11 ⟨rfl, hb⟩; replace HD := Lib.hid (HD.out.keep hb); replace HX := Lib.hid (kept3 HX.out hb); clear hb d0 d1 d2 d3 d4 d5 d6 d7 d8 d9; obtain ⟨d0, d1, d2, d3, d4, d5, d6, d7, d8, d9⟩ := box10 HX.out))
    clear hM hS
    obtain ⟨y0, y1, y2, y3, y4, y5, y6, y7, y8, y9⟩ := box10 HD.out.z
    have fz := free10 HD.out.z
    have HU := Lib.hid (set10_at HD.out.z (.int .i64 0) (.int .i64 0) (.int .i64 0) (.int .i64 0) (.int .i64 0) (.int .i64 0) (.int .i64 0) (.int .i64 0) (.int .u32 0) (.int .i64 0))
    have HBW := Lib.hid (below_set10 HD.out.below HD.out.ge (.int .i64 0) (.int .i64 0) (.int .i64 0) (.int .i64 0) (.int .i64 0) (.int .i64 0) (.int .i64 0) (.int .i64 0) (.int .u32 0) (.int .i64 0))
    unfold set10 at HU HBW
    go_wp2_with fail
    generalize (((((((((w11.setCell ⟨g, 0, none⟩ (.int .i64 0)).setCell ⟨g, 1, none⟩ (.int .i64 0)).setCell ⟨g, 2, none⟩ (.int .i64 0)).setCell ⟨g, 3, none⟩ (.int .i64 0)).setCell ⟨g, 4, none⟩ (.int .i64 0)).setCell ⟨g, 5, none⟩ (.int .i64 0)).setCell ⟨g, 6, none⟩ (.int .i64 0)).setCell ⟨g, 7, none⟩ (.int .i64 0)).setCell ⟨g, 8, none⟩ (.int .u32 0)).setCell ⟨g, 9, none⟩ (.int .i64 0) = w91 at *
    clear y0 y1 y2 y3 y4 y5 y6 y7 y8 y9 fz d0 d1 d2 d3 d4 d5 d6 d7 d8 d9
    obtain ⟨y0, y1, y2, y3, y4, y5, y6, y7, y8, y9⟩ := box10 HU.out
    exact bodyPost_ret (v := .tuple #[.agg #[.int .i64 0, .int .i64 0, .int .i64 0, .int .i64 0, .int .i64 0, .int .i64 0, .int .i64 0, .int .i64 0, .int .u32 0, .int .i64 0], .int .i64 12]) (by simp [results, Try.results12, go_sem, y0, y1, y2, y3, y4, y5, y6, y7, y8, y9]) rfl ⟨rfl, HBW.out⟩
  have hS9 : mm = sm := by omega
  cases t with
  | false =>
    obtain ⟨rfl, rfl⟩ := HNO.out (.inr (.inr (.inr rfl)))
    clear HNO HYES HLEN hMg hM9 hS9
    go_upto_region 8 with (first | (go_at_call 27; refine (cEn _ _ HD.out.rd).out.mono ?_; rintro e w10 ⟨rfl, rfl⟩) | (go_at_call 28; refine (cCk _ (HBL.out.below HD.out.below)).out.mono ?_; rintro e w11 ⟨rfl, hb⟩; replace HD := Lib.hid (HD.out.keep hb); replace HX := Lib.hid (kept3 HX.out hb); clear hb d0 d1 d2 d3 d4 d5 d6 d7 d8 d9; obtain ⟨d0, d1, d2, d3, d4, d5, d6, d7, d8, d9⟩ := box10 HX.out) | (go_at_call 9; refine (cRt _).out.mono ?_; rintro e w12 ⟨rfl, hb⟩; replace HD := Lib.hid (HD.out.keep hb); replace HX := Lib.hid (kept3 HX.out hb); clear hb d0 d1 d2 d3 d4 d5 d6 d7 d8 d9; obtain ⟨d0, d1, d2, d3, d4, d5, d6, d7, d8, d9⟩ := box10 HX.out))
    clear hM hS
    obtain ⟨y0, y1, y2, y3, y4, y5, y6, y7, y8, y9⟩ := box10 HD.out.z
    have fz := free10 HD.out.z
    have HU := Lib.hid (set10_at HD.out.z (.int .i64 0) (.int .i64 0) (.int .i64 0) (.int .i64 0) (.int .i64 0) (.int .i64 0) (.int .i64 0) (.int .i64 0) (.int .u32 0) (.int .i64 0))
    have HBW := Lib.hid (below_set10 HD.out.below HD.out.ge (.int .i64 0) (.int .i64 0) (.int .i64 0) (.int .i64 0) (.int .i64 0) (.int .i64 0) (.int .i64 0) (.int .i64 0) (.int .u32 0) (.int .i64 0))
    unfold set10 at HU HBW
    go_wp2_with fail
    generalize (((((((((w12.setCell ⟨g, 0, none⟩ (.int .i64 0)).setCell ⟨g, 1, none⟩ (.int .i64 0)).setCell ⟨g, 2, none⟩ (.int .i64 0)).setCell ⟨g, 3, none⟩ (.int .i64 0)).setCell ⟨g, 4, none⟩ (.int .i64 0)).setCell ⟨g, 5, none⟩ (.int .i64 0)).setCell ⟨g, 6, none⟩ (.int .i64 0)).setCell ⟨g, 7, none⟩ (.int .i64 0)).setCell ⟨g, 8, none⟩ (.int .u32 0)).setCell ⟨g, 9, none⟩ (.int .i64 0) = w91 at *
    clear y0 y1 y2 y3 y4 y5 y6 y7 y8 y9 fz d0 d1 d2 d3 d4 d5 d6 d7 d8 d9
    obtain ⟨y0, y1, y2, y3, y4, y5, y6, y7, y8, y9⟩ := box10 HU.out
    exact bodyPost_ret (v := .tuple #[.agg #[.int .i64 0, .int .i64 0, .int .i64 0, .int .i64 0, .int .i64 0, .int .i64 0, .int .i64 0, .int .i64 0, .int .u32 0, .int .i64 0], .int .i64 12]) (by simp [results, Try.results12, go_sem, y0, y1, y2, y3, y4, y5, y6, y7, y8, y9]) rfl ⟨rfl, HBW.out⟩
  | true =>
    obtain ⟨rfl, rfl⟩ := HYES.out hE9 hM9 hS9 rfl
    clear HNO HYES HLEN hMg hM9 hS9 hE9
    go_upto_region 9 with (first | (go_at_call 27; refine (cEn _ _ HD.out.rd).out.mono ?_; rintro e w10 ⟨rfl, rfl⟩) | (go_at_call 28; refine (cCk _ (HBL.out.below HD.out.below)).out.mono ?_; rintro e w11 ⟨rfl, hb⟩; replace HD := Lib.hid (HD.out.keep hb); replace HX := Lib.hid (kept3 HX.out hb); clear hb d0 d1 d2 d3 d4 d5 d6 d7 d8 d9; obtain ⟨d0, d1, d2, d3, d4, d5, d6, d7, d8, d9⟩ := box10 HX.out) | (go_at_call 9; refine (cRt _).out.mono ?_; rintro e w12 ⟨rfl, hb⟩; replace HD := Lib.hid (HD.out.keep hb); replace HX := Lib.hid (kept3 HX.out hb); clear hb d0 d1 d2 d3 d4 d5 d6 d7 d8 d9; obtain ⟨d0, d1, d2, d3, d4, d5, d6, d7, d8, d9⟩ := box10 HX.out))
    clear hM hS
    obtain ⟨y0, y1, y2, y3, y4, y5, y6, y7, y8, y9⟩ := box10 HD.out.z
    have fz := free10 HD.out.z
    have HU := Lib.hid (set10_at HD.out.z (.int .i64 (x0 : Int)) (.int .i64 (x1 : Int)) (.int .i64 (x2 : Int)) (.int .i64 (x3 : Int)) (.int .i64 (x4 : Int)) (.int .i64 (x5 : Int)) (.int .i64 (x6 : Int)) (.int .i64 (x7 : Int)) (.int .u32 (x8 : Int)) (.int .i64 (x9 : Int)))
    have HBW := Lib.hid (below_set10 HD.out.below HD.out.ge (.int .i64 (x0 : Int)) (.int .i64 (x1 : Int)) (.int .i64 (x2 : Int)) (.int .i64 (x3 : Int)) (.int .i64 (x4 : Int)) (.int .i64 (x5 : Int)) (.int .i64 (x6 : Int)) (.int .i64 (x7 : Int)) (.int .u32 (x8 : Int)) (.int .i64 (x9 : Int)))
    unfold set10 at HU HBW
    go_wp2_with fail
    generalize (((((((((w12.setCell ⟨g, 0, none⟩ (.int .i64 (x0 : Int))).setCell ⟨g, 1, none⟩ (.int .i64 (x1 : Int))).setCell ⟨g, 2, none⟩ (.int .i64 (x2 : Int))).setCell ⟨g, 3, none⟩ (.int .i64 (x3 : Int))).setCell ⟨g, 4, none⟩ (.int .i64 (x4 : Int))).setCell ⟨g, 5, none⟩ (.int .i64 (x5 : Int))).setCell ⟨g, 6, none⟩ (.int .i64 (x6 : Int))).setCell ⟨g, 7, none⟩ (.int .i64 (x7 : Int))).setCell ⟨g, 8, none⟩ (.int .u32 (x8 : Int))).setCell ⟨g, 9, none⟩ (.int .i64 (x9 : Int)) = w91 at *
    clear y0 y1 y2 y3 y4 y5 y6 y7 y8 y9 fz d0 d1 d2 d3 d4 d5 d6 d7 d8 d9
    obtain ⟨y0, y1, y2, y3, y4, y5, y6, y7, y8, y9⟩ := box10 HU.out
    exact bodyPost_ret (v := .tuple #[.agg #[.int .i64 (x0 : Int), .int .i64 (x1 : Int), .int .i64 (x2 : Int), .int .i64 (x3 : Int), .int .i64 (x4 : Int), .int .i64 (x5 : Int), .int .i64 (x6 : Int), .int .i64 (x7 : Int), .int .u32 (x8 : Int), .int .i64 (x9 : Int)], .int .i64 0]) (by simp [results, Try.results12, go_sem, y0, y1, y2, y3, y4, y5, y6, y7, y8, y9]) rfl ⟨rfl, HBW.out⟩
end No
end Go.Proofs.Yteefkhgmcknbaaa
