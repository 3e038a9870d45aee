/-
  The code's leaf: Apply.
-/
import Derived.Test.YtoibkjggfkkdhaaLeafCode3
import Derived.Test.YtoibkjggfkkdhaaLeafCode4
namespace Go.Proofs.Ytoibkjggfkkdhaa
open Go.RowKit
namespace Lf
open Mem Lx Bu St
theorem RdK.off {α : Type} {K : Kind α} {w w' : World} {A A5 : Option Addr} {X : List α} (h : RdK K w A X) (hs : w.heap.size ≤ w'.heap.size) (ha : 0 < X.length → Apt A A5) (hb : ∀ k, k < w.heap.size → (∀ a, A5 = some a → a.block ≠ k) → w'.heap[k]? = w.heap[k]?) : RdK K w' A X := fun h0 => by
  obtain ⟨b, o, rfl, hl, _⟩ := h h0
  refine (h.keep hs fun a e => ?_) h0
  cases e
  exact hb b hl fun a5 e5 => (ha h0 _ a5 rfl e5).symm
theorem apt_row {A A5 A6 : Option Addr} {w : World} (h : Apt A A5) (hA : ∀ a, A = some a → a.block < w.heap.size) (hr : ∀ a', A6 = some a' → (∃ a, A5 = some a ∧ a'.block = a.block) ∨ a'.block = w.heap.size) : Apt A A6 := fun a a6 e e6 => by
  rcases hr a6 e6 with ⟨a5, e5, h5⟩ | h5
  · rw [h5]
    exact h a a5 e e5
  · have := hA a e
    omega
set_option maxRecDepth 100000 in
set_option maxHeartbeats 16000000 in
theorem Apply_any {W : World} {A A' : Option Addr} {c c' : Nat} {L : List Pr} {M : List Mg} (h : PC W A c L) (h' : RC MgK W A' c' M) (_ : ∀ x, x ∈ L → x.1.size ≤ 1000) (_ : ∀ m, m ∈ M → m.1.size ≤ 1000) (hr : PRi L) (hl : L.length ≤ 500) (hm : M.length ≤ 500) : Calls Try.prog 15 #[.slice A L.length c, .slice A' M.length c'] W fun e w' => (∃ A2 c2, e = .returned (.slice A2 (applyP L M).length c2) ∧ PC w' A2 c2 (applyP L M)) ∧ Below W.heap.size W w' := by
  have cL := fun (W' : World) (hb : Below W.heap.size W W') => Lib.hid (latest_any (c := c') (h'.1.kept hb) hm)
  have cP := fun (W' : World) (A0 : Option Addr) (c0 : Nat) (l : List Pr) (h0 : PL W' A0 l) (key : ByteArray) (hr0 : PRi l) (hl0 : l.length ≤ 1048576) => Lib.hid (place_any (c := c0) h0 key hr0 hl0)
  have HL := Lib.hid h
  have HPM : Hid (∀ T, LastOf M T → ∀ C l : List Pr, Ap L T T.length C l → C ++ l = applyP L M) := fun T hT C l hA => (ap_end hA (Nat.le_refl _)).trans (hT.apply hr)
  have HPR : Hid (∀ T k C l, Ap L T k C l → PRi l) := fun T k C l hA => by
    have h1 := PRi.apply (M := T.take k) hr
    rw [← hA.eq] at h1
    exact (List.pairwise_append.1 h1).2.1
  have HR := Lib.hid hr
  have HT0 : Hid (∀ T, LastOf M T → T.length ≤ M.length) := fun T hT => hT.len
  clear h h' hr
  generalize hn : L.length = n at *
  generalize hmm : M.length = m at *
  generalize applyP L M = O at *
  have HN := Lib.hid hn
  clear hn hmm
  obtain ⟨nm, hnm⟩ : ∃ nm, nm = n + m := ⟨_, rfl⟩
  have hw0 : IntKind.i64.wrap ((n : Int) + (m : Int)) = (nm : Int) := by rw [IntKind.wrap_i64]; omega
  have hmk : ∀ w : World, (Instr.makeSlice 22 (.int .i64 0) (.int .i64 (nm : Int))).run Try.prog w = .ok (.slice (some ⟨w.heap.size, 0, none⟩) 0 nm) (w.alloc (.cells (madeCells #[.string ⟨#[]⟩, .string ⟨#[]⟩] (nm * 2)) 43)) := fun w => run_makeK (P := Try.prog) Try.underlying22 prinfo (by decide) nm (by omega) w
  obtain ⟨g1, hg1⟩ : ∃ g1, g1 = W.heap.size := ⟨_, rfl⟩
  have HV0 : Hid (P3 (W.alloc (.cells (madeCells #[.string ⟨#[]⟩, .string ⟨#[]⟩] (nm * 2)) 43)) W.heap.size (some ⟨g1, 0, none⟩) nm []) := by
    rw [hg1]
    exact VK.made (K := PrK) W W.heap.size nm _ (Nat.le_refl _) (by omega)
  have HB0 : Hid (Below W.heap.size W (W.alloc (.cells (madeCells #[.string ⟨#[]⟩, .string ⟨#[]⟩] (nm * 2)) 43))) := (Below.refl _ _).alloc (Nat.le_refl _) _
  have HSZ : Hid (g1 < (W.alloc (.cells (madeCells #[.string ⟨#[]⟩, .string ⟨#[]⟩] (nm * 2)) 43)).heap.size) := by
    rw [hg1]
    exact (Array.getElem?_eq_some_iff.1 (heap_alloc_new W _)).1
  have hnm2 : nm ≤ 1000 := by omega
  have HNM := Lib.hid hnm
  clear hnm
  go_enter Try.func15, Try.ntmps15
  go_upto_region 2 with fail
  generalize W.alloc (.cells (madeCells #[.string ⟨#[]⟩, .string ⟨#[]⟩] (nm * 2)) 43) = w1 at *
  have HG1 := Lib.hid hg1
  rw [← hg1]
  clear hmk hw0 hg1
  go_upto_block 0 with (go_at_call 25; refine (cL _ HB0.out).out.mono ?_; rintro e w2 ⟨⟨A2, c2, T, rfl, h1, h2⟩, hb⟩)
  have HV2 := Lib.hid (HV0.out.kept hb)
  have HT2 := Lib.hid h1.rd
  have HLO := Lib.hid h2
  have hTm := HT0.out T h2
  have HB2 : Hid (Below W.heap.size W w2) := HB0.out.trans (hb.mono HB0.out.size)
  have HA2 : Hid (Apt A2 (some ⟨g1, 0, none⟩)) := fun a a' ha ha' => by
    have := (h1.at_ a ha).1
    have := HSZ.out
    cases ha'
    show a.block ≠ g1
    omega
  have HAP0 : Hid (Ap L T 0 [] L) := ap_start L T
  clear h1 h2 hb cL HV0 HB0 HSZ HT0
  generalize ht : T.length = t at *
  have HTN := Lib.hid ht
  clear ht
  go_wp2_with fail
  go_loopg [0, 5, 19] t (fun gk lv av iv wr => ∃ (k n0 c0 n5 c5 : Nat) (A0 A5 : Option Addr) (C l : List Pr), k ≤ t ∧ gk = t - k ∧ iv = .int .i64 (k : Int) ∧ lv = .slice A0 n0 c0 ∧ av = .slice A5 n5 c5 ∧ n0 ≤ n ∧ n5 ≤ n + n + k - n0 ∧ n0 ≤ c0 ∧ Hid (l.length = n0) ∧ Hid (C.length = n5) ∧ Hid (PC W A0 c0 l) ∧ Hid (P3 wr W.heap.size A5 c5 C) ∧ Hid (ML wr A2 T) ∧ Hid (Apt A2 A5) ∧ Hid (Ap L T k C l) ∧ Hid (Below W.heap.size W wr))
  case atStart => exact ⟨0, n, c, 0, nm, A, _, [], L, Nat.zero_le _, rfl, rfl, rfl, rfl, Nat.le_refl _, Nat.zero_le _, by have := HL.out.2; rw [HN.out] at this; exact this, HN, rfl, HL, HV2, HT2, HA2, HAP0, HB2⟩
  case round =>
    obtain ⟨k, n0, c0, n5, c5, A0, A5, C, l, hk, rfl, rfl, rfl, rfl, hn0, hn5, hnc, HLN, HCN, HPL, HV, HT, HA, HAP, HB⟩ := hrel
    clear HV2 HT2 HA2 HAP0 HB2
    by_cases hlt : k < t
    · have hkL : k < T.length := by rw [HTN.out]; exact hlt
      obtain ⟨x, hxx⟩ : ∃ x, x = T[k] := ⟨_, rfl⟩
      have hx' := nat_len hkL
      rw [← hxx] at hx'
      obtain ⟨b, o, e, hbl, x0, x1, x2⟩ := RdK.msg HT.out hx'
      subst e
      have hw2 : IntKind.i64.wrap ((k : Int) + 1) = ((k + 1 : Nat) : Int) := by rw [IntKind.wrap_i64]; omega
      have HXX := Lib.hid hx'
      have HBL := Lib.hid hbl
      clear hxx hx' hkL hbl
      go_upto_region 5 with fail
      have hx := heap_alloc_new wr (.cells #[.string x.1, .bool x.2.1, .string x.2.2] 34)
      have hb0 : Below wr.heap.size wr (wr.alloc (.cells #[.string x.1, .bool x.2.1, .string x.2.2] 34)) := (Below.refl _ _).alloc (Nat.le_refl _) _
      have HV4 := Lib.hid (HV.out.kept hb0)
      have HT4 := Lib.hid (HT.out.kept hb0)
      have HB4 : Hid (Below W.heap.size W (wr.alloc (.cells #[.string x.1, .bool x.2.1, .string x.2.2] 34))) := HB.out.alloc HB.out.size _
      have HSZ := Lib.hid hb0.size
      generalize wr.alloc (.cells #[.string x.1, .bool x.2.1, .string x.2.2] 34) = w4 at *
      obtain ⟨g, hg⟩ : ∃ g, g = wr.heap.size := ⟨_, rfl⟩
      rw [← hg] at hx HSZ ⊢
      have HBX := Lib.hid hx
      have HG : Hid (∀ a5, A5 = some a5 → a5.block ≠ g) := fun a5 ha => by
        have := (HV.out.at_ a5 ha).2
        omega
      have HBG : Hid (b < g) := by
        unfold Hid
        rw [hg]
        exact HBL.out
      clear hx hb0 hg x0 x1 x2 HV HT HB HBL
      obtain ⟨d0, d1, d2⟩ := box3 HBX.out
      have cP' := cP w4 A0 c0 l (HPL.out.1.kept HB4.out) x.1 (HPR.out _ _ _ _ HAP.out) (by rw [HLN.out]; omega)
      rw [HLN.out] at cP'
      go_upto_region 6 with (go_at_call 24; refine cP'.out.mono ?_; rintro e w5 ⟨⟨p, bb, rfl, h1, h2⟩, hb⟩)
      have HP := Lib.hid h1
      have HF := Lib.hid h2
      have hpn : p ≤ n0 := by rw [← HLN.out]; exact h1.le
      have HV5 := Lib.hid (HV4.out.kept hb)
      have HT5 := Lib.hid (HT4.out.kept hb)
      have HBX5 := Lib.hid (kept3 HBX.out hb)
      have HB5 : Hid (Below W.heap.size W w5) := HB4.out.trans (hb.mono HB4.out.size)
      have hg5 : g < w5.heap.size := (Array.getElem?_eq_some_iff.1 HBX5.out).1
      have HG5 := Lib.hid hg5
      clear d0 d1 d2 h1 h2 hb HV4 HT4 HBX HB4 HSZ cP' hg5
      have r1 := fun w => run_upToP A0 n0 c0 p (by omega) w
      have HPL5 : Hid (PL w5 A0 (l.take p)) := ((HPL.out.kept HB5.out).upTo p).1
      have HTL : Hid ((l.take p).length = p) := by unfold Hid; rw [List.length_take, HLN.out]; omega
      have hs5 := HB5.out.size
      have hsum : n5 + p ≤ 1048576 := by omega
      go_upto_region 7 with (with_reducible refine wpList_append_allA (K := PrK) Try.underlying22 prinfo rfl (by decide) (by decide) rfl (.tmp 30) (.tmp 33) rfl W.heap.size A5 n5 c5 C rfl HCN.out HV5.out A0 p c0 (l.take p) rfl HTL.out HPL5.out hsum hs5 ?_; intro A6 c6 w6 hd)
      have HBX6 : Hid (w6.heap[g]? = some (.cells #[.string x.1, .bool x.2.1, .string x.2.2] 34 (0, 0))) := (hd.out.block g HG5.out fun a5 h5 => HG.out a5 h5).trans HBX5.out
      have HT6 : Hid (ML w6 (some ⟨b, o, none⟩) T) := RdK.off HT5.out hd.out.below.size (fun _ => HA.out) hd.out.block
      have HA6 : Hid (Apt (some ⟨b, o, none⟩) A6) := apt_row (w := w5) HA.out (fun a e => by
        cases e
        exact Nat.lt_trans HBG.out HG5.out) hd.out.row
      have HV6 := Lib.hid hd.out.vo
      have HC6 : Hid ((C ++ l.take p).length = n5 + p) := by unfold Hid; rw [List.length_append, HCN.out, HTL.out]
      have HB6 : Hid (Below W.heap.size W w6) := HB5.out.trans hd.out.below
      have HG6 : Hid (∀ a6, A6 = some a6 → a6.block ≠ g) := fun a6 e6 => by
        rcases hd.out.row a6 e6 with ⟨a5, e5, h5⟩ | h5
        · rw [h5]
          exact HG.out a5 e5
        · have := HG5.out
          omega
      have hbg6 : b < w6.heap.size := Nat.lt_of_lt_of_le (Nat.lt_trans HBG.out HG5.out) hd.out.below.size
      have HBG6 := Lib.hid hbg6
      clear hd HBX5 HT5 HA HV5 HB5 HG HG5 HBG HPL5 HTL hs5 hsum r1 hbg6 cP
      obtain ⟨d0, d1, d2⟩ := box3 HBX6.out
      go_upto_if 37 with fail
      go_cut [5] (fun av wx => ∃ (A7 : Option Addr) (n7 c7 : Nat) (C7 : List Pr), av = .slice A7 n7 c7 ∧ n7 ≤ n5 + p + 1 ∧ Hid (C7 = C ++ l.take p ++ if x.2.1 = true then [] else [(x.1, x.2.2)]) ∧ Hid (C7.length = n7) ∧ Hid (P3 wx W.heap.size A7 c7 C7) ∧ Hid (ML wx (some ⟨b, o, none⟩) T) ∧ Hid (Apt (some ⟨b, o, none⟩) A7) ∧ Hid (Below W.heap.size W wx))
      case first =>
        obtain ⟨dl, hdl⟩ : ∃ dl, dl = x.2.1 := ⟨_, rfl⟩
        rw [← hdl]
        have HDL := Lib.hid hdl
        cases dl with
        | true =>
          clear hdl d0 d1 d2
          go_wp2_with fail
          go_meet
          exact ⟨A6, n5 + p, c6, C ++ l.take p, rfl, by omega, by unfold Hid; rw [← HDL.out]; simp, HC6, HV6, HT6, HA6, HB6⟩
        | false =>
          clear hdl
          have hX : Below w6.heap.size w6 (w6.alloc (.cells #[.string x.1, .string x.2.2] 43)) := (Below.refl _ _).alloc (Nat.le_refl _) _
          have hcl : Hid ((w6.alloc (.cells #[.string x.1, .string x.2.2] 43)).heap[w6.heap.size]? = some (.cells (PrK.cs (x.1, x.2.2)).toArray PrK.T (0, 0))) := heap_alloc_new w6 _
          have HTX : Hid (P3 (w6.alloc (.cells #[.string x.1, .string x.2.2] 43)) W.heap.size A6 c6 (C ++ l.take p)) := HV6.out.kept hX
          have HTT : Hid (ML (w6.alloc (.cells #[.string x.1, .string x.2.2] 43)) (some ⟨b, o, none⟩) T) := HT6.out.kept hX
          have hBx : W.heap.size ≤ (w6.alloc (.cells #[.string x.1, .string x.2.2] 43)).heap.size := Nat.le_trans HB6.out.size hX.size
          have HBX := Lib.hid (HB6.out.trans (hX.mono HB6.out.size))
          have HSX := Lib.hid (Nat.lt_of_lt_of_le HBG6.out hX.size)
          have hm65 : n5 + p + 1 ≤ 1048576 := by omega
          clear hX HV6 HT6 HB6
          go_wp2_with (with_reducible refine wpList_appendK (K := PrK) Try.underlying22 prinfo rfl (by decide) (by decide) rfl (.tmp 38) (.tmp 44) rfl W.heap.size A6 (n5 + p) c6 (C ++ l.take p) rfl HC6.out HTX.out w6.heap.size 1 (x.1, x.2.2) rfl hcl.out hm65 hBx ?_; intro A7 c7 w7 hd')
          go_meet
          exact ⟨A7, n5 + p + 1, c7, C ++ l.take p ++ [(x.1, x.2.2)], rfl, Nat.le_refl _, by unfold Hid; rw [← HDL.out]; simp, by unfold Hid; rw [List.length_append, HC6.out]; rfl, hd'.out.vo, RdK.off HTT.out hd'.out.below.size (fun _ => HA6.out) hd'.out.block, apt_row HA6.out (fun a e => by cases e; exact HSX.out) hd'.out.row, HBX.out.trans hd'.out.below⟩
      case rest =>
      obtain ⟨A7, n7, c7, C7, rfl, hn7, HC7, HCN7, HV7, HT7, HA7, HB7⟩ := hcut
      clear HBX6 HT6 HA6 HV6 HC6 HB6 HG6 HBG6 d0 d1 d2
      obtain ⟨q, hq⟩ : ∃ q, q = if bb = true then p + 1 else p := ⟨_, rfl⟩
      have HQ : Hid (q = p ∧ (¬ ∃ z, l[p]? = some z ∧ z.1 = x.1) ∨ q = p + 1 ∧ ∃ z, l[p]? = some z ∧ z.1 = x.1) := by
        have := HF.out
        cases bb with
        | false => exact .inl ⟨by simpa using hq, by simpa using this⟩
        | true => exact .inr ⟨by simpa using hq, this.1 rfl⟩
      have hqn : q ≤ n0 := by
        rcases HQ.out with ⟨h1, _⟩ | ⟨h1, z, hz, _⟩
        · omega
        · have := (List.getElem?_eq_some_iff.1 hz).1
          rw [HLN.out] at this
          omega
      have hpq : p ≤ q := by
        rcases HQ.out with ⟨h1, _⟩ | ⟨h1, _⟩ <;> omega
      clear HF
      go_upto_if 46 with fail
      go_cut [8] (fun qv wx => qv = .int .i64 (q : Int) ∧ wx = wc)
      case first =>
        cases bb with
        | false =>
          obtain rfl : q = p := by simpa using hq
          clear hq
          go_wp2_with fail
          go_meet
          exact ⟨rfl, rfl⟩
        | true =>
          obtain rfl : q = p + 1 := by simpa using hq
          clear hq
          have hw : IntKind.i64.wrap ((p : Int) + 1) = ((p + 1 : Nat) : Int) := by rw [IntKind.wrap_i64]; omega
          go_wp2_with fail
          go_meet
          exact ⟨by go_num, rfl⟩
      case rest =>
      clear hq
      obtain ⟨rfl, hwc⟩ := hcut
      have HAP2 : Hid (Ap L T (k + 1) C7 (l.drop q)) := by
        unfold Hid
        rw [HC7.out]
        exact ap_step HAP.out HR.out HLO.out.rise HXX.out HP.out.lo HP.out.hi HQ.out
      have r2 := fun w => run_cutP A0 n0 c0 q hqn w
      have HPL2 : Hid (PC W (cutK 2 A0 c0 q) (c0 - q) (l.drop q)) := HPL.out.cut q
      have HLN2 : Hid ((l.drop q).length = n0 - q) := by unfold Hid; rw [List.length_drop, HLN.out]
      have hb1 : n0 - q ≤ n := by omega
      have hb2 : n7 ≤ n + n + (k + 1) - (n0 - q) := by omega
      have hb3 : n0 - q ≤ c0 - q := by omega
      subst hwc
      clear HPL HLN HAP HQ HP HC7 HXX HPR
      go_wp2_with fail
      go_roundg (t - (k + 1))
      case measure => omega
      case rel => exact ⟨k + 1, n0 - q, c0 - q, n7, c7, _, A7, C7, l.drop q, hlt, rfl, by go_num, rfl, rfl, hb1, hb2, hb3, HLN2, HCN7, HPL2, HV7, HT7, HA7, HAP2, HB7⟩
    · obtain rfl : k = t := by omega
      have HE : Hid (C ++ l = O) := HPM.out T HLO.out C l (by rw [HTN.out]; exact HAP.out)
      have HPL5 : Hid (PL wr A0 l) := (HPL.out.kept HB.out).1
      have hs5 := HB.out.size
      have hsum : n5 + n0 ≤ 1048576 := by omega
      clear hlt HT HA HAP HPM HPR cP HPL
      go_wp2_with (with_reducible refine wpList_append_allA (K := PrK) Try.underlying22 prinfo rfl (by decide) (by decide) rfl (.tmp 53) (.tmp 54) rfl W.heap.size A5 n5 c5 C rfl HCN.out HV.out A0 n0 c0 l rfl HLN.out HPL5.out hsum hs5 ?_; intro A6 c6 w6 hd)
      go_ret
      exact ⟨⟨A6, c6, by rw [← HE.out, List.length_append, HCN.out, HLN.out]; rfl, by rw [← HE.out]; exact VK.rc hd.out.vo⟩, HB.out.trans hd.out.below⟩
end Lf
end Go.Proofs.Ytoibkjggfkkdhaa
