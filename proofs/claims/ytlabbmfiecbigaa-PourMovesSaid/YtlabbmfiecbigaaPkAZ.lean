/-
  FanCode1, FanCalls. Put together by pack.py.
-/
import Derived.Test.YtlabbmfiecbigaaPqFanR2
import Derived.Test.YtlabbmfiecbigaaPqSpanC
import Derived.Test.YtlabbmfiecbigaaPkAM



namespace Go.Proofs.Ytlabbmfiecbigaa
open Go.RowKit
namespace Fa
open Mem Lx Bu
/-- the pivot ahead of a kid; the one behind it, and whether there is none -/
def kidLo (L : List ByteArray) : Nat → ByteArray
  | 0 => ⟨#[]⟩
  | i + 1 => (L[i]?).getD ⟨#[]⟩
def kidHi (L : List ByteArray) (i : Nat) : ByteArray × Bool :=
  match L[i]? with
  | some p => (p, false)
  | none => (⟨#[]⟩, true)
theorem cmpB_nil (a : ByteArray) : ¬ cmpB a ⟨#[]⟩ < 0 := by
  have h : ∀ l : List UInt8, ¬ Lib.compareBytes l [] < 0 := fun l => by cases l <;> simp [Lib.compareBytes]
  exact h _
theorem max_kid (L : List ByteArray) (i : Nat) (hi : i ≤ L.length) (lo : ByteArray) : maxB lo (kidLo L i) = loS L i lo := by
  cases i with
  | zero =>
    show maxB lo ⟨#[]⟩ = lo
    unfold maxB
    rw [if_neg (cmpB_nil lo)]
  | succ i =>
    obtain ⟨p, hp⟩ : ∃ p, L[i]? = some p := ⟨L[i], List.getElem?_eq_getElem _⟩
    have e : kidLo L (i + 1) = p := by
      show (L[i]?).getD ⟨#[]⟩ = p
      rw [hp]
      rfl
    rw [e, loS_some hp]
    unfold maxB
    have := cmpB_neg lo p
    by_cases h : cmpB lo p < 0
    · rw [if_pos h, if_pos (by omega)]
    · rw [if_neg h, if_neg (by omega)]
theorem low_kid (L : List ByteArray) (i : Nat) (hi : ByteArray) (top : Bool) : lowerB hi top (kidHi L i).1 (kidHi L i).2 = (if (hiS L i hi top).2 = true then ⟨#[]⟩ else (hiS L i hi top).1) ∧ (top && (kidHi L i).2) = (hiS L i hi top).2 := by
  unfold kidHi
  rcases h : L[i]? with _ | p
  · rw [hiS_none h]
    cases top <;> simp [lowerB]
  · rw [hiS_some h]
    cases top
    · have := cmpB_neg hi p
      by_cases h2 : cmpB p hi < 0
      · simp [lowerB, minB, h2]
        omega
      · simp [lowerB, minB, h2]
        omega
    · simp [lowerB]
theorem meet_kid (L : List ByteArray) (i : Nat) (hn : i ≤ L.length) (lo hi : ByteArray) (top : Bool) : meetB lo hi top (kidLo L i) (kidHi L i).1 (kidHi L i).2 = spanS L i lo hi top := by
  unfold meetB
  rw [max_kid L i hn, (low_kid L i hi top).1, (low_kid L i hi top).2]
  unfold spanS
  rw [if_neg (show ¬ ((i : Int) < 0 ∨ (L.length : Int) < (i : Int)) by omega)]
  rfl
def Bx3 (W : World) (g k : Nat) (lo hi : ByteArray) (top : Bool) (a b : ByteArray) (t : Bool) (w : World) : Prop := Bx2 W g (.string lo) (.string hi) (.bool top) w ∧ g + 1 < k ∧ w.heap[k]? = some (.cells #[.string a, .string b, .bool t] 37 (0, 0))
theorem Bx3.set0 {W : World} {g k : Nat} {lo hi : ByteArray} {top : Bool} {a b : ByteArray} {t : Bool} {w : World} (h : Bx3 W g k lo hi top a b t w) (v : ByteArray) : Bx3 W g k lo hi top v b t (w.setCell ⟨k, 0, none⟩ (.string v)) :=
  have hk := h.2.1
  have hg := h.1.2.1
  ⟨⟨h.1.1.setCell (show W.heap.size ≤ k by omega) _, h.1.2.1, (set_other _ (by omega)).trans h.1.2.2.1, (set_other _ (by omega)).trans h.1.2.2.2⟩, h.2.1, set_box0 h.2.2 _⟩
theorem Bx3.set1 {W : World} {g k : Nat} {lo hi : ByteArray} {top : Bool} {a b : ByteArray} {t : Bool} {w : World} (h : Bx3 W g k lo hi top a b t w) (v : ByteArray) : Bx3 W g k lo hi top a v t (w.setCell ⟨k, 1, none⟩ (.string v)) :=
  have hk := h.2.1
  have hg := h.1.2.1
  ⟨⟨h.1.1.setCell (show W.heap.size ≤ k by omega) _, h.1.2.1, (set_other _ (by omega)).trans h.1.2.2.1, (set_other _ (by omega)).trans h.1.2.2.2⟩, h.2.1, set_box1 h.2.2 _⟩
theorem Bx3.set2 {W : World} {g k : Nat} {lo hi : ByteArray} {top : Bool} {a b : ByteArray} {t : Bool} {w : World} (h : Bx3 W g k lo hi top a b t w) (v : Bool) : Bx3 W g k lo hi top a b v (w.setCell ⟨k, 2, none⟩ (.bool v)) :=
  have hk := h.2.1
  have hg := h.1.2.1
  ⟨⟨h.1.1.setCell (show W.heap.size ≤ k by omega) _, h.1.2.1, (set_other _ (by omega)).trans h.1.2.2.1, (set_other _ (by omega)).trans h.1.2.2.2⟩, h.2.1, set_box2 h.2.2 _⟩
theorem Bx2.kid {W : World} {g : Nat} {lo hi : ByteArray} {top : Bool} {w : World} (h : Bx2 W g (.string lo) (.string hi) (.bool top) w) (a b : ByteArray) (t : Bool) : Bx3 W g w.heap.size lo hi top a b t (w.alloc (.cells #[.string a, .string b, .bool t] 37)) :=
  ⟨h.kept ((Below.refl _ _).alloc (Nat.le_refl _) _), (Array.getElem?_eq_some_iff.1 h.2.2.2).1, heap_alloc_new _ _⟩
set_option maxRecDepth 100000 in
set_option maxHeartbeats 4000000 in
theorem Span_any {W : World} {A : Option Addr} {c : Nat} {L : List ByteArray} (h : SC W A c L) (i : Int) (lo hi : ByteArray) (top : Bool) (_ : lo.size ≤ 1000) (_ : hi.size ≤ 1000) (_ : ∀ m, m ∈ L → m.size ≤ 1000) (_ : SRi L) (hl : L.length ≤ 1000) : Calls Try.prog 17 #[.slice A L.length c, .int .i64 i, .agg #[.string lo, .string hi, .bool top]] W fun e w' => e = .returned (.tuple #[.agg #[.string (spanS L i lo hi top).1.1, .string (spanS L i lo hi top).1.2.1, .bool (spanS L i lo hi top).1.2.2], .bool (spanS L i lo hi top).2]) ∧ Below W.heap.size W w' := by
  have HH : Hid (SL W A L) := h.1
  have HS : Hid (∀ k : Nat, i = (k : Int) → k ≤ L.length → meetB lo hi top (kidLo L k) (kidHi L k).1 (kidHi L k).2 = spanS L i lo hi top) := fun k e hk => by
    subst e
    exact meet_kid L k hk lo hi top
  have HS0 : Hid (i < 0 ∨ (L.length : Int) < i → spanS L i lo hi top = ((⟨#[]⟩, ⟨#[]⟩, false), false)) := fun e => by
    unfold spanS
    rw [if_pos e]
  generalize spanS L i lo hi top = R at *
  generalize hn : L.length = n at *
  have HN := Lib.hid hn
  clear h hn
  go_enter Try.func17, Try.ntmps17
  go_upto_region 1 with fail
  have HB0 : Hid (Bx2 W W.heap.size (.string lo) (.string hi) (.bool top) ((W.alloc (.cells #[.string lo, .string hi, .bool top] 37)).alloc (.cells #[.string ⟨#[]⟩, .string ⟨#[]⟩, .bool false] 37))) := ⟨(two_new _ _ _).2.2, Nat.le_refl _, (two_new _ _ _).1, (two_new _ _ _).2.1⟩
  generalize (W.alloc (.cells #[.string lo, .string hi, .bool top] 37)).alloc (.cells #[.string ⟨#[]⟩, .string ⟨#[]⟩, .bool false] 37) = w1 at *
  obtain ⟨g, hg⟩ : ∃ g, g = W.heap.size := ⟨_, rfl⟩
  rw [← hg] at HB0
  simp only [← hg]
  clear hg
  by_cases hr : i < 0 ∨ (n : Int) < i
  · obtain rfl := HS0.out hr
    have f0 := free3 HB0.out.2.2.2 0
    have f1 := free3 HB0.out.2.2.2 1
    have f2 := free3 HB0.out.2.2.2 2
    obtain ⟨d0, d1, d2⟩ := box3 HB0.out.2.2.2
    have hgW := HB0.out.2.1
    have fin : Hid (Below W.heap.size W (set3 w1 (g + 1) (.string ⟨#[]⟩) (.string ⟨#[]⟩) (.bool false)) ∧ (set3 w1 (g + 1) (.string ⟨#[]⟩) (.string ⟨#[]⟩) (.bool false)).heap[g + 1]? = some (.cells #[.string ⟨#[]⟩, .string ⟨#[]⟩, .bool false] 37 (0, 0))) := ⟨set3_below HB0.out.1 (by omega) _ _ _, set3_at HB0.out.2.2.2 _ _ _⟩
    unfold set3 at fin
    clear HS HS0
    rcases hr with hr | hr
    · go_wp2_with fail
      generalize ((w1.setCell ⟨g + 1, 0, none⟩ (.string ⟨#[]⟩)).setCell ⟨g + 1, 1, none⟩ (.string ⟨#[]⟩)).setCell ⟨g + 1, 2, none⟩ (.bool false) = w9 at *
      obtain ⟨o0, o1, o2⟩ := box3 fin.out.2
      exact bodyPost_ret (v := .tuple #[.agg #[.string ⟨#[]⟩, .string ⟨#[]⟩, .bool false], .bool false]) (by simp [results, Try.results17, go_sem, o0, o1, o2]) rfl ⟨rfl, fin.out.1⟩
    · have hr0 : decide (i < 0) = false := by simp; omega
      go_wp2_with fail
      generalize ((w1.setCell ⟨g + 1, 0, none⟩ (.string ⟨#[]⟩)).setCell ⟨g + 1, 1, none⟩ (.string ⟨#[]⟩)).setCell ⟨g + 1, 2, none⟩ (.bool false) = w9 at *
      obtain ⟨o0, o1, o2⟩ := box3 fin.out.2
      exact bodyPost_ret (v := .tuple #[.agg #[.string ⟨#[]⟩, .string ⟨#[]⟩, .bool false], .bool false]) (by simp [results, Try.results17, go_sem, o0, o1, o2]) rfl ⟨rfl, fin.out.1⟩
  obtain ⟨k, hki⟩ : ∃ k : Nat, i = (k : Int) := ⟨i.toNat, by omega⟩
  have hkn : k ≤ n := by omega
  have HM := Lib.hid (HS.out k hki hkn)
  subst hki
  have hr0 : decide ((k : Int) < 0) = false := by simp
  have hr1 : decide ((n : Int) < (k : Int)) = false := by simp; omega
  clear hr HS HS0
  go_upto_region 3 with fail
  clear hr0 hr1
  go_upto_region 4 with (go_at_call 18; refine (All_any _).mono ?_; rintro e w2 ⟨rfl, hb⟩)
  have HB1 := Lib.hid ((HB0.out.kept hb).kid ⟨#[]⟩ ⟨#[]⟩ true)
  clear HB0 hb
  generalize w2.alloc (.cells #[.string ⟨#[]⟩, .string ⟨#[]⟩, .bool true] 37) = w3 at *
  generalize w2.heap.size = m at *
  go_upto_if 20 with fail
  go_cut [] (fun wx => Hid (Bx3 W g m lo hi top (kidLo L k) ⟨#[]⟩ true wx))
  case first =>
    rcases Nat.eq_zero_or_pos k with rfl | h0
    · have HB2 : Hid (Bx3 W g m lo hi top (kidLo L 0) ⟨#[]⟩ true w3) := HB1.out
      go_wp2_with fail
      go_meet
      exact HB2
    · obtain ⟨j, hj⟩ : ∃ j, k = j + 1 := ⟨k - 1, by omega⟩
      have hjn : j < n := by omega
      obtain ⟨p, hp⟩ : ∃ p, L[j]? = some p := ⟨L[j]'(by rw [HN.out]; exact hjn), nat_lenS (by rw [HN.out]; exact hjn)⟩
      obtain ⟨b, o, e, -, c0⟩ := RdK.str (HH.out.kept HB1.out.1.1) hp
      subst e
      have hw1 : IntKind.i64.wrap ((k : Int) - 1) = (j : Int) := by rw [IntKind.wrap_i64]; omega
      have hkp : kidLo L k = p := by
        rw [hj]
        show (L[j]?).getD ⟨#[]⟩ = p
        rw [hp]
        rfl
      have f0 := free3 HB1.out.2.2 0
      obtain ⟨d0, d1, d2⟩ := box3 HB1.out.2.2
      have HB2 : Hid (Bx3 W g m lo hi top (kidLo L k) ⟨#[]⟩ true (w3.setCell ⟨m, 0, none⟩ (.string p))) := by
        rw [hkp]
        exact HB1.out.set0 p
      clear hj hp hkp HM
      go_wp2_with fail
      go_meet
      exact HB2
  case rest =>
  clear HB1
  have HB1 := hcut
  clear hcut
  go_upto_if 30 with fail
  go_cut [] (fun wx => Hid (Bx3 W g m lo hi top (kidLo L k) (kidHi L k).1 (kidHi L k).2 wx))
  case first =>
    by_cases hkl : k < n
    · obtain ⟨p, hp⟩ : ∃ p, L[k]? = some p := ⟨L[k]'(by rw [HN.out]; exact hkl), nat_lenS (by rw [HN.out]; exact hkl)⟩
      obtain ⟨b, o, e, -, c0⟩ := RdK.str (HH.out.kept HB1.out.1.1) hp
      subst e
      have hkp : kidHi L k = (p, false) := by
        unfold kidHi
        rw [hp]
      have f1 := free3 HB1.out.2.2 1
      obtain ⟨d0, d1, d2⟩ := box3 HB1.out.2.2
      have f2 := free3 HB1.out.2.2 2
      have HB2 := Lib.hid (HB1.out.set1 p)
      have HB3 : Hid (Bx3 W g m lo hi top (kidLo L k) (kidHi L k).1 (kidHi L k).2 ((wc.setCell ⟨m, 1, none⟩ (.string p)).setCell ⟨m, 2, none⟩ (.bool false))) := by
        rw [hkp]
        exact HB2.out.set2 false
      clear hp hkp HM
      go_wp2_with fail
      go_meet
      exact HB3
    · obtain rfl : k = n := by omega
      have HB2 : Hid (Bx3 W g m lo hi top (kidLo L k) (kidHi L k).1 (kidHi L k).2 wc) := by
        have hkp : kidHi L k = (⟨#[]⟩, true) := by
          unfold kidHi
          rw [List.getElem?_eq_none (by rw [HN.out]; exact Nat.le_refl _)]
        rw [hkp]
        exact HB1.out
      clear hkl
      go_wp2_with fail
      go_meet
      exact HB2
  case rest =>
  clear HB1
  have HB1 := hcut
  clear hcut
  generalize kidLo L k = a at *
  generalize kidHi L k = bt at *
  obtain ⟨b, t⟩ := bt
  obtain ⟨d0, d1, d2⟩ := box3 HB1.out.1.2.2.1
  obtain ⟨e0, e1, e2⟩ := box3 HB1.out.2.2
  obtain ⟨⟨r0, r1, r2⟩, ok⟩ := R
  have cM : ∀ w, Hid (Calls Try.prog 44 #[spanV lo hi top, spanV a b t] w fun e w' => e = .returned (.tuple #[spanV r0 r1 r2, .bool ok]) ∧ Below w.heap.size w w') := fun w => (Meet_any lo hi top a b t w).mono fun e w' ⟨he, hb⟩ => ⟨by
    rw [he]
    have := HM.out
    simp only at this
    unfold meetV
    rw [this], hb⟩
  have HF : ∀ w, Below wc.heap.size wc w → Hid (Below W.heap.size W (set3 w (g + 1) (.string r0) (.string r1) (.bool r2)) ∧ (set3 w (g + 1) (.string r0) (.string r1) (.bool r2)).heap[g + 1]? = some (.cells #[.string r0, .string r1, .bool r2] 37 (0, 0))) := fun w hb =>
    have h2 := HB1.out.1.kept hb
    ⟨set3_below h2.1 (by have := h2.2.1; omega) _ _ _, set3_at h2.2.2.2 _ _ _⟩
  have HG : ∀ w, Below wc.heap.size wc w → Hid (w.cell? ⟨g + 1, 0, none⟩ = some (.string ⟨#[]⟩) ∧ w.cell? ⟨g + 1, 1, none⟩ = some (.string ⟨#[]⟩) ∧ w.cell? ⟨g + 1, 2, none⟩ = some (.bool false) ∧ w.frozen? ⟨g + 1, 0, none⟩ = false ∧ w.frozen? ⟨g + 1, 1, none⟩ = false ∧ w.frozen? ⟨g + 1, 2, none⟩ = false) := fun w hb =>
    have h2 := HB1.out.1.kept hb
    ⟨(box3 h2.2.2.2).1, (box3 h2.2.2.2).2.1, (box3 h2.2.2.2).2.2, free3 h2.2.2.2 0, free3 h2.2.2.2 1, free3 h2.2.2.2 2⟩
  clear HM HB1
  go_wp2_with (go_at_call 44; refine (cM _).out.mono ?_; rintro e w6 ⟨rfl, hb⟩; obtain ⟨q0, q1, q2, p0, p1, p2⟩ := (HG _ hb).out; have fin := HF _ hb; unfold set3 at fin; clear HF HG d0 d1 d2 e0 e1 e2 cM)
  generalize ((w6.setCell ⟨g + 1, 0, none⟩ (.string r0)).setCell ⟨g + 1, 1, none⟩ (.string r1)).setCell ⟨g + 1, 2, none⟩ (.bool r2) = w9 at *
  obtain ⟨o0, o1, o2⟩ := box3 fin.out.2
  exact bodyPost_ret (v := .tuple #[.agg #[.string r0, .string r1, .bool r2], .bool ok]) (by simp [results, Try.results17, go_sem, o0, o1, o2]) rfl ⟨rfl, fin.out.1⟩
end Fa
end Go.Proofs.Ytlabbmfiecbigaa
