/-
  The code's leaf: the place of a key, found by halves; both places of a span.
-/
import Derived.Test.YtoibkjggfkkdhaaCmpC
import Derived.Test.YtoibkjggfkkdhaaPairP
namespace Go.Proofs.Ytoibkjggfkkdhaa
open Go.RowKit
namespace Lf
open Mem Lx Bu
theorem CCmp (a b : ByteArray) (w : World) : Calls Try.prog 22 #[.string a, .string b] w fun e w' => e = .returned (.int .i64 (cmpB a b)) ∧ Below w.heap.size w w' :=
  (Compare_any a b w).mono fun e w' ⟨he, hw⟩ => ⟨he, by subst hw; exact Below.refl _ _⟩
set_option maxRecDepth 100000 in
set_option maxHeartbeats 2000000 in
theorem cmpKey_any (x : Pr) (key : ByteArray) (w : World) : Calls Try.prog 34 #[.agg #[.string x.1, .string x.2], .string key] w fun e w' => e = .returned (.int .i64 (cmpB x.1 key)) ∧ Below w.heap.size w w' := by
  go_enter Try.func34, Try.ntmps34
  go_wp2_with (go_at_call 22; refine (CCmp _ _ _).mono ?_; rintro e w' ⟨rfl, hb⟩)
  go_ret
  exact ⟨rfl, ((Below.refl _ _).alloc (Nat.le_refl _) _).trans (hb.mono (by simp))⟩
/-- where a key stands, or would stand -/
structure Lb (L : List Pr) (key : ByteArray) (p : Nat) : Prop where
  le : p ≤ L.length
  lo : ∀ (i : Nat) (m : Pr), i < p → L[i]? = some m → cmpB m.1 key < 0
  hi : ∀ (i : Nat) (m : Pr), p ≤ i → L[i]? = some m → 0 ≤ cmpB m.1 key
theorem PRi.lower {L : List Pr} (h : PRi L) {key : ByteArray} {j : Nat} {y : Pr} (hy : L[j]? = some y) (hk : cmpB y.1 key < 0) : ∀ (i : Nat) (m : Pr), i < j + 1 → L[i]? = some m → cmpB m.1 key < 0 := fun i m hi hm => by
  rcases Nat.lt_or_ge i j with hij | hij
  · exact cmpB_trans (h.at_ hm hy hij) hk
  · obtain rfl : i = j := by omega
    rw [hy] at hm
    cases hm
    exact hk
theorem PRi.upper {L : List Pr} (h : PRi L) {key : ByteArray} {j : Nat} {y : Pr} (hy : L[j]? = some y) (hk : 0 ≤ cmpB y.1 key) : ∀ (i : Nat) (m : Pr), j ≤ i → L[i]? = some m → 0 ≤ cmpB m.1 key := fun i m hi hm => by
  rcases Nat.lt_or_ge j i with hij | hij
  · have h1 := h.at_ hy hm hij
    rcases Int.lt_or_le (cmpB m.1 key) 0 with h2 | h2
    · have := cmpB_trans h1 h2
      omega
    · exact h2
  · obtain rfl : i = j := by omega
    rw [hy] at hm
    cases hm
    exact hk
set_option maxRecDepth 100000 in
set_option maxHeartbeats 4000000 in
theorem search_any {W : World} {A : Option Addr} {c : Nat} {L : List Pr} (h : PL W A L) (key : ByteArray) (hr : PRi L) (hl : L.length ≤ 1048576) : Calls Try.prog 33 #[.slice A L.length c, .string key, .func (.func 34) #[] #[]] W fun e w' => (∃ (p : Nat) (b : Bool), e = .returned (.tuple #[.int .i64 (p : Int), .bool b]) ∧ Lb L key p ∧ (b = true ↔ ∃ m, L[p]? = some m ∧ m.1 = key)) ∧ Below W.heap.size W w' := by
  obtain ⟨n, hn⟩ : ∃ n, n = L.length := ⟨_, rfl⟩
  have HN := Lib.hid hn
  have HH := Lib.hid h
  have HR := Lib.hid hr
  rw [← hn] at hl ⊢
  clear h hr hn
  go_enter Try.func33, Try.ntmps33
  go_wp2_with fail
  go_loopg [9, 10] n (fun gk s9 s10 wr => ∃ lo hi : Nat, lo ≤ hi ∧ hi ≤ n ∧ gk = hi - lo ∧ s9 = .int .i64 (lo : Int) ∧ s10 = .int .i64 (hi : Int) ∧ Hid (∀ (i : Nat) (m : Pr), i < lo → L[i]? = some m → cmpB m.1 key < 0) ∧ Hid (∀ (i : Nat) (m : Pr), hi ≤ i → L[i]? = some m → 0 ≤ cmpB m.1 key) ∧ Hid (Below W.heap.size W wr))
  case atStart => exact ⟨0, n, Nat.zero_le _, Nat.le_refl _, rfl, rfl, rfl, fun i m hi => by omega, fun i m hi hm => by
    have := (List.getElem?_eq_some_iff.1 hm).1
    rw [← HN.out] at this
    omega, Below.refl _ _⟩
  case round =>
    obtain ⟨lo, hi, hlh, hhn, rfl, rfl, rfl, HL, HU, HB⟩ := hrel
    by_cases hlt : lo < hi
    · obtain ⟨k, hk⟩ : ∃ k, k = (lo + hi) / 2 := ⟨_, rfl⟩
      have hk1 : lo ≤ k := by omega
      have hk2 : k < hi := by omega
      have hkn : k < n := by omega
      have hj : k < L.length := by rw [← HN.out]; exact hkn
      obtain ⟨x, hx⟩ : ∃ x, x = L[k] := ⟨_, rfl⟩
      have hx' := nat_len hj
      rw [← hx] at hx'
      obtain ⟨b, o, e, -, c0, c1⟩ := RdK.pair (HH.out.kept HB.out) hx'
      subst e
      have HX := Lib.hid hx'
      have cC := fun w => Lib.hid (cmpKey_any x key w)
      have hw1 : IntKind.i64.wrap ((lo : Int) + (hi : Int)) = (lo : Int) + (hi : Int) := by rw [IntKind.wrap_i64]; omega
      have hw2 : IntKind.i64.wrap ((k : Int) + 1) = ((k + 1 : Nat) : Int) := by rw [IntKind.wrap_i64]; omega
      have hq : ((lo : Int) + (hi : Int)) / 2 = (k : Int) := by omega
      have hsh : ∀ w, (binOp .shr 59 (.int .u64 ((lo : Int) + (hi : Int))) (.int .u64 1)).run Try.prog w = .ok (.int .u64 (k : Int)) w := fun w => by
        rw [← hq]
        simp [go_sem]
      have hw3 : IntKind.i64.wrap (k : Int) = (k : Int) := by rw [IntKind.wrap_i64]; omega
      have HQ := Lib.hid hq
      have HK := Lib.hid hk
      clear hx hx' hj hq hk hsh
      go_upto_region 5 with fail
      rw [HQ.out]
      by_cases hz : cmpB x.1 key < 0
      · have HL2 : Hid (∀ (i : Nat) (m : Pr), i < k + 1 → L[i]? = some m → cmpB m.1 key < 0) := HR.out.lower HX.out hz
        generalize cmpB x.1 key = z at *
        go_wp2_with (go_at_call 34; refine (cC _).out.mono ?_; rintro e w' ⟨rfl, hb⟩)
        have HB2 := Lib.hid (HB.out.trans (hb.mono HB.out.size))
        go_roundg (hi - (k + 1))
        case measure => omega
        case rel => exact ⟨k + 1, hi, by omega, hhn, rfl, by go_num, rfl, HL2, HU, HB2⟩
      · have HU2 : Hid (∀ (i : Nat) (m : Pr), k ≤ i → L[i]? = some m → 0 ≤ cmpB m.1 key) := HR.out.upper HX.out (by omega)
        have hd : decide (cmpB x.1 key < 0) = false := by simpa using hz
        generalize cmpB x.1 key = z at *
        go_wp2_with (go_at_call 34; refine (cC _).out.mono ?_; rintro e w' ⟨rfl, hb⟩)
        have HB2 := Lib.hid (HB.out.trans (hb.mono HB.out.size))
        go_roundg (k - lo)
        case measure => omega
        case rel => exact ⟨lo, k, hk1, by omega, rfl, rfl, rfl, HL, HU2, HB2⟩
    · obtain rfl : lo = hi := by omega
      have HP : Hid (Lb L key lo) := ⟨by rw [← HN.out]; exact hhn, HL.out, HU.out⟩
      by_cases hnn : lo < n
      · have hj : lo < L.length := by rw [← HN.out]; exact hnn
        obtain ⟨x, hx⟩ : ∃ x, x = L[lo] := ⟨_, rfl⟩
        have hx' := nat_len hj
        rw [← hx] at hx'
        obtain ⟨b, o, e, -, c0, c1⟩ := RdK.pair (HH.out.kept HB.out) hx'
        subst e
        have HX := Lib.hid hx'
        have cC := fun w => Lib.hid (cmpKey_any x key w)
        clear hx hx' hj
        by_cases hz : cmpB x.1 key = 0
        · have HF : Hid (∃ m, L[lo]? = some m ∧ m.1 = key) := ⟨x, HX.out, cmpB_zero hz⟩
          generalize cmpB x.1 key = z at *
          go_wp2_with (go_at_call 34; refine (cC _).out.mono ?_; rintro e w' ⟨rfl, hb⟩)
          have HB2 := Lib.hid (HB.out.trans (hb.mono HB.out.size))
          exact bodyPost_ret (v := .tuple #[.int .i64 (lo : Int), .bool true]) (by simp [results, Try.results33, go_sem]) rfl ⟨⟨lo, true, rfl, HP.out, by simpa using HF.out⟩, HB2.out⟩
        · have HF : Hid (¬ ∃ m, L[lo]? = some m ∧ m.1 = key) := fun ⟨m, h1, h2⟩ => hz (by
            rw [HX.out] at h1
            cases h1
            rw [h2]
            exact cmpB_self key)
          have hd : decide (cmpB x.1 key = 0) = false := by simpa using hz
          generalize cmpB x.1 key = z at *
          go_wp2_with (go_at_call 34; refine (cC _).out.mono ?_; rintro e w' ⟨rfl, hb⟩)
          have HB2 := Lib.hid (HB.out.trans (hb.mono HB.out.size))
          exact bodyPost_ret (v := .tuple #[.int .i64 (lo : Int), .bool false]) (by simp [results, Try.results33, go_sem, hz]) rfl ⟨⟨lo, false, rfl, HP.out, by simpa using HF.out⟩, HB2.out⟩
      · have HF : Hid (¬ ∃ m, L[lo]? = some m ∧ m.1 = key) := fun ⟨m, h1, _⟩ => hnn (by
          have := (List.getElem?_eq_some_iff.1 h1).1
          rw [HN.out]
          exact this)
        have hge : n ≤ lo := by omega
        have hd : decide ((lo : Int) < (n : Int)) = false := by simp; omega
        clear hnn hlt
        go_wp2_with fail
        exact bodyPost_ret (v := .tuple #[.int .i64 (lo : Int), .bool false]) (by simp [results, Try.results33, go_sem]) rfl ⟨⟨lo, false, rfl, HP.out, by simpa using HF.out⟩, HB.out⟩
set_option maxRecDepth 100000 in
set_option maxHeartbeats 2000000 in
theorem place_any {W : World} {A : Option Addr} {c : Nat} {L : List Pr} (h : PL W A L) (key : ByteArray) (hr : PRi L) (hl : L.length ≤ 1048576) : Calls Try.prog 24 #[.slice A L.length c, .string key] W fun e w' => (∃ (p : Nat) (b : Bool), e = .returned (.tuple #[.int .i64 (p : Int), .bool b]) ∧ Lb L key p ∧ (b = true ↔ ∃ m, L[p]? = some m ∧ m.1 = key)) ∧ Below W.heap.size W w' := by
  have cS := Lib.hid (search_any (c := c) h key hr hl)
  clear h
  generalize L.length = n at *
  go_enter Try.func24, Try.ntmps24
  go_wp2_with (go_at_call 33; refine cS.out.mono ?_; rintro e w' ⟨⟨p, b, rfl, h1, h2⟩, hb⟩)
  exact bodyPost_ret (v := .tuple #[.int .i64 (p : Int), .bool b]) (by simp [results, Try.results24, go_sem]) rfl ⟨⟨p, b, rfl, h1, h2⟩, hb⟩
/-- those within lie together -/
structure Cut (P : Pr → Bool) (L : List Pr) (p q : Nat) : Prop where
  pq : p ≤ q
  le : q ≤ L.length
  ahead : ∀ (i : Nat) (m : Pr), i < p → L[i]? = some m → P m = false
  inn : ∀ (i : Nat) (m : Pr), p ≤ i → i < q → L[i]? = some m → P m = true
  behind : ∀ (i : Nat) (m : Pr), q ≤ i → L[i]? = some m → P m = false
theorem Lb.cut_top {L : List Pr} {lo hi : ByteArray} {p : Nat} (h : Lb L lo p) : Cut (fun m => inB lo hi true m.1) L p L.length :=
  ⟨h.le, Nat.le_refl _, fun i m hi hm => by
    have := h.lo i m hi hm
    rw [cmpB_neg] at this
    simp [inB]
    omega, fun i m hi _ hm => by
    have := h.hi i m hi hm
    rw [cmpB_neg] at this
    simp [inB]
    omega, fun i m hi hm => by
    have := (List.getElem?_eq_some_iff.1 hm).1
    omega⟩
theorem Lb.cut {L : List Pr} {lo hi : ByteArray} {p q r : Nat} (h : Lb L lo p) (k : Lb L hi r) (hq : q = if p < r then r else p) : Cut (fun m => inB lo hi false m.1) L p q := by
  have h1 := h.le
  have h2 := k.le
  have hz : q = p ∧ r ≤ p ∨ q = r ∧ p < r := by
    by_cases hpr : p < r
    · rw [if_pos hpr] at hq
      exact .inr ⟨hq, hpr⟩
    · rw [if_neg hpr] at hq
      exact .inl ⟨hq, by omega⟩
  clear hq
  refine ⟨by omega, by omega, fun i m hi hm => ?_, fun i m hi hi2 hm => ?_, fun i m hi hm => ?_⟩
  · have h3 := h.lo i m hi hm
    have h4 := cmpB_neg lo m.1
    simp [inB]
    omega
  · have h3 := h.hi i m hi hm
    have h4 := cmpB_neg lo m.1
    have h5 := k.lo i m (by omega) hm
    simp [inB]
    omega
  · have h5 := k.hi i m (by omega) hm
    simp [inB]
    omega
set_option maxRecDepth 100000 in
set_option maxHeartbeats 2000000 in
theorem places_any {W : World} {A : Option Addr} {c : Nat} {L : List Pr} (h : PL W A L) (lo hi : ByteArray) (top : Bool) (hr : PRi L) (hl : L.length ≤ 1048576) : Calls Try.prog 28 #[.slice A L.length c, .agg #[.string lo, .string hi, .bool top]] W fun e w' => (∃ (p q : Nat), e = .returned (.tuple #[.int .i64 (p : Int), .int .i64 (q : Int)]) ∧ Cut (fun m => inB lo hi top m.1) L p q) ∧ Below W.heap.size W w' := by
  have cS := fun (W' : World) (hb : Below W.heap.size W W') (key : ByteArray) => Lib.hid (place_any (c := c) (h.kept hb) key hr hl)
  clear h
  generalize hn : L.length = n at *
  have HN := Lib.hid hn
  clear hn
  go_enter Try.func28, Try.ntmps28
  go_upto_region 1 with fail
  have hx := heap_alloc_new W (.cells #[.string lo, .string hi, .bool top] 37)
  have hb0 : Below W.heap.size W (W.alloc (.cells #[.string lo, .string hi, .bool top] 37)) := (Below.refl _ _).alloc (Nat.le_refl _) _
  generalize W.alloc (.cells #[.string lo, .string hi, .bool top] 37) = w1 at *
  obtain ⟨g, hg⟩ : ∃ g, g = W.heap.size := ⟨_, rfl⟩
  rw [← hg] at hx ⊢
  obtain ⟨d0, d1, d2⟩ := box3 hx
  have HX := Lib.hid hx
  have HB := Lib.hid hb0
  clear hx hb0 hg
  go_upto_region 2 with (go_at_call 24; refine (cS _ HB.out _).out.mono ?_; rintro e w2 ⟨⟨p, b, rfl, h1, h2⟩, hb⟩)
  have HP := Lib.hid h1
  obtain ⟨x0, x1, x2⟩ := box3 (kept3 HX.out hb)
  replace HB := Lib.hid (HB.out.trans (hb.mono HB.out.size))
  have hpn : p ≤ n := by rw [← HN.out]; exact h1.le
  clear h1 h2 hb d0 d1 d2 HX
  cases top with
  | true =>
    have HC : Hid (Cut (fun m => inB lo hi true m.1) L p n) := by
      have := HP.out.cut_top (hi := hi)
      rw [HN.out] at this
      exact this
    go_upto_region 5 with fail
    rcases Nat.lt_or_ge p n with hlt | hge
    · go_wp2_with fail
      exact bodyPost_ret (v := .tuple #[.int .i64 (p : Int), .int .i64 (n : Int)]) (by simp [results, Try.results28, go_sem]) rfl ⟨⟨p, n, rfl, HC.out⟩, HB.out⟩
    · obtain rfl : p = n := by omega
      go_wp2_with fail
      exact bodyPost_ret (v := .tuple #[.int .i64 (p : Int), .int .i64 (p : Int)]) (by simp [results, Try.results28, go_sem]) rfl ⟨⟨p, p, rfl, HC.out⟩, HB.out⟩
  | false =>
    go_upto_region 5 with (go_at_call 24; refine (cS _ HB.out _).out.mono ?_; rintro e w3 ⟨⟨r, b2, rfl, h1, h2⟩, hb⟩)
    have HR := Lib.hid h1
    replace HB := Lib.hid (HB.out.trans (hb.mono HB.out.size))
    have hrn : r ≤ n := by rw [← HN.out]; exact h1.le
    clear h1 h2 hb x0 x1 x2 cS
    rcases Nat.lt_or_ge p r with hlt | hge
    · have HC : Hid (Cut (fun m => inB lo hi false m.1) L p r) := HP.out.cut HR.out (by rw [if_pos hlt])
      go_wp2_with fail
      exact bodyPost_ret (v := .tuple #[.int .i64 (p : Int), .int .i64 (r : Int)]) (by simp [results, Try.results28, go_sem]) rfl ⟨⟨p, r, rfl, HC.out⟩, HB.out⟩
    · have HC : Hid (Cut (fun m => inB lo hi false m.1) L p p) := HP.out.cut HR.out (by rw [if_neg (by omega)])
      go_wp2_with fail
      exact bodyPost_ret (v := .tuple #[.int .i64 (p : Int), .int .i64 (p : Int)]) (by simp [results, Try.results28, go_sem]) rfl ⟨⟨p, p, rfl, HC.out⟩, HB.out⟩
end Lf
end Go.Proofs.Ytoibkjggfkkdhaa
