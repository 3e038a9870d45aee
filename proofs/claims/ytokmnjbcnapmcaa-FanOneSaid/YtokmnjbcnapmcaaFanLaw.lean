/-
  fan's laws: great, awake, FanWays.
-/
import Derived.Test.YtokmnjbcnapmcaaFanCalls
import Derived.Test.YtokmnjbcnapmcaaStrArgs
namespace Go.Proofs.Ytokmnjbcnapmcaa
open Go.RowKit
namespace Fa
open Mem Lx Bu
def FitS (L : List ByteArray) : Prop := L.length ≤ 80 ∧ ∀ x, x ∈ L → x.size ≤ 300
theorem fitS_key {L : List ByteArray} (h : FitS L) : ∀ m, m ∈ L → m.size ≤ maxLen := fun m hm => Nat.le_trans (h.2 m hm) (by decide)
theorem fitS_key3 {L : List ByteArray} (h : FitS L) : ∀ m, m ∈ L → m.size ≤ 1000 := fun m hm => Nat.le_trans (h.2 m hm) (by decide)
set_option maxRecDepth 100000 in
set_option maxHeartbeats 4000000 in
theorem great_any {W : World} {A : Option Addr} {c : Nat} {L : List ByteArray} (h : SL W A L) (key lo hi : ByteArray) (top : Bool) (hl : L.length ≤ maxLen) : Calls Try.prog 5 #[.slice A L.length c, .string key, .agg #[.string lo, .string hi, .bool top]] W fun e w' => (∃ v : Bool, e = .returned (.bool v) ∧ (v = false ↔ FitS L ∧ key.size ≤ 300 ∧ lo.size ≤ 300 ∧ hi.size ≤ 300)) ∧ Below W.heap.size W w' := by
  have HH := Lib.hid h
  generalize hn : L.length = n at *
  have HN := Lib.hid hn
  unfold maxLen at hl
  clear h hn
  obtain ⟨P, hP⟩ : ∃ P : Prop, P = (FitS L ∧ key.size ≤ 300 ∧ lo.size ≤ 300 ∧ hi.size ≤ 300) := ⟨_, rfl⟩
  have HP : Hid (P ↔ FitS L ∧ key.size ≤ 300 ∧ lo.size ≤ 300 ∧ hi.size ≤ 300) := by rw [hP]; exact Iff.rfl
  rw [← hP]
  clear hP
  go_enter Try.func5, Try.ntmps5
  go_upto_region 1 with fail
  have hx := heap_alloc_new W (.cells #[.string lo, .string hi, .bool top] 24)
  have hb0 : Below W.heap.size W (W.alloc (.cells #[.string lo, .string hi, .bool top] 24)) := (Below.refl _ _).alloc (Nat.le_refl _) _
  generalize W.alloc (.cells #[.string lo, .string hi, .bool top] 24) = w1 at *
  have HB1 := Lib.hid hb0
  obtain ⟨g, hg⟩ : ∃ g, g = W.heap.size := ⟨_, rfl⟩
  rw [← hg] at hx ⊢
  have HX := Lib.hid hx
  have HH1 := Lib.hid (HH.out.kept HB1.out)
  clear hx hb0 hg HH
  go_upto_block 0 with fail
  go_cut [] (fun wx => Hid (n ≤ 100 → ∀ x, x ∈ L → x.size ≤ 300) ∧ wx = w1)
  case first =>
    go_wp2_with fail
    go_loopg [7] (n + 1) (fun gk iv wx => ∃ j : Nat, j ≤ n ∧ j ≤ 100 ∧ gk = n + 1 - j ∧ iv = .int .i64 (j : Int) ∧ Hid (∀ (i : Nat) (x : ByteArray), i < j → L[i]? = some x → x.size ≤ 300) ∧ wx = w1)
    case atStart => exact ⟨0, Nat.zero_le _, Nat.zero_le _, rfl, rfl, fun i x hi => by omega, rfl⟩
    case round =>
      obtain ⟨j, hj, hj2, rfl, rfl, HJ, rfl⟩ := hrel
      by_cases hlt2 : j < n
      · by_cases hlt3 : j < 100
        · have hjL : j < L.length := by rw [HN.out]; exact hlt2
          obtain ⟨x, hxx⟩ : ∃ x, x = L[j] := ⟨_, rfl⟩
          have hx' := nat_lenS hjL
          rw [← hxx] at hx'
          obtain ⟨b, o, e, -, c0⟩ := RdK.str HH1.out hx'
          subst e
          have HXX := Lib.hid hx'
          have hw3 : IntKind.i64.wrap ((j : Int) + 1) = ((j + 1 : Nat) : Int) := by rw [IntKind.wrap_i64]; omega
          clear hxx hx' hjL
          by_cases hz : x.size ≤ 300
          · have HJ2 : Hid (∀ (i : Nat) (x : ByteArray), i < j + 1 → L[i]? = some x → x.size ≤ 300) := fun i y hi hy => by
              by_cases e : i = j
              · subst e
                rw [HXX.out] at hy
                cases hy
                exact hz
              · exact HJ.out i y (by omega) hy
            have hd : decide (300 < (x.size : Int)) = false := by simp; omega
            clear hz
            go_wp2_with fail
            go_roundg (n + 1 - (j + 1))
            case measure => omega
            case rel => exact ⟨j + 1, hlt2, hlt3, rfl, by go_num, HJ2, rfl⟩
          · have hd : (300 : Int) < (x.size : Int) := by omega
            have HNO : Hid (¬ P) := fun h => hz ((HP.out.1 h).1.2 x (List.mem_of_getElem? HXX.out))
            clear hz
            go_wp2_with fail
            go_ret
            exact ⟨⟨true, rfl, (fun h => by cases h), fun h => absurd h HNO.out⟩, HB1.out⟩
        · have HR : Hid (n ≤ 100 → ∀ x, x ∈ L → x.size ≤ 300) := fun _ x hx => by
            obtain ⟨i, hi⟩ := List.getElem?_of_mem hx
            have := (List.getElem?_eq_some_iff.1 hi).1
            rw [HN.out] at this
            exact HJ.out i x (by omega) hi
          obtain rfl : j = 100 := by omega
          go_wp2_with fail
          go_meet
          exact ⟨HR, rfl⟩
      · have HR : Hid (n ≤ 100 → ∀ x, x ∈ L → x.size ≤ 300) := fun _ x hx => by
          obtain ⟨i, hi⟩ := List.getElem?_of_mem hx
          have := (List.getElem?_eq_some_iff.1 hi).1
          rw [HN.out] at this
          exact HJ.out i x (by omega) hi
        obtain rfl : j = n := by omega
        clear hlt2
        go_wp2_with fail
        go_meet
        exact ⟨HR, rfl⟩
  case rest =>
  obtain ⟨HR, rfl⟩ := hcut
  obtain ⟨d0, d1, d2⟩ := box3 HX.out
  by_cases h1 : n ≤ 80
  case neg =>
    have hd1 : (80 : Int) < (n : Int) := by omega
    have HNO : Hid (¬ P) := fun h => h1 (by rw [← HN.out]; exact (HP.out.1 h).1.1)
    clear h1
    go_wp2_with fail
    go_ret
    exact ⟨⟨true, rfl, (fun h => by cases h), fun h => absurd h HNO.out⟩, HB1.out⟩
  have hd1 : decide (80 < (n : Int)) = false := by simp; omega
  by_cases h2 : key.size ≤ 300
  case neg =>
    have hd2 : (300 : Int) < (key.size : Int) := by omega
    have HNO : Hid (¬ P) := fun h => h2 (HP.out.1 h).2.1
    clear h1 h2
    go_wp2_with fail
    go_ret
    exact ⟨⟨true, rfl, (fun h => by cases h), fun h => absurd h HNO.out⟩, HB1.out⟩
  have hd2 : decide (300 < (key.size : Int)) = false := by simp; omega
  by_cases h3 : lo.size ≤ 300
  case neg =>
    have hd3 : (300 : Int) < (lo.size : Int) := by omega
    have HNO : Hid (¬ P) := fun h => h3 (HP.out.1 h).2.2.1
    clear h1 h2 h3
    go_wp2_with fail
    go_ret
    exact ⟨⟨true, rfl, (fun h => by cases h), fun h => absurd h HNO.out⟩, HB1.out⟩
  have hd3 : decide (300 < (lo.size : Int)) = false := by simp; omega
  by_cases h4 : hi.size ≤ 300
  case neg =>
    have hd4 : (300 : Int) < (hi.size : Int) := by omega
    have HNO : Hid (¬ P) := fun h => h4 (HP.out.1 h).2.2.2
    clear h1 h2 h3 h4
    go_wp2_with fail
    go_ret
    exact ⟨⟨true, rfl, (fun h => by cases h), fun h => absurd h HNO.out⟩, HB1.out⟩
  have hd4 : decide (300 < (hi.size : Int)) = false := by simp; omega
  have HYES : Hid P := HP.out.2 ⟨⟨by rw [HN.out]; exact h1, HR.out (by omega)⟩, h2, h3, h4⟩
  clear h1 h2 h3 h4
  go_wp2_with fail
  go_ret
  exact ⟨⟨false, rfl, fun _ => HYES.out, fun _ => rfl⟩, HB1.out⟩
def kB : ByteArray := ⟨#[98]⟩
def kD : ByteArray := ⟨#[100]⟩
theorem ex_way : wayS [kB, kD] ⟨#[97]⟩ = 0 ∧ wayS [kB, kD] ⟨#[98]⟩ = 1 ∧ wayS [kB, kD] ⟨#[99]⟩ = 1 ∧ wayS [kB, kD] ⟨#[100]⟩ = 2 := by decide +kernel
theorem ri_BD : SRi [kB, kD] := by decide +kernel
theorem ex_right : RightS [kB, kD] ⟨#[]⟩ ⟨#[]⟩ true := ⟨by decide +kernel, srise_iff.2 ri_BD⟩
theorem ex_not : ¬ RightS [kB, kD] ⟨#[98]⟩ ⟨#[]⟩ true := fun h => (h.1 kB (by simp)).2 rfl
theorem exS_key : ∀ m, m ∈ [kB, kD] → m.size ≤ 1000 := by decide +kernel
set_option maxRecDepth 100000 in
set_option maxHeartbeats 2000000 in
theorem awake_any (W : World) : Calls Try.prog 6 #[] W fun e w' => e = .returned (.bool true) ∧ Below W.heap.size W w' := by
  have cW : ∀ (w : World) (A : Option Addr) (key : ByteArray) (r : Nat), SL w A [kB, kD] → key.size ≤ 1000 → wayS [kB, kD] key = r → Hid (Calls Try.prog 12 #[.slice A 2 2, .string key] w fun e w' => e = .returned (.int .i64 (r : Int)) ∧ Below w.heap.size w w') := fun w A key r h hk hr => by
    have := Way_any (c := 2) (L := [kB, kD]) ⟨h, Nat.le_refl _⟩ key hk exS_key ri_BD (by decide)
    rw [hr] at this
    exact this
  have cT : ∀ (w : World) (A : Option Addr), SL w A [kB, kD] → Hid (Calls Try.prog 7 #[.slice A 2 2, .agg #[.string ⟨#[]⟩, .string ⟨#[]⟩, .bool true]] w fun e w' => e = .returned (.bool true) ∧ Below w.heap.size w w') := fun w A h =>
    (Right_any (c := 2) (L := [kB, kD]) ⟨h, Nat.le_refl _⟩ ⟨#[]⟩ ⟨#[]⟩ true (by decide) (by decide) exS_key (by decide)).mono fun e w' ⟨⟨v, he, hv⟩, hb⟩ => ⟨by rw [he, hv.2 ex_right], hb⟩
  have cF : ∀ (w : World) (A : Option Addr), SL w A [kB, kD] → Hid (Calls Try.prog 7 #[.slice A 2 2, .agg #[.string ⟨#[98]⟩, .string ⟨#[]⟩, .bool true]] w fun e w' => e = .returned (.bool false) ∧ Below w.heap.size w w') := fun w A h =>
    (Right_any (c := 2) (L := [kB, kD]) ⟨h, Nat.le_refl _⟩ ⟨#[98]⟩ ⟨#[]⟩ true (by decide) (by decide) exS_key (by decide)).mono fun e w' ⟨⟨v, he, hv⟩, hb⟩ => ⟨by
      cases v
      · exact he
      · exact absurd (hv.1 rfl) ex_not, hb⟩
  have cA := fun w A h => cW w A ⟨#[97]⟩ 0 h (by decide) ex_way.1
  have cB := fun w A h => cW w A ⟨#[98]⟩ 1 h (by decide) ex_way.2.1
  have cC := fun w A h => cW w A ⟨#[99]⟩ 1 h (by decide) ex_way.2.2.1
  have cD := fun w A h => cW w A ⟨#[100]⟩ 2 h (by decide) ex_way.2.2.2
  clear cW
  go_enter Try.func6, Try.ntmps6
  go_upto_region 2 with fail
  have HS : Hid (SL (W.alloc (.cells #[.string ⟨#[98]⟩, .string ⟨#[100]⟩] 9)) (some ⟨W.heap.size, 0, none⟩) [kB, kD]) := RdK.of_sblock (heap_alloc_new W _)
  have HB : Hid (Below W.heap.size W (W.alloc (.cells #[.string ⟨#[98]⟩, .string ⟨#[100]⟩] 9))) := (Below.refl _ _).alloc (Nat.le_refl _) _
  generalize W.alloc (.cells #[.string ⟨#[98]⟩, .string ⟨#[100]⟩] 9) = w1 at *
  obtain ⟨g, hg⟩ : ∃ g, g = W.heap.size := ⟨_, rfl⟩
  rw [← hg] at HS ⊢
  clear hg
  go_wp2_with (first
    | (go_at_call 12; (first | (refine (cA _ _ HS.out).out.mono ?_; clear cA) | (refine (cB _ _ HS.out).out.mono ?_; clear cB) | (refine (cC _ _ HS.out).out.mono ?_; clear cC) | (refine (cD _ _ HS.out).out.mono ?_; clear cD)); rintro e w' ⟨rfl, hb⟩; replace HS := Lib.hid (HS.out.kept hb); replace HB := Lib.hid (HB.out.trans (hb.mono HB.out.size)); clear hb)
    | (go_at_call 7; (first | (refine (cT _ _ HS.out).out.mono ?_; clear cT) | (refine (cF _ _ HS.out).out.mono ?_; clear cF)); rintro e w' ⟨rfl, hb⟩; replace HS := Lib.hid (HS.out.kept hb); replace HB := Lib.hid (HB.out.trans (hb.mono HB.out.size)); clear hb))
  go_ret
  exact ⟨rfl, HB.out⟩
end Fa
end Go.Proofs.Ytokmnjbcnapmcaa
