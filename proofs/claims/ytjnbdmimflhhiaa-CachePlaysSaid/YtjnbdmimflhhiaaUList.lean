/-
  Slices of numbers, and whether two are the same.
-/
import Derived.Test.YtjnbdmimflhhiaaChecked
import Derived.Test.YtjnbdmimflhhiaaVals
import Derived.WalkKit
import Derived.WalkLawsBesides
import Derived.KernelRfl
import Derived.WalkSpells
import Derived.BigQuiet
namespace Go.Proofs.Ytjnbdmimflhhiaa
open Go.RowKit
namespace Po
open Mem

theorem retB {a b : Bool} (h : a = b) : Ending.returned (.bool a) = .returned (.bool b) := by rw [h]
theorem u32info : (Try.prog.info? 23).map (fun i => (i.zero, i.size, i.bytes)) = some (some (.int .u32 0), 1, 4) := by kernel_rfl
/-- a number as a value -/
def u32V (x : Nat) : Value := .int .u32 (x : Int)
/-- a slice of numbers that reads as l -/
def UL (w : World) (A : Option Addr) (l : List Nat) : Prop := 0 < l.length → ∃ b, A = some ⟨b, 0, none⟩ ∧ b < w.heap.size ∧ ∀ i (h : i < l.length), w.cell? ⟨b, i, none⟩ = some (.int .u32 (l[i] : Int))
theorem UL.below {B : Nat} {w w' : World} {A : Option Addr} {l : List Nat} (h : UL w A l) (hb : Below B w w') (hB : w.heap.size ≤ B) : UL w' A l := fun h0 => by
  obtain ⟨b, rfl, hlt, hc⟩ := h h0
  refine ⟨b, rfl, Nat.lt_of_lt_of_le hlt hb.size, fun i hi => ?_⟩
  rw [← hc i hi]
  exact World.cell?_of_block (w := w) (a := ⟨b, i, none⟩) (hb.block b (by omega))
theorem UL.kept {w w' : World} {A : Option Addr} {l : List Nat} (h : UL w A l) (hb : Below w.heap.size w w') : UL w' A l := h.below hb (Nat.le_refl _)
theorem UL.of_vo {w : World} {B c : Nat} {A : Option Addr} {l : List Nat} (h : VO 23 w B A c (l.map u32V)) : UL w A l := fun h0 => by
  obtain ⟨g, rfl, hc⟩ := h.cell (by simpa using h0)
  refine ⟨g, rfl, (h.at_ _ rfl).2, fun i hi => ?_⟩
  rw [hc i (by simpa using hi)]
  simp [u32V]
theorem UL.of_ow {w : World} {c g : Nat} {l : List Nat} (h : Ow 23 w g c (l.map u32V)) : UL w (some ⟨g, 0, none⟩) l := fun _ => by
  refine ⟨g, rfl, h.lt, fun i hi => ?_⟩
  rw [h.cell (by simpa using hi)]
  simp [u32V]
theorem UL.nil (w : World) : UL w none [] := fun h => absurd h (by simp)
/-- rows of unlike kinds lie in unlike blocks -/
theorem vo_ne_ow {U U' : TypeId} {w : World} {B c h c' : Nat} {A : Option Addr} {vs vs' : List Value} (hv : VO U w B A c vs) (ho : Ow U' w h c' vs') (hU : U ≠ U') : ∀ a, A = some a → a.block ≠ h := by
  rintro a rfl rfl
  obtain ⟨_, h2⟩ := hv
  obtain ⟨_, h4⟩ := ho
  rcases h2 with ⟨h2, _⟩ | ⟨g, cap, cur, he, _, hh, _⟩
  · cases h2
  rcases h4 with ⟨h4, _⟩ | ⟨g', cap', cur', he', _, hh', _⟩
  · cases h4
  obtain ⟨rfl, _⟩ : a = ⟨g, 0, none⟩ ∧ c = cap := by simpa using he
  obtain ⟨rfl, _⟩ : g = g' ∧ c' = cap' := by simpa using he'
  rw [hh] at hh'
  injection hh' with hh'
  injection hh' with _ e _
  exact hU e
theorem eq_upto {l l' : List Nat} {k : Nat} (h : ∀ i, i < k → l[i]? = l'[i]?) (h1 : l.length ≤ k) (h2 : l'.length ≤ k) : l = l' := by
  apply List.ext_getElem?
  intro i
  by_cases hi : i < k
  · exact h i hi
  · rw [List.getElem?_eq_none (by omega), List.getElem?_eq_none (by omega)]
theorem below_drewN (w : World) (n : Nat) : Below w.heap.size w (w.drewN n) := ⟨rfl, rfl, rfl, Nat.le_refl _, fun _ _ => rfl⟩

set_option maxHeartbeats 1000000 in
set_option maxRecDepth 100000 in
theorem Same_any (A A' : Option Addr) (m m' c c' : Nat) (l l' : List Nat) (w : World) (h : UL w A l) (h' : UL w A' l') (hl : l.length = m) (hl' : l'.length = m') (hm : m ≤ 1048576) (hm' : m' ≤ 1048576) :
    Calls Try.prog 19 #[.slice A m c, .slice A' m' c'] w fun e w' => e = .returned (.bool (decide (l = l'))) ∧ Below w.heap.size w w' := by
  by_cases hmm : m = m'
  · subst hmm
    have HU := Lib.hid h
    have HU' := Lib.hid h'
    have HL := Lib.hid hl
    have HL' := Lib.hid hl'
    clear h h' hl hl'
    go_enter Try.func19, Try.ntmps19
    go_wp2
    go_loopw [5] (fun i wr => ∃ k : Nat, k ≤ m ∧ i = .int .i64 (k : Int) ∧ Hid (∀ i, i < k → l[i]? = l'[i]?) ∧ ∃ n, wr = w.drewN n) (fun i _ => m - (intOf i).toNat)
    case atStart => exact ⟨0, Nat.zero_le _, rfl, fun i hi => by omega, 0, rfl⟩
    case round =>
      obtain ⟨k, hk, rfl, HE, n, rfl⟩ := hrel
      by_cases hlt : k < m
      · have k1 : k < l.length := by rw [HL.out]; exact hlt
        have k2 : k < l'.length := by rw [HL'.out]; exact hlt
        obtain ⟨b, rfl, -, hc⟩ := HU.out (by omega)
        obtain ⟨b', rfl, -, hc'⟩ := HU'.out (by omega)
        have d := hc k k1
        have d' := hc' k k2
        obtain ⟨x, hx⟩ : ∃ x, x = l[k] := ⟨_, rfl⟩
        obtain ⟨y, hy⟩ : ∃ y, y = l'[k] := ⟨_, rfl⟩
        rw [← hx] at d
        rw [← hy] at d'
        by_cases hxy : x = y
        · subst hxy
          have HE2 : Hid (∀ i, i < k + 1 → l[i]? = l'[i]?) := fun i hi => by
            by_cases hik : i = k
            · subst hik
              rw [List.getElem?_eq_getElem k1, List.getElem?_eq_getElem k2, ← hx, ← hy]
            · exact HE.out i (by omega)
          clear hx hy hc hc' k1 k2
          go_wp2
          go_quiet (fail)
          go_wp2
          go_roundw
          case rel => exact ⟨k + 1, hlt, by go_num, HE2, _, rfl⟩
          case measure => simp [intOf]; omega
        · have HF : Hid (decide (l = l') = false) := by
            unfold Hid
            simp only [decide_eq_false_iff_not]
            rintro rfl
            exact hxy (by rw [hx, hy])
          have hne : ((x : Int) == (y : Int)) = false := by simp; omega
          clear hx hy hc hc' k1 k2 hxy
          go_wp2
          go_quiet (fail)
          go_wp2
          go_ret
          exact ⟨retB HF.out.symm, ⟨rfl, rfl, rfl, Nat.le_refl _, fun _ _ => rfl⟩⟩
      · obtain rfl : k = m := by omega
        have HT : Hid (decide (l = l') = true) := by
          unfold Hid
          simp only [decide_eq_true_eq]
          exact eq_upto HE.out (by rw [HL.out]; exact Nat.le_refl _) (by rw [HL'.out]; exact Nat.le_refl _)
        go_wp2
        go_ret
        exact ⟨retB HT.out.symm, below_drewN w _⟩
  · have HF : Hid (decide (l = l') = false) := by
      unfold Hid
      simp only [decide_eq_false_iff_not]
      rintro rfl
      omega
    have hne : ((m : Int) == (m' : Int)) = false := by simp; omega
    clear h h' hl hl' hmm
    go_enter Try.func19, Try.ntmps19
    go_wp2
    go_ret
    exact ⟨retB HF.out.symm, Below.refl _ _⟩
end Po
end Go.Proofs.Ytjnbdmimflhhiaa
