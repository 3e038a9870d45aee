/-
  great of buf's laws, over one list and over two.
-/
import Derived.Test.YtmgmkfophdjidaaMsgR
namespace Go.Proofs.Ytmgmkfophdjidaa
open Go.RowKit
namespace Bu
open Mem Lx
/-- short enough for the document's answer -/
def Fit (L : List Mg) : Prop := L.length ≤ 150 ∧ ∀ m, m ∈ L → m.1.size ≤ 300
/-- a block of slices that read as these lists -/
def MM (w : World) (g : Nat) (LS : List (List Mg)) : Prop := ∀ (i : Nat) (L : List Mg), LS[i]? = some L → ∃ A c, w.cell? ⟨g, i, none⟩ = some (.slice A L.length c) ∧ ML w A L
theorem MM.one {w : World} {g : Nat} {U : TypeId} {L : List Mg} {A : Option Addr} {c : Nat} {fl : Nat × Nat} (h : w.heap[g]? = some (.cells #[.slice A L.length c] U fl)) (hL : ML w A L) : MM w g [L] := fun i M hM => by
  match i, hM with
  | 0, hM =>
    cases hM
    exact ⟨A, c, by simp [World.cell?, h], hL⟩
theorem MM.two {w : World} {g : Nat} {U : TypeId} {L L' : List Mg} {A A' : Option Addr} {c c' : Nat} {fl : Nat × Nat} (h : w.heap[g]? = some (.cells #[.slice A L.length c, .slice A' L'.length c'] U fl)) (hL : ML w A L) (hL' : ML w A' L') : MM w g [L, L'] := fun i M hM => by
  match i, hM with
  | 0, hM =>
    cases hM
    exact ⟨A, c, by simp [World.cell?, h], hL⟩
  | 1, hM =>
    cases hM
    exact ⟨A', c', by simp [World.cell?, h], hL'⟩
set_option maxRecDepth 100000 in
set_option maxHeartbeats 2000000 in
theorem great_any {W : World} {g cx : Nat} {LS : List (List Mg)} (h : MM W g LS) (hn : LS.length ≤ 1000) (hl : ∀ L, L ∈ LS → L.length ≤ maxLen) : Calls Try.prog 7 #[.slice (some ⟨g, 0, none⟩) LS.length cx] W fun e w' => (∃ v : Bool, e = .returned (.bool v) ∧ (v = false ↔ ∀ L, L ∈ LS → Fit L)) ∧ w' = W := by
  obtain ⟨n, hnn⟩ : ∃ n, n = LS.length := ⟨_, rfl⟩
  have HN := Lib.hid hnn
  have HH := Lib.hid h
  have HL := Lib.hid hl
  rw [← hnn] at hn ⊢
  clear h hnn hl
  go_enter Try.func7, Try.ntmps7
  go_wp2_with fail
  go_loopg [3] n (fun gk iv wr => ∃ k : Nat, k ≤ n ∧ gk = n - k ∧ iv = .int .i64 (k : Int) ∧ Hid (∀ i L, i < k → LS[i]? = some L → Fit L) ∧ wr = W)
  case atStart => exact ⟨0, Nat.zero_le _, rfl, rfl, fun i L hi => by omega, rfl⟩
  case round =>
    obtain ⟨k, hk, rfl, rfl, HE, rfl⟩ := hrel
    by_cases hlt : k < n
    · have hkL : k < LS.length := by rw [← HN.out]; exact hlt
      obtain ⟨L, hLL⟩ : ∃ L, L = LS[k] := ⟨_, rfl⟩
      have hL' : LS[k]? = some L := by rw [hLL]; exact List.getElem?_eq_getElem hkL
      obtain ⟨A, c, hc, hML⟩ := HH.out k L hL'
      have HLL := Lib.hid hL'
      have hmx := HL.out L (List.mem_of_getElem? hL')
      have HML := Lib.hid hML
      obtain ⟨l, hl⟩ : ∃ l, l = L.length := ⟨_, rfl⟩
      have HLN := Lib.hid hl
      rw [← hl] at hc hmx
      clear hkL hLL hL' hML hl
      unfold maxLen at hmx
      have hw2 : IntKind.i64.wrap ((k : Int) + 1) = ((k + 1 : Nat) : Int) := by rw [IntKind.wrap_i64]; omega
      go_upto_block 2 with fail
      go_cut [] (fun wx => Hid (l ≤ 200 → ∀ m, m ∈ L → m.1.size ≤ 300) ∧ wx = wr)
      case first =>
        go_wp2_with fail
        go_loopg [4] (l + 1) (fun gk iv wx => ∃ j : Nat, j ≤ l ∧ j ≤ 200 ∧ gk = l + 1 - j ∧ iv = .int .i64 (j : Int) ∧ Hid (∀ (i : Nat) (m : Mg), i < j → L[i]? = some m → m.1.size ≤ 300) ∧ wx = wr)
        case atStart => exact ⟨0, Nat.zero_le _, Nat.zero_le _, rfl, rfl, fun i m hi => by omega, rfl⟩
        case round =>
          obtain ⟨j, hj, hj2, rfl, rfl, HJ, rfl⟩ := hrel
          by_cases hlt2 : j < l
          · by_cases hlt3 : j < 200
            · have hjL : j < L.length := by rw [← HLN.out]; exact hlt2
              obtain ⟨x, hxx⟩ : ∃ x, x = L[j] := ⟨_, rfl⟩
              have hx' := nat_len hjL
              rw [← hxx] at hx'
              obtain ⟨b, o, e, -, c0, -, -⟩ := RdK.msg HML.out hx'
              subst e
              have HX := Lib.hid hx'
              have hw3 : IntKind.i64.wrap ((j : Int) + 1) = ((j + 1 : Nat) : Int) := by rw [IntKind.wrap_i64]; omega
              clear hxx hx' hjL
              by_cases hz : x.1.size ≤ 300
              · have HJ2 : Hid (∀ (i : Nat) (m : Mg), i < j + 1 → L[i]? = some m → m.1.size ≤ 300) := fun i m hi hm => by
                  by_cases e : i = j
                  · subst e
                    rw [HX.out] at hm
                    cases hm
                    exact hz
                  · exact HJ.out i m (by omega) hm
                have hd : decide (300 < (x.1.size : Int)) = false := by simp; omega
                clear hz
                go_wp2_with fail
                go_roundg (l + 1 - (j + 1))
                case measure => omega
                case rel => exact ⟨j + 1, hlt2, hlt3, rfl, by go_num, HJ2, rfl⟩
              · have hd : (300 : Int) < (x.1.size : Int) := by omega
                have HNO : Hid (¬ ∀ L, L ∈ LS → Fit L) := fun h => hz ((h L (List.mem_of_getElem? HLL.out)).2 x (List.mem_of_getElem? HX.out))
                clear hz
                go_wp2_with fail
                go_ret
                exact ⟨⟨true, rfl, (fun h => by cases h), fun h => absurd h HNO.out⟩, rfl⟩
            · have HR : Hid (l ≤ 200 → ∀ m, m ∈ L → m.1.size ≤ 300) := fun h => absurd hlt3 (by omega)
              obtain rfl : j = 200 := by omega
              go_wp2_with fail
              go_meet
              exact ⟨HR, rfl⟩
          · have HR : Hid (l ≤ 200 → ∀ m, m ∈ L → m.1.size ≤ 300) := fun _ m hm => by
              obtain ⟨i, hi⟩ := List.getElem?_of_mem hm
              have := (List.getElem?_eq_some_iff.1 hi).1
              rw [← HLN.out] at this
              exact HJ.out i m (by omega) hi
            obtain rfl : j = l := by omega
            clear hlt2
            go_wp2_with fail
            go_meet
            exact ⟨HR, rfl⟩
      case rest =>
      obtain ⟨HR, rfl⟩ := hcut
      by_cases hz : l ≤ 150
      · have HE2 : Hid (∀ i L, i < k + 1 → LS[i]? = some L → Fit L) := fun i M hi hM => by
          by_cases e : i = k
          · subst e
            rw [HLL.out] at hM
            cases hM
            exact ⟨by rw [← HLN.out]; exact hz, HR.out (by omega)⟩
          · exact HE.out i M (by omega) hM
        have hd : decide (150 < (l : Int)) = false := by simp; omega
        clear hz
        go_wp2_with fail
        go_roundg (n - (k + 1))
        case measure => omega
        case rel => exact ⟨k + 1, hlt, rfl, by go_num, HE2, rfl⟩
      · have hd : (150 : Int) < (l : Int) := by omega
        have HNO : Hid (¬ ∀ L, L ∈ LS → Fit L) := fun h => hz (by rw [HLN.out]; exact (h L (List.mem_of_getElem? HLL.out)).1)
        clear hz
        go_wp2_with fail
        go_ret
        exact ⟨⟨true, rfl, (fun h => by cases h), fun h => absurd h HNO.out⟩, rfl⟩
    · have HR : Hid (∀ L, L ∈ LS → Fit L) := fun L hL => by
        obtain ⟨i, hi⟩ := List.getElem?_of_mem hL
        have := (List.getElem?_eq_some_iff.1 hi).1
        rw [← HN.out] at this
        exact HE.out i L (by omega) hi
      obtain rfl : k = n := by omega
      clear hlt
      go_wp2_with fail
      go_ret
      exact ⟨⟨false, rfl, fun _ => HR.out, fun _ => rfl⟩, rfl⟩
end Bu
end Go.Proofs.Ytmgmkfophdjidaa
