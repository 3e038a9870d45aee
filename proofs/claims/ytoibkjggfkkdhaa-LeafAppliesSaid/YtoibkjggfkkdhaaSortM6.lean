/-
  The library's stable sort of messages.
-/
import Derived.Test.YtoibkjggfkkdhaaSortM3
import Derived.Test.YtoibkjggfkkdhaaSortM4
import Derived.Test.YtoibkjggfkkdhaaSortM5
import Derived.Test.YtoibkjggfkkdhaaSortPh
namespace Go.Proofs.Ytoibkjggfkkdhaa
open Go.RowKit
namespace St
open Mem Lx Bu
theorem symMerge_any {W : World} {B g c n : Nat} (hn : n ≤ 1000) : ∀ (N : Nat) (w : World) (a m b : Nat) (L P U V S : List Mg), b - a ≤ N → SS W w B g c n L → L = P ++ (U ++ (V ++ S)) → P.length = a → a + U.length = m → m + V.length = b → 1 ≤ U.length → 1 ≤ V.length → Sd mk U → Sd mk V →
    Calls Try.prog 43 #[.slice (some ⟨g, 0, none⟩) n c, .int .i64 (a : Int), .int .i64 (m : Int), .int .i64 (b : Int), .func (.func 37) #[] #[]] w fun e w' => e = .returned (.tuple #[]) ∧ ∃ X, SS W w' B g c n (P ++ (X ++ S)) ∧ Sd mk X ∧ Stb mk (U ++ V) X := by
  intro N
  induction N with
  | zero => intro w a m b L P U V S hN h hL ha hm hb hu hv hU hV; exfalso; omega
  | succ N ih =>
    intro w a m b L P U V S hN h hL ha hm hb hu hv hU hV
    by_cases h1 : U.length = 1
    · obtain ⟨u, rfl⟩ := List.length_eq_one_iff.1 h1
      exact symOneL_any h hL ha hm hb hV hn
    · by_cases h2 : V.length = 1
      · obtain ⟨v, rfl⟩ := List.length_eq_one_iff.1 h2
        exact symOneR_any h hL ha hm hb (by omega) hU hn
      · exact symMain_any h hL ha hm hb (by omega) (by omega) hU hV hn fun w a' m' b' L P U V S h0 => ih w a' m' b' L P U V S (by omega)
set_option maxRecDepth 100000 in
set_option maxHeartbeats 8000000 in
theorem stable_any {W w : World} {B g c n : Nat} {L : List Mg} (h : SS W w B g c n L) (hn : n ≤ 1000) :
    Calls Try.prog 40 #[.slice (some ⟨g, 0, none⟩) n c, .int .i64 (n : Int), .func (.func 37) #[] #[]] w fun e w' => e = .returned (.tuple #[]) ∧ ∃ X, SS W w' B g c n X ∧ Sd mk X ∧ Stb mk L X := by
  have cI := fun (w : World) (a b : Nat) (L P U S : List Mg) (h : SS W w B g c n L) (hL : L = P ++ (U ++ S)) (ha : P.length = a) (hb : a + U.length = b) => Lib.hid (insertion_any h hL ha hb hn)
  have cM := fun (w : World) (a m b : Nat) (L P U V S : List Mg) (h : SS W w B g c n L) (hL : L = P ++ (U ++ (V ++ S))) (ha : P.length = a) (hm : a + U.length = m) (hb : m + V.length = b) (hu : 1 ≤ U.length) (hv : 1 ≤ V.length) (hU : Sd mk U) (hV : Sd mk V) => Lib.hid (symMerge_any (W := W) (B := B) (g := g) (c := c) hn (b - a) w a m b L P U V S (Nat.le_refl _) h hL ha hm hb hu hv hU hV)
  have HS0 := Lib.hid h
  have H0 : Hid (Ph1 mk L L 0) := ph1_start
  clear h
  go_enter Try.func40, Try.ntmps40
  go_upto_block 0 with fail
  go_cut [7, 8] (fun av bv wx => ∃ (a b : Nat) (L' : List Mg), av = .int .i64 (a : Int) ∧ bv = .int .i64 (b : Int) ∧ n < a + 20 ∧ Hid (Ph1 mk L L' a) ∧ Hid (SS W wx B g c n L'))
  case first =>
    go_wp2_with fail
    go_loopg [7, 8] n (fun gk av bv wr => ∃ (a b : Nat) (L' : List Mg), gk = n - a ∧ b = a + 20 ∧ av = .int .i64 (a : Int) ∧ bv = .int .i64 (b : Int) ∧ Hid (Ph1 mk L L' a) ∧ Hid (SS W wr B g c n L'))
    case atStart => exact ⟨0, 20, L, rfl, rfl, rfl, rfl, H0, HS0⟩
    case round =>
      obtain ⟨a, b, L', rfl, hab, rfl, rfl, HP, HS⟩ := hrel
      clear H0 HS0
      by_cases hbn : b ≤ n
      · obtain ⟨P, U, S, e1, e2, e3, e4⟩ := ph1_step HP.out (by rw [HS.out.len]; omega)
        have cI' := cI wr a b L' P U S HS.out e1 e2 (by omega)
        have HN := Lib.hid e4
        have hw1 : IntKind.i64.wrap ((b : Int) + 20) = ((b + 20 : Nat) : Int) := by rw [IntKind.wrap_i64]; omega
        have HAB := Lib.hid hab
        have hm : n - b < n - a := by omega
        clear e1 e2 e3 e4 HP HS cI cM hab
        go_wp2_with (go_at_call 42; refine cI'.out.mono ?_; rintro e w7 ⟨rfl, X, H7, H8, H9⟩)
        go_roundg (n - b)
        case measure => exact hm
        case rel => exact ⟨b, b + 20, _, rfl, rfl, rfl, by go_num, by have := HN.out X H8 H9; rw [← HAB.out] at this; exact this, H7⟩
      · have hna : n < a + 20 := by omega
        clear cI cM hab
        go_wp2_with fail
        go_meet
        exact ⟨a, b, L', rfl, rfl, hna, HP, HS⟩
  case rest =>
  obtain ⟨a, b, L', rfl, rfl, hna, HP, HS⟩ := hcut
  obtain ⟨P, U, e1, e2, e3, e4⟩ := ph1_end HP.out (by rw [HS.out.len]; exact hna)
  have cI' := cI wc a n L' P U [] HS.out e1 e2 (by rw [e3, HS.out.len])
  have HN := Lib.hid e4
  clear e1 e2 e3 e4 HP HS H0 HS0 cI hna
  go_upto_block 2 with (go_at_call 42; refine cI'.out.mono ?_; rintro e w7 ⟨rfl, X, H7, H8, H9⟩)
  have HP0 := Lib.hid (HN.out X H8 H9)
  have HS0 := Lib.hid H7
  clear HN H7 H8 H9 cI'
  generalize P ++ (X ++ []) = L1 at *
  go_wp2_with fail
  go_loopg [6] (n - 20) (fun gk sv wr => ∃ (s : Nat) (L' : List Mg), 20 ≤ s ∧ gk = n - s ∧ sv = .int .i64 (s : Int) ∧ Hid (Ph2 mk L L' s) ∧ Hid (SS W wr B g c n L'))
  case atStart => exact ⟨20, L1, Nat.le_refl _, rfl, rfl, HP0, HS0⟩
  case round =>
    obtain ⟨s, L1, h20, rfl, rfl, HP, HS⟩ := hrel
    clear HP0 HS0
    by_cases hsn : s < n
    · have hw1 : IntKind.i64.wrap (2 * (s : Int)) = ((s + s : Nat) : Int) := by rw [IntKind.wrap_i64]; omega
      have hw0 : IntKind.i64.wrap ((s : Int) * 2) = ((s + s : Nat) : Int) := by rw [IntKind.wrap_i64]; omega
      obtain ⟨s2, hs2⟩ : ∃ s2, s2 = s + s := ⟨_, rfl⟩
      rw [← hs2] at hw1 hw0
      have HS2 := Lib.hid hs2
      have h2s : s2 ≤ 2000 := by omega
      have h2s' : s < s2 := by omega
      have H3 : Hid (Ph3 mk L L1 s 0) := ph3_start HP.out
      have HS1 := HS
      clear HP HS hs2
      obtain ⟨wo, rfl⟩ : ∃ wo : World, wo = wr := ⟨_, rfl⟩
      go_upto_block 4 with fail
      go_cut [7, 8] (fun av bv wx => ∃ (a b : Nat) (L' : List Mg), av = .int .i64 (a : Int) ∧ bv = .int .i64 (b : Int) ∧ n < a + s2 ∧ a ≤ n ∧ Hid (Ph3 mk L L' s a) ∧ Hid (SS W wx B g c n L'))
      case first =>
        go_wp2_with fail
        go_loopg [7, 8] n (fun gk av bv wr => ∃ (a b : Nat) (L' : List Mg), gk = n - a ∧ b = a + s2 ∧ a ≤ n ∧ av = .int .i64 (a : Int) ∧ bv = .int .i64 (b : Int) ∧ Hid (Ph3 mk L L' s a) ∧ Hid (SS W wr B g c n L'))
        case atStart => exact ⟨0, s2, L1, rfl, by simp, Nat.zero_le _, rfl, rfl, H3, HS1⟩
        case round =>
          obtain ⟨a, b, L', rfl, hab, han, rfl, rfl, HP, HS⟩ := hrel
          clear H3 HS1
          by_cases hbn : b ≤ n
          · obtain ⟨P, U, V, S, e1, e2, e3, e4, e5, e6, e7⟩ := ph3_step HP.out (by rw [HS.out.len, ← HS2.out]; omega)
            obtain ⟨m, hm⟩ : ∃ m, m = a + s := ⟨_, rfl⟩
            have hs2 := HS2.out
            have cM' := cM wr a m b L' P U V S HS.out e1 e2 (by omega) (by omega) (by omega) (by omega) e5 e6
            have HN := Lib.hid e7
            have hwm : IntKind.i64.wrap ((a : Int) + (s : Int)) = (m : Int) := by rw [IntKind.wrap_i64]; omega
            have hw2 : IntKind.i64.wrap ((b : Int) + (s2 : Int)) = ((b + s2 : Nat) : Int) := by rw [IntKind.wrap_i64]; omega
            have HAB := Lib.hid hab
            have hmm : n - b < n - a := by omega
            clear e1 e2 e3 e4 e5 e6 e7 HP HS cM hab hm hs2
            go_wp2_with (go_at_call 43; refine cM'.out.mono ?_; rintro e w7 ⟨rfl, X, H7, H8, H9⟩)
            go_roundg (n - b)
            case measure => exact hmm
            case rel => exact ⟨b, b + s2, _, rfl, rfl, hbn, rfl, by go_num, by have := HN.out X H8 H9; rw [← HS2.out, ← HAB.out] at this; exact this, H7⟩
          · have hna : n < a + s2 := by omega
            clear cM hab
            go_wp2_with fail
            go_meet
            exact ⟨a, b, L', rfl, rfl, hna, han, HP, HS⟩
      case rest =>
      obtain ⟨a, b, L2, rfl, rfl, hna, han, HP, HS⟩ := hcut
      obtain ⟨m, hm⟩ : ∃ m, m = a + s := ⟨_, rfl⟩
      have hs2 := HS2.out
      have hwm : IntKind.i64.wrap ((a : Int) + (s : Int)) = (m : Int) := by rw [IntKind.wrap_i64]; omega
      clear H3 HS1
      by_cases hmn : m < n
      · obtain ⟨P, U, V, e1, e2, e3, e4, e5, e6, e7⟩ := ph3_last HP.out (by rw [HS.out.len, ← HS2.out]; exact hna) (by rw [HS.out.len]; omega)
        rw [HS.out.len] at e4
        have cM' := cM wc a m n L2 P U V [] HS.out e1 e2 (by omega) (by omega) (by omega) (by omega) e5 e6
        have HN := Lib.hid e7
        have hmm : n - s2 < n - s := by omega
        have h22 : 20 ≤ s2 := by omega
        clear e1 e2 e3 e4 e5 e6 e7 HP HS cM hs2 hm
        go_wp2_with (go_at_call 43; refine cM'.out.mono ?_; rintro e w7 ⟨rfl, X, H7, H8, H9⟩)
        go_roundg (n - s2)
        case measure => exact hmm
        case rel => exact ⟨s2, _, h22, rfl, rfl, by have := HN.out X H8 H9; rw [← HS2.out] at this; exact this, H7⟩
      · have HN := Lib.hid (ph3_none HP.out (by rw [HS.out.len]; omega))
        have hmm : n - s2 < n - s := by omega
        have h22 : 20 ≤ s2 := by omega
        have hge : n ≤ m := by omega
        clear HP cM hs2 hm hmn
        go_wp2_with fail
        go_roundg (n - s2)
        case measure => exact hmm
        case rel => exact ⟨s2, L2, h22, rfl, rfl, by rw [HS2.out]; exact HN.out, HS⟩
    · have HN := Lib.hid (ph2_end HP.out (by rw [HS.out.len]; omega))
      clear HP cM
      go_wp2_with fail
      go_end0
      exact ⟨rfl, L1, HS.out, HN.out.1, HN.out.2⟩
set_option maxRecDepth 100000 in
set_option maxHeartbeats 2000000 in
theorem stable_nil (w : World) : Calls Try.prog 40 #[.slice none 0 0, .int .i64 0, .func (.func 37) #[] #[]] w fun e w' => e = .returned (.tuple #[]) ∧ w' = w := by
  have cI := Lib.hid (insertion_nil 0 w)
  go_enter Try.func40, Try.ntmps40
  go_upto_block 0 with fail
  go_cut [7, 8] (fun av bv wx => av = .int .i64 0 ∧ bv = .int .i64 20 ∧ wx = w)
  case first =>
    go_wp2_with fail
    go_loopg [7, 8] 0 (fun gk av bv wr => gk = 0 ∧ av = .int .i64 0 ∧ bv = .int .i64 20 ∧ wr = w)
    case atStart => exact ⟨rfl, rfl, rfl, rfl⟩
    case round =>
      obtain ⟨rfl, rfl, rfl, rfl⟩ := hrel
      go_wp2_with fail
      go_meet
      exact ⟨rfl, rfl, rfl⟩
  case rest =>
  obtain ⟨rfl, rfl, rfl⟩ := hcut
  go_upto_block 2 with (go_at_call 42; refine cI.out.mono ?_; rintro e w7 ⟨rfl, rfl⟩)
  go_wp2_with fail
  go_loopg [6] 0 (fun gk sv wr => gk = 0 ∧ sv = .int .i64 20 ∧ wr = w7)
  case atStart => exact ⟨rfl, rfl, rfl⟩
  case round =>
    obtain ⟨rfl, rfl, rfl⟩ := hrel
    go_wp2_with fail
    go_end0
    exact ⟨rfl, rfl⟩
theorem below_into {B g : Nat} {w w' : World} (h : Flow.Into [g] w w') (hg : B ≤ g) (hB : B ≤ w.heap.size) : Below B w w' := ⟨h.os, h.tape, h.output, h.size, fun k hk => h.block k (by omega) (by simp; omega)⟩
set_option maxRecDepth 100000 in
set_option maxHeartbeats 2000000 in
/-- a row of the call's own, in order: those of one key in the order they had -/
theorem SortStable_any {w : World} {B c n : Nat} {A : Option Addr} {L : List Mg} (h : M3 w B A c L) (hl : L.length = n) (hn : n ≤ 1000) (hB : B ≤ w.heap.size) :
    Calls Try.prog 36 #[.slice A n c, .func (.func 37) #[] #[]] w fun e w' => e = .returned (.tuple #[]) ∧ ∃ X, M3 w' B A c X ∧ X.length = n ∧ Sd mk X ∧ Stb mk L X ∧ Below B w w' := by
  cases A with
  | none =>
    have h0 : L = [] ∧ c = 0 := by
      rcases h.2 with ⟨h1, h2⟩ | ⟨g, cap, cur, h1, _⟩
      · exact ⟨List.eq_nil_of_length_eq_zero h2, by simpa using (Value.slice.inj h1).2.2⟩
      · simp at h1
    obtain ⟨rfl, rfl⟩ := h0
    subst hl
    have cS := Lib.hid (stable_nil w)
    have HV := Lib.hid h
    clear h
    go_enter Try.func36, Try.ntmps36
    go_wp2_with (go_at_call 40; refine cS.out.mono ?_; rintro e w7 ⟨rfl, rfl⟩)
    go_end0
    exact ⟨rfl, [], HV.out, rfl, sd_nil, Stb.refl _, Below.refl _ _⟩
  | some a =>
    obtain ⟨g, rfl, hg⟩ : ∃ g, a = ⟨g, 0, none⟩ ∧ B ≤ g := by
      rcases h.2 with ⟨h1, h2⟩ | ⟨g, cap, cur, h1, h2, _⟩
      · simp at h1
      · exact ⟨g, by simpa using (Value.slice.inj h1).1, h2⟩
    have cS := Lib.hid (stable_any (W := w) ⟨h, Flow.Into.refl _ _, hl⟩ hn)
    clear h
    go_enter Try.func36, Try.ntmps36
    go_wp2_with (go_at_call 40; refine cS.out.mono ?_; rintro e w7 ⟨rfl, X, H7, H8, H9⟩)
    go_end0
    exact ⟨rfl, X, H7.vk, H7.len, H8, H9, below_into H7.hi hg hB⟩
end St
end Go.Proofs.Ytoibkjggfkkdhaa
