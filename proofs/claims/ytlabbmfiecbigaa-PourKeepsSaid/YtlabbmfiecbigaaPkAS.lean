/-
  SortM6, LeafCode4, LeafCode5, PourC1. Put together by pack.py.
-/
import Derived.Test.YtlabbmfiecbigaaPkAP
import Derived.Test.YtlabbmfiecbigaaPkAQ
import Derived.Test.YtlabbmfiecbigaaPqSortM5
import Derived.Test.YtlabbmfiecbigaaPkAK
import Derived.Test.YtlabbmfiecbigaaPkAC
import Derived.Test.YtlabbmfiecbigaaPkAL
import Derived.Test.YtlabbmfiecbigaaPkAH
import Derived.Test.YtlabbmfiecbigaaPkAI

namespace Go.Proofs.Ytlabbmfiecbigaa
open Go.RowKit
namespace St
open Mem Lx Bu
theorem symMerge_any {W : World} {B g c n : Nat} (hn : n ≤ 1000) : ∀ (N : Nat) (w : World) (a m b : Nat) (L P U V S : List Mg), b - a ≤ N → SS W w B g c n L → L = P ++ (U ++ (V ++ S)) → P.length = a → a + U.length = m → m + V.length = b → 1 ≤ U.length → 1 ≤ V.length → Sd mk U → Sd mk V →
    Calls Try.prog 75 #[.slice (some ⟨g, 0, none⟩) n c, .int .i64 (a : Int), .int .i64 (m : Int), .int .i64 (b : Int), .func (.func 70) #[] #[]] w fun e w' => e = .returned (.tuple #[]) ∧ ∃ X, SS W w' B g c n (P ++ (X ++ S)) ∧ Sd mk X ∧ Stb mk (U ++ V) X := by
  intro N
  induction N with
  | zero => intro w a m b L P U V S hN h hL ha hm hb hu hv hU hV; exfalso; omega
  | succ N ih =>
    intro w a m b L P U V S hN h hL ha hm hb hu hv hU hV
    by_cases h1 : U.length = 1
    · obtain ⟨u, rfl⟩ := List.length_eq_one_iff.1 h1
      exact symOneL_any h hL ha hm hb hV hn
    · by_cases h2 : V.length = 1
      · obtain ⟨v, rfl⟩ := List.length_eq_one_iff.1 h2
        exact symOneR_any h hL ha hm hb (by omega) hU hn
      · exact symMain_any h hL ha hm hb (by omega) (by omega) hU hV hn fun w a' m' b' L P U V S h0 => ih w a' m' b' L P U V S (by omega)
set_option maxRecDepth 100000 in
set_option maxHeartbeats 8000000 in
theorem stable_any {W w : World} {B g c n : Nat} {L : List Mg} (h : SS W w B g c n L) (hn : n ≤ 1000) :
    Calls Try.prog 72 #[.slice (some ⟨g, 0, none⟩) n c, .int .i64 (n : Int), .func (.func 70) #[] #[]] w fun e w' => e = .returned (.tuple #[]) ∧ ∃ X, SS W w' B g c n X ∧ Sd mk X ∧ Stb mk L X := by
  have cI := fun (w : World) (a b : Nat) (L P U S : List Mg) (h : SS W w B g c n L) (hL : L = P ++ (U ++ S)) (ha : P.length = a) (hb : a + U.length = b) => Lib.hid (insertion_any h hL ha hb hn)
  have cM := fun (w : World) (a m b : Nat) (L P U V S : List Mg) (h : SS W w B g c n L) (hL : L = P ++ (U ++ (V ++ S))) (ha : P.length = a) (hm : a + U.length = m) (hb : m + V.length = b) (hu : 1 ≤ U.length) (hv : 1 ≤ V.length) (hU : Sd mk U) (hV : Sd mk V) => Lib.hid (symMerge_any (W := W) (B := B) (g := g) (c := c) hn (b - a) w a m b L P U V S (Nat.le_refl _) h hL ha hm hb hu hv hU hV)
  have HS0 := Lib.hid h
  have H0 : Hid (Ph1 mk L L 0) := ph1_start
  clear h
  go_enter Try.func72, Try.ntmps72
  go_upto_block 0 with fail
  go_cut [7, 8] (fun av bv wx => ∃ (a b : Nat) (L' : List Mg), av = .int .i64 (a : Int) ∧ bv = .int .i64 (b : Int) ∧ n < a + 20 ∧ Hid (Ph1 mk L L' a) ∧ Hid (SS W wx B g c n L'))
  case first =>
    go_wp2_with fail
    go_loopg [7, 8] n (fun gk av bv wr => ∃ (a b : Nat) (L' : List Mg), gk = n - a ∧ b = a + 20 ∧ av = .int .i64 (a : Int) ∧ bv = .int .i64 (b : Int) ∧ Hid (Ph1 mk L L' a) ∧ Hid (SS W wr B g c n L'))
    case atStart => exact ⟨0, 20, L, rfl, rfl, rfl, rfl, H0, HS0⟩
    case round =>
      obtain ⟨a, b, L', rfl, hab, rfl, rfl, HP, HS⟩ := hrel
      clear H0 HS0
      by_cases hbn : b ≤ n
      · obtain ⟨P, U, S, e1, e2, e3, e4⟩ := ph1_step HP.out (by rw [HS.out.len]; omega)
        have cI' := cI wr a b L' P U S HS.out e1 e2 (by omega)
        have HN := Lib.hid e4
        have hw1 : IntKind.i64.wrap ((b : Int) + 20) = ((b + 20 : Nat) : Int) := by rw [IntKind.wrap_i64]; omega
        have HAB := Lib.hid hab
        have hm : n - b < n - a := by omega
        clear e1 e2 e3 e4 HP HS cI cM hab
        go_wp2_with (go_at_call 74; refine cI'.out.mono ?_; rintro e w7 ⟨rfl, X, H7, H8, H9⟩)
        go_roundg (n - b)
        case measure => exact hm
        case rel => exact ⟨b, b + 20, _, rfl, rfl, rfl, by go_num, by have := HN.out X H8 H9; rw [← HAB.out] at this; exact this, H7⟩
      · have hna : n < a + 20 := by omega
        clear cI cM hab
        go_wp2_with fail
        go_meet
        exact ⟨a, b, L', rfl, rfl, hna, HP, HS⟩
  case rest =>
  obtain ⟨a, b, L', rfl, rfl, hna, HP, HS⟩ := hcut
  obtain ⟨P, U, e1, e2, e3, e4⟩ := ph1_end HP.out (by rw [HS.out.len]; exact hna)
  have cI' := cI wc a n L' P U [] HS.out e1 e2 (by rw [e3, HS.out.len])
  have HN := Lib.hid e4
  clear e1 e2 e3 e4 HP HS H0 HS0 cI hna
  go_upto_block 2 with (go_at_call 74; refine cI'.out.mono ?_; rintro e w7 ⟨rfl, X, H7, H8, H9⟩)
  have HP0 := Lib.hid (HN.out X H8 H9)
  have HS0 := Lib.hid H7
  clear HN H7 H8 H9 cI'
  generalize P ++ (X ++ []) = L1 at *
  go_wp2_with fail
  go_loopg [6] (n - 20) (fun gk sv wr => ∃ (s : Nat) (L' : List Mg), 20 ≤ s ∧ gk = n - s ∧ sv = .int .i64 (s : Int) ∧ Hid (Ph2 mk L L' s) ∧ Hid (SS W wr B g c n L'))
  case atStart => exact ⟨20, L1, Nat.le_refl _, rfl, rfl, HP0, HS0⟩
  case round =>
    obtain ⟨s, L1, h20, rfl, rfl, HP, HS⟩ := hrel
    clear HP0 HS0
    by_cases hsn : s < n
    · have hw1 : IntKind.i64.wrap (2 * (s : Int)) = ((s + s : Nat) : Int) := by rw [IntKind.wrap_i64]; omega
      have hw0 : IntKind.i64.wrap ((s : Int) * 2) = ((s + s : Nat) : Int) := by rw [IntKind.wrap_i64]; omega
      obtain ⟨s2, hs2⟩ : ∃ s2, s2 = s + s := ⟨_, rfl⟩
      rw [← hs2] at hw1 hw0
      have HS2 := Lib.hid hs2
      have h2s : s2 ≤ 2000 := by omega
      have h2s' : s < s2 := by omega
      have H3 : Hid (Ph3 mk L L1 s 0) := ph3_start HP.out
      have HS1 := HS
      clear HP HS hs2
      obtain ⟨wo, rfl⟩ : ∃ wo : World, wo = wr := ⟨_, rfl⟩
      go_upto_block 4 with fail
      go_cut [7, 8] (fun av bv wx => ∃ (a b : Nat) (L' : List Mg), av = .int .i64 (a : Int) ∧ bv = .int .i64 (b : Int) ∧ n < a + s2 ∧ a ≤ n ∧ Hid (Ph3 mk L L' s a) ∧ Hid (SS W wx B g c n L'))
      case first =>
        go_wp2_with fail
        go_loopg [7, 8] n (fun gk av bv wr => ∃ (a b : Nat) (L' : List Mg), gk = n - a ∧ b = a + s2 ∧ a ≤ n ∧ av = .int .i64 (a : Int) ∧ bv = .int .i64 (b : Int) ∧ Hid (Ph3 mk L L' s a) ∧ Hid (SS W wr B g c n L'))
        case atStart => exact ⟨0, s2, L1, rfl, by simp, Nat.zero_le _, rfl, rfl, H3, HS1⟩
        case round =>
          obtain ⟨a, b, L', rfl, hab, han, rfl, rfl, HP, HS⟩ := hrel
          clear H3 HS1
          by_cases hbn : b ≤ n
          · obtain ⟨P, U, V, S, e1, e2, e3, e4, e5, e6, e7⟩ := ph3_step HP.out (by rw [HS.out.len, ← HS2.out]; omega)
            obtain ⟨m, hm⟩ : ∃ m, m = a + s := ⟨_, rfl⟩
            have hs2 := HS2.out
            have cM' := cM wr a m b L' P U V S HS.out e1 e2 (by omega) (by omega) (by omega) (by omega) e5 e6
            have HN := Lib.hid e7
            have hwm : IntKind.i64.wrap ((a : Int) + (s : Int)) = (m : Int) := by rw [IntKind.wrap_i64]; omega
            have hw2 : IntKind.i64.wrap ((b : Int) + (s2 : Int)) = ((b + s2 : Nat) : Int) := by rw [IntKind.wrap_i64]; omega
            have HAB := Lib.hid hab
            have hmm : n - b < n - a := by omega
            clear e1 e2 e3 e4 e5 e6 e7 HP HS cM hab hm hs2
            go_wp2_with (go_at_call 75; refine cM'.out.mono ?_; rintro e w7 ⟨rfl, X, H7, H8, H9⟩)
            go_roundg (n - b)
            case measure => exact hmm
            case rel => exact ⟨b, b + s2, _, rfl, rfl, hbn, rfl, by go_num, by have := HN.out X H8 H9; rw [← HS2.out, ← HAB.out] at this; exact this, H7⟩
          · have hna : n < a + s2 := by omega
            clear cM hab
            go_wp2_with fail
            go_meet
            exact ⟨a, b, L', rfl, rfl, hna, han, HP, HS⟩
      case rest =>
      obtain ⟨a, b, L2, rfl, rfl, hna, han, HP, HS⟩ := hcut
      obtain ⟨m, hm⟩ : ∃ m, m = a + s := ⟨_, rfl⟩
      have hs2 := HS2.out
      have hwm : IntKind.i64.wrap ((a : Int) + (s : Int)) = (m : Int) := by rw [IntKind.wrap_i64]; omega
      clear H3 HS1
      by_cases hmn : m < n
      · obtain ⟨P, U, V, e1, e2, e3, e4, e5, e6, e7⟩ := ph3_last HP.out (by rw [HS.out.len, ← HS2.out]; exact hna) (by rw [HS.out.len]; omega)
        rw [HS.out.len] at e4
        have cM' := cM wc a m n L2 P U V [] HS.out e1 e2 (by omega) (by omega) (by omega) (by omega) e5 e6
        have HN := Lib.hid e7
        have hmm : n - s2 < n - s := by omega
        have h22 : 20 ≤ s2 := by omega
        clear e1 e2 e3 e4 e5 e6 e7 HP HS cM hs2 hm
        go_wp2_with (go_at_call 75; refine cM'.out.mono ?_; rintro e w7 ⟨rfl, X, H7, H8, H9⟩)
        go_roundg (n - s2)
        case measure => exact hmm
        case rel => exact ⟨s2, _, h22, rfl, rfl, by have := HN.out X H8 H9; rw [← HS2.out] at this; exact this, H7⟩
      · have HN := Lib.hid (ph3_none HP.out (by rw [HS.out.len]; omega))
        have hmm : n - s2 < n - s := by omega
        have h22 : 20 ≤ s2 := by omega
        have hge : n ≤ m := by omega
        clear HP cM hs2 hm hmn
        go_wp2_with fail
        go_roundg (n - s2)
        case measure => exact hmm
        case rel => exact ⟨s2, L2, h22, rfl, rfl, by rw [HS2.out]; exact HN.out, HS⟩
    · have HN := Lib.hid (ph2_end HP.out (by rw [HS.out.len]; omega))
      clear HP cM
      go_wp2_with fail
      go_end0
      exact ⟨rfl, L1, HS.out, HN.out.1, HN.out.2⟩
set_option maxRecDepth 100000 in
set_option maxHeartbeats 2000000 in
theorem stable_nil (w : World) : Calls Try.prog 72 #[.slice none 0 0, .int .i64 0, .func (.func 70) #[] #[]] w fun e w' => e = .returned (.tuple #[]) ∧ w' = w := by
  have cI := Lib.hid (insertion_nil 0 w)
  go_enter Try.func72, Try.ntmps72
  go_upto_block 0 with fail
  go_cut [7, 8] (fun av bv wx => av = .int .i64 0 ∧ bv = .int .i64 20 ∧ wx = w)
  case first =>
    go_wp2_with fail
    go_loopg [7, 8] 0 (fun gk av bv wr => gk = 0 ∧ av = .int .i64 0 ∧ bv = .int .i64 20 ∧ wr = w)
    case atStart => exact ⟨rfl, rfl, rfl, rfl⟩
    case round =>
      obtain ⟨rfl, rfl, rfl, rfl⟩ := hrel
      go_wp2_with fail
      go_meet
      exact ⟨rfl, rfl, rfl⟩
  case rest =>
  obtain ⟨rfl, rfl, rfl⟩ := hcut
  go_upto_block 2 with (go_at_call 74; refine cI.out.mono ?_; rintro e w7 ⟨rfl, rfl⟩)
  go_wp2_with fail
  go_loopg [6] 0 (fun gk sv wr => gk = 0 ∧ sv = .int .i64 20 ∧ wr = w7)
  case atStart => exact ⟨rfl, rfl, rfl⟩
  case round =>
    obtain ⟨rfl, rfl, rfl⟩ := hrel
    go_wp2_with fail
    go_end0
    exact ⟨rfl, rfl⟩
theorem below_into {B g : Nat} {w w' : World} (h : Flow.Into [g] w w') (hg : B ≤ g) (hB : B ≤ w.heap.size) : Below B w w' := ⟨h.os, h.tape, h.output, h.size, fun k hk => h.block k (by omega) (by simp; omega)⟩
set_option maxRecDepth 100000 in
set_option maxHeartbeats 2000000 in
/-- a row of the call's own, in order: those of one key in the order they had -/
theorem SortStable_any {w : World} {B c n : Nat} {A : Option Addr} {L : List Mg} (h : M3 w B A c L) (hl : L.length = n) (hn : n ≤ 1000) (hB : B ≤ w.heap.size) :
    Calls Try.prog 69 #[.slice A n c, .func (.func 70) #[] #[]] w fun e w' => e = .returned (.tuple #[]) ∧ ∃ X, M3 w' B A c X ∧ X.length = n ∧ Sd mk X ∧ Stb mk L X ∧ Below B w w' := by
  cases A with
  | none =>
    have h0 : L = [] ∧ c = 0 := by
      rcases h.2 with ⟨h1, h2⟩ | ⟨g, cap, cur, h1, _⟩
      · exact ⟨List.eq_nil_of_length_eq_zero h2, by simpa using (Value.slice.inj h1).2.2⟩
      · simp at h1
    obtain ⟨rfl, rfl⟩ := h0
    subst hl
    have cS := Lib.hid (stable_nil w)
    have HV := Lib.hid h
    clear h
    go_enter Try.func69, Try.ntmps69
    go_wp2_with (go_at_call 72; refine cS.out.mono ?_; rintro e w7 ⟨rfl, rfl⟩)
    go_end0
    exact ⟨rfl, [], HV.out, rfl, sd_nil, Stb.refl _, Below.refl _ _⟩
  | some a =>
    obtain ⟨g, rfl, hg⟩ : ∃ g, a = ⟨g, 0, none⟩ ∧ B ≤ g := by
      rcases h.2 with ⟨h1, h2⟩ | ⟨g, cap, cur, h1, h2, _⟩
      · simp at h1
      · exact ⟨g, by simpa using (Value.slice.inj h1).1, h2⟩
    have cS := Lib.hid (stable_any (W := w) ⟨h, Flow.Into.refl _ _, hl⟩ hn)
    clear h
    go_enter Try.func69, Try.ntmps69
    go_wp2_with (go_at_call 72; refine cS.out.mono ?_; rintro e w7 ⟨rfl, X, H7, H8, H9⟩)
    go_end0
    exact ⟨rfl, X, H7.vk, H7.len, H8, H9, below_into H7.hi hg hB⟩
end St
end Go.Proofs.Ytlabbmfiecbigaa

namespace Go.Proofs.Ytlabbmfiecbigaa
open Go.RowKit
namespace Lf
open Mem Lx Bu St
/-- two rows of the call's own lie apart -/
def Apt (A A' : Option Addr) : Prop := ∀ a a', A = some a → A' = some a' → a.block ≠ a'.block
set_option maxRecDepth 100000 in
set_option maxHeartbeats 8000000 in
theorem latest_any {W : World} {A : Option Addr} {c : Nat} {M : List Mg} (h : ML W A M) (hm : M.length ≤ 500) : Calls Try.prog 62 #[.slice A M.length c] W fun e w' => (∃ A' c' T, e = .returned (.slice A' T.length c') ∧ M3 w' W.heap.size A' c' T ∧ LastOf M T) ∧ Below W.heap.size W w' := by
  have cC := Lib.hid (CloneM_any (c := c) h (by omega))
  clear h
  generalize hn : M.length = n at *
  have HN := Lib.hid hn
  clear hn
  go_enter Try.func62, Try.ntmps62
  go_upto_region 2 with (go_at_call 42; refine cC.out.mono ?_; rintro e w1 ⟨⟨A1, c1, rfl, h1⟩, hb⟩)
  have HB1 := Lib.hid hb
  have cS := Lib.hid (SortStable_any h1 HN.out (by omega) hb.size)
  clear h1 hb cC
  go_upto_region 3 with (go_at_call 69; refine cS.out.mono ?_; rintro e w2 ⟨rfl, X, h1, h2, h3, h4, h5⟩)
  have HV1 := Lib.hid h1
  have HXN := Lib.hid h2
  have HLO : Hid (LastOf M (lastM X n)) := by
    have := lastOf h3 h4
    rw [h2] at this
    exact this
  have HB2 : Hid (Below W.heap.size W w2) := HB1.out.trans h5
  clear h1 h2 h3 h4 h5 cS HB1
  have hmk : ∀ w : World, (Instr.makeSlice 26 (.int .i64 0) (.int .i64 (n : Int))).run Try.prog w = .ok (.slice (some ⟨w.heap.size, 0, none⟩) 0 n) (w.alloc (.cells (madeCells #[.string ⟨#[]⟩, .bool false, .string ⟨#[]⟩] (n * 3)) 45)) := fun w => run_makeK (P := Try.prog) Try.underlying26 mginfo (by decide) n (by omega) w
  have HV0 : Hid (M3 (w2.alloc (.cells (madeCells #[.string ⟨#[]⟩, .bool false, .string ⟨#[]⟩] (n * 3)) 45)) W.heap.size (some ⟨w2.heap.size, 0, none⟩) n []) := VK.made (K := MgK) w2 W.heap.size n _ HB2.out.size (by omega)
  have HB3 : Hid (Below W.heap.size W (w2.alloc (.cells (madeCells #[.string ⟨#[]⟩, .bool false, .string ⟨#[]⟩] (n * 3)) 45))) := HB2.out.alloc HB2.out.size _
  have hb3 : Below w2.heap.size w2 (w2.alloc (.cells (madeCells #[.string ⟨#[]⟩, .bool false, .string ⟨#[]⟩] (n * 3)) 45)) := (Below.refl _ _).alloc (Nat.le_refl _) _
  have HX0 := Lib.hid (HV1.out.rd.kept hb3)
  have HA0 : Hid (Apt A1 (some ⟨w2.heap.size, 0, none⟩)) := fun a a' ha ha' => by
    have := (HV1.out.at_ a ha).2
    cases ha'
    show a.block ≠ w2.heap.size
    omega
  go_upto_block 0 with fail
  generalize w2.alloc (.cells (madeCells #[.string ⟨#[]⟩, .bool false, .string ⟨#[]⟩] (n * 3)) 45) = w3 at *
  obtain ⟨g1, hg1⟩ : ∃ g1, g1 = w2.heap.size := ⟨_, rfl⟩
  rw [← hg1] at HV0 HA0 ⊢
  clear hb3 HV1 HB2 hmk hg1
  go_wp2_with fail
  go_loopg [4, 16] n (fun gk lv iv wr => ∃ (k t c2 : Nat) (A2 : Option Addr), k ≤ n ∧ gk = n - k ∧ iv = .int .i64 (k : Int) ∧ lv = .slice A2 t c2 ∧ t ≤ k ∧ Hid ((lastM X k).length = t) ∧ Hid (M3 wr W.heap.size A2 c2 (lastM X k)) ∧ Hid (ML wr A1 X) ∧ Hid (Apt A1 A2) ∧ Hid (Below W.heap.size W wr))
  case atStart => exact ⟨0, 0, n, _, Nat.zero_le _, rfl, rfl, rfl, Nat.le_refl _, rfl, HV0, HX0, HA0, HB3⟩
  case round =>
    obtain ⟨k, t, c2, A2, hk, rfl, rfl, rfl, htk, HT, HV, HX, HA, HB⟩ := hrel
    clear HV0 HX0 HA0 HB3
    by_cases hlt : k < n
    · have hkL : k < X.length := by rw [HXN.out]; exact hlt
      obtain ⟨x, hxx⟩ : ∃ x, x = X[k] := ⟨_, rfl⟩
      have hx' := nat_len hkL
      rw [← hxx] at hx'
      obtain ⟨b, o, e, -, x0, x1, x2⟩ := RdK.msg HX.out hx'
      subst e
      have hw2 : IntKind.i64.wrap ((k : Int) + 1) = ((k + 1 : Nat) : Int) := by rw [IntKind.wrap_i64]; omega
      have HXX := Lib.hid hx'
      clear hxx hx' hkL
      go_upto_region 7 with fail
      have hx := heap_alloc_new wr (.cells #[.string x.1, .bool x.2.1, .string x.2.2] 45)
      have hb0 : Below wr.heap.size wr (wr.alloc (.cells #[.string x.1, .bool x.2.1, .string x.2.2] 45)) := (Below.refl _ _).alloc (Nat.le_refl _) _
      have HV4 := Lib.hid (HV.out.kept hb0)
      have HX4 := Lib.hid (HX.out.kept hb0)
      have HB4 : Hid (Below W.heap.size W (wr.alloc (.cells #[.string x.1, .bool x.2.1, .string x.2.2] 45))) := HB.out.alloc HB.out.size _
      generalize wr.alloc (.cells #[.string x.1, .bool x.2.1, .string x.2.2] 45) = w4 at *
      obtain ⟨g, hg⟩ : ∃ g, g = wr.heap.size := ⟨_, rfl⟩
      rw [← hg] at hx ⊢
      have HBX := Lib.hid hx
      have HG : Hid (∀ a2, A2 = some a2 → a2.block ≠ g) := fun a2 ha => by
        have := (HV.out.at_ a2 ha).2
        omega
      clear hx hb0 hg x0 x1 x2 HV HX HB
      go_cut [36] (fun tv wx => ∃ q : Bool, tv = .bool q ∧ Hid (keepM X k = if q = true then [x] else []) ∧ Hid (Below w4.heap.size w4 wx))
      case first =>
        by_cases hkn : k + 1 = n
        · have hw3 : IntKind.i64.wrap ((k : Int) + 1) = (n : Int) := by rw [IntKind.wrap_i64]; omega
          have HK : Hid (keepM X k = [x]) := keepM_end HXX.out (List.getElem?_eq_none (by rw [HXN.out]; omega))
          clear hkn hw2
          go_quiet (fail)
          go_wp2_with fail
          go_meet
          exact ⟨true, rfl, HK, ⟨rfl, rfl, rfl, Nat.le_refl _, fun _ _ => rfl⟩⟩
        · have hkL : k + 1 < X.length := by rw [HXN.out]; omega
          obtain ⟨y, hyy⟩ : ∃ y, y = X[k + 1] := ⟨_, rfl⟩
          have hy' := nat_len hkL
          rw [← hyy] at hy'
          obtain ⟨q, hq⟩ : ∃ q, q = k + 1 := ⟨_, rfl⟩
          rw [← hq] at hy' hw2
          obtain ⟨b', o', e', -, y0, -, -⟩ := RdK.msg HX4.out hy'
          obtain ⟨rfl, rfl⟩ : b = b' ∧ o = o' := by simpa using e'
          obtain ⟨d0, d1, d2⟩ := box3 HBX.out
          have z0 := fun t : Drift.Tide [] w4 [] => Drift.Tide.cell y0 (by simp) t
          have z1 := fun t : Drift.Tide [] w4 [] => Drift.Tide.cell d0 (by simp) t
          have hd : (((q : Nat) : Int) == (n : Int)) = false := by simp; omega
          have hqn : q < n := by omega
          obtain ⟨v, hv⟩ : ∃ v : Bool, v = !(y.1.toList == x.1.toList) := ⟨_, rfl⟩
          have HK : Hid (keepM X k = if v = true then [x] else []) := by
            unfold Hid
            rw [ba_toList] at hv
            rw [hq] at hy'
            by_cases he : y.1 = x.1
            · rw [keepM_no HXX.out hy' he, hv]
              simp [he]
            · rw [keepM_yes HXX.out hy' he, hv]
              simp [he]
          clear hkn hkL hyy hy' hq e' y0 d0 d1 d2
          refine Drift.wp_region_drift [] [(0,[]),(1,[]),(2,[]),(3,[]),(4,[]),(5,[]),(6,[]),(7,[]),(8,[]),(9,[]),(10,[]),(11,[]),(12,[]),(13,[]),(14,[]),(15,[])] [] [] (by kernel_rfl) (by kernel_rfl) (by simp) ?_
          simp only [Drift.pick, Drift.opsAt, List.getElem?_toArray, List.getElem?_cons_zero, List.getElem?_cons_succ, List.cons_append, List.nil_append, List.filterMap_nil]
          repeat (refine Drift.walk_step (fun K hK => ?_); go_simp; (refine hK _ ?_; clear hK K))
          refine Drift.walk_nil ?_
          intro w5 hb _
          have HB5 : Hid (Below w4.heap.size w4 w5) := hb
          have HVV := Lib.hid hv
          clear z0 z1 hb hv
          simp only [List.length_cons, List.length_nil, List.drop_succ_cons, List.drop_nil, Nat.zero_add, Nat.reduceAdd]
          go_wp2_with fail
          go_meet
          exact ⟨v, by rw [HVV.out], HK, HB5⟩
      case rest =>
      obtain ⟨q, rfl, HK, HB5⟩ := hcut
      have HV5 := Lib.hid (HV4.out.kept HB5.out)
      have HX5 := Lib.hid (HX4.out.kept HB5.out)
      have HBX5 := Lib.hid (kept3 HBX.out HB5.out)
      have HB6 : Hid (Below W.heap.size W wc) := HB4.out.trans (HB5.out.mono HB4.out.size)
      have HLM : Hid (lastM X (k + 1) = lastM X k ++ keepM X k) := rfl
      clear HV4 HX4 HBX HB4 HB5 HG
      cases q with
      | false =>
        have HE : Hid (lastM X (k + 1) = lastM X k) := by
          unfold Hid
          rw [HLM.out, HK.out]
          simp
        clear HLM HK
        go_wp2_with fail
        go_roundg (n - (k + 1))
        case measure => omega
        case rel => exact ⟨k + 1, t, c2, A2, hlt, rfl, by go_num, rfl, by omega, by rw [HE.out]; exact HT, by rw [HE.out]; exact HV5, HX5, HA, HB6⟩
      | true =>
        have HE : Hid (lastM X (k + 1) = lastM X k ++ [x]) := by
          unfold Hid
          rw [HLM.out, HK.out]
          simp
        obtain ⟨d0, d1, d2⟩ := box3 HBX5.out
        have hX : Below wc.heap.size wc (wc.alloc (.cells #[.string x.1, .bool x.2.1, .string x.2.2] 45)) := (Below.refl _ _).alloc (Nat.le_refl _) _
        have hcl : Hid ((wc.alloc (.cells #[.string x.1, .bool x.2.1, .string x.2.2] 45)).heap[wc.heap.size]? = some (.cells (MgK.cs x).toArray MgK.T (0, 0))) := heap_alloc_new wc _
        have HTX : Hid (M3 (wc.alloc (.cells #[.string x.1, .bool x.2.1, .string x.2.2] 45)) W.heap.size A2 c2 (lastM X k)) := HV5.out.kept hX
        have HXX2 : Hid (ML (wc.alloc (.cells #[.string x.1, .bool x.2.1, .string x.2.2] 45)) (some ⟨b, o, none⟩) X) := HX5.out.kept hX
        have hBx : W.heap.size ≤ (wc.alloc (.cells #[.string x.1, .bool x.2.1, .string x.2.2] 45)).heap.size := Nat.le_trans HB6.out.size hX.size
        have HX2 := Lib.hid (hX.mono HB6.out.size)
        have hbl : b < (wc.alloc (.cells #[.string x.1, .bool x.2.1, .string x.2.2] 45)).heap.size := by
          obtain ⟨b', o', e', h', -⟩ := RdK.msg HXX2.out HXX.out
          obtain ⟨rfl, rfl⟩ : b = b' ∧ o = o' := by simpa using e'
          exact h'
        have HBL := Lib.hid hbl
        have hm65 : t + 1 ≤ 1048576 := by omega
        clear hX HLM HK hbl HV5 HX5
        go_wp2_with (with_reducible refine wpList_appendK (K := MgK) Try.underlying26 mginfo rfl (by decide) (by decide) rfl (.tmp 37) (.tmp 39) rfl W.heap.size A2 t c2 (lastM X k) rfl HT.out HTX.out wc.heap.size 1 x rfl hcl.out hm65 hBx ?_; intro A4 c4 w5 hd')
        have HX6 : Hid (ML w5 (some ⟨b, o, none⟩) X) := HXX2.out.keep hd'.out.below.size fun a ha => by
          cases ha
          exact hd'.out.block b HBL.out fun a2 ha2 => (HA.out _ a2 rfl ha2).symm
        have HA6 : Hid (Apt (some ⟨b, o, none⟩) A4) := fun a a4 ha ha4 => by
          cases ha
          rcases hd'.out.row a4 ha4 with ⟨a2, ha2, e2⟩ | e2
          · rw [e2]
            exact HA.out _ a2 rfl ha2
          · rw [e2]
            have := HBL.out
            show b ≠ _
            omega
        go_roundg (n - (k + 1))
        case measure => omega
        case rel => exact ⟨k + 1, t + 1, c4, A4, hlt, rfl, by go_num, rfl, by omega, by rw [HE.out, List.length_append, HT.out]; rfl, by rw [HE.out]; exact hd'.out.vo, HX6, HA6, (HB6.out.trans HX2.out).trans hd'.out.below⟩
    · obtain rfl : k = n := by omega
      clear hlt HX HA
      go_wp2_with fail
      go_ret
      exact ⟨⟨A2, c2, lastM X k, by rw [HT.out]; rfl, HV.out, HLO.out⟩, HB.out⟩
end Lf
end Go.Proofs.Ytlabbmfiecbigaa

namespace Go.Proofs.Ytlabbmfiecbigaa
open Go.RowKit
namespace Lf
open Mem Lx Bu St
theorem RdK.off {α : Type} {K : Kind α} {w w' : World} {A A5 : Option Addr} {X : List α} (h : RdK K w A X) (hs : w.heap.size ≤ w'.heap.size) (ha : 0 < X.length → Apt A A5) (hb : ∀ k, k < w.heap.size → (∀ a, A5 = some a → a.block ≠ k) → w'.heap[k]? = w.heap[k]?) : RdK K w' A X := fun h0 => by
  obtain ⟨b, o, rfl, hl, _⟩ := h h0
  refine (h.keep hs fun a e => ?_) h0
  cases e
  exact hb b hl fun a5 e5 => (ha h0 _ a5 rfl e5).symm
theorem apt_row {A A5 A6 : Option Addr} {w : World} (h : Apt A A5) (hA : ∀ a, A = some a → a.block < w.heap.size) (hr : ∀ a', A6 = some a' → (∃ a, A5 = some a ∧ a'.block = a.block) ∨ a'.block = w.heap.size) : Apt A A6 := fun a a6 e e6 => by
  rcases hr a6 e6 with ⟨a5, e5, h5⟩ | h5
  · rw [h5]
    exact h a a5 e e5
  · have := hA a e
    omega
set_option maxRecDepth 100000 in
set_option maxHeartbeats 16000000 in
theorem Apply_row {W : World} {A A' : Option Addr} {c c' : Nat} {L : List Pr} {M : List Mg} (h : PC W A c L) (h' : RC MgK W A' c' M) (_ : ∀ x, x ∈ L → x.1.size ≤ 1000) (_ : ∀ m, m ∈ M → m.1.size ≤ 1000) (hr : PRi L) (hl : L.length ≤ 500) (hm : M.length ≤ 500) : Calls Try.prog 48 #[.slice A L.length c, .slice A' M.length c'] W fun e w' => (∃ A2 c2, e = .returned (.slice A2 (applyP L M).length c2) ∧ VK PrK w' W.heap.size A2 c2 (applyP L M)) ∧ Below W.heap.size W w' := by
  have cL := fun (W' : World) (hb : Below W.heap.size W W') => Lib.hid (latest_any (c := c') (h'.1.kept hb) hm)
  have cP := fun (W' : World) (A0 : Option Addr) (c0 : Nat) (l : List Pr) (h0 : PL W' A0 l) (key : ByteArray) (hr0 : PRi l) (hl0 : l.length ≤ 1048576) => Lib.hid (place_any (c := c0) h0 key hr0 hl0)
  have HL := Lib.hid h
  have HPM : Hid (∀ T, LastOf M T → ∀ C l : List Pr, Ap L T T.length C l → C ++ l = applyP L M) := fun T hT C l hA => (ap_end hA (Nat.le_refl _)).trans (hT.apply hr)
  have HPR : Hid (∀ T k C l, Ap L T k C l → PRi l) := fun T k C l hA => by
    have h1 := PRi.apply (M := T.take k) hr
    rw [← hA.eq] at h1
    exact (List.pairwise_append.1 h1).2.1
  have HR := Lib.hid hr
  have HT0 : Hid (∀ T, LastOf M T → T.length ≤ M.length) := fun T hT => hT.len
  clear h h' hr
  generalize hn : L.length = n at *
  generalize hmm : M.length = m at *
  generalize applyP L M = O at *
  have HN := Lib.hid hn
  clear hn hmm
  obtain ⟨nm, hnm⟩ : ∃ nm, nm = n + m := ⟨_, rfl⟩
  have hw0 : IntKind.i64.wrap ((n : Int) + (m : Int)) = (nm : Int) := by rw [IntKind.wrap_i64]; omega
  have hmk : ∀ w : World, (Instr.makeSlice 27 (.int .i64 0) (.int .i64 (nm : Int))).run Try.prog w = .ok (.slice (some ⟨w.heap.size, 0, none⟩) 0 nm) (w.alloc (.cells (madeCells #[.string ⟨#[]⟩, .string ⟨#[]⟩] (nm * 2)) 47)) := fun w => run_makeK (P := Try.prog) Try.underlying27 prinfo (by decide) nm (by omega) w
  obtain ⟨g1, hg1⟩ : ∃ g1, g1 = W.heap.size := ⟨_, rfl⟩
  have HV0 : Hid (P3 (W.alloc (.cells (madeCells #[.string ⟨#[]⟩, .string ⟨#[]⟩] (nm * 2)) 47)) W.heap.size (some ⟨g1, 0, none⟩) nm []) := by
    rw [hg1]
    exact VK.made (K := PrK) W W.heap.size nm _ (Nat.le_refl _) (by omega)
  have HB0 : Hid (Below W.heap.size W (W.alloc (.cells (madeCells #[.string ⟨#[]⟩, .string ⟨#[]⟩] (nm * 2)) 47))) := (Below.refl _ _).alloc (Nat.le_refl _) _
  have HSZ : Hid (g1 < (W.alloc (.cells (madeCells #[.string ⟨#[]⟩, .string ⟨#[]⟩] (nm * 2)) 47)).heap.size) := by
    rw [hg1]
    exact (Array.getElem?_eq_some_iff.1 (heap_alloc_new W _)).1
  have hnm2 : nm ≤ 1000 := by omega
  have HNM := Lib.hid hnm
  clear hnm
  go_enter Try.func48, Try.ntmps48
  go_upto_region 2 with fail
  generalize W.alloc (.cells (madeCells #[.string ⟨#[]⟩, .string ⟨#[]⟩] (nm * 2)) 47) = w1 at *
  have HG1 := Lib.hid hg1
  rw [← hg1]
  clear hmk hw0 hg1
  go_upto_block 0 with (go_at_call 62; refine (cL _ HB0.out).out.mono ?_; rintro e w2 ⟨⟨A2, c2, T, rfl, h1, h2⟩, hb⟩)
  have HV2 := Lib.hid (HV0.out.kept hb)
  have HT2 := Lib.hid h1.rd
  have HLO := Lib.hid h2
  have hTm := HT0.out T h2
  have HB2 : Hid (Below W.heap.size W w2) := HB0.out.trans (hb.mono HB0.out.size)
  have HA2 : Hid (Apt A2 (some ⟨g1, 0, none⟩)) := fun a a' ha ha' => by
    have := (h1.at_ a ha).1
    have := HSZ.out
    cases ha'
    show a.block ≠ g1
    omega
  have HAP0 : Hid (Ap L T 0 [] L) := ap_start L T
  clear h1 h2 hb cL HV0 HB0 HSZ HT0
  generalize ht : T.length = t at *
  have HTN := Lib.hid ht
  clear ht
  go_wp2_with fail
  go_loopg [0, 5, 19] t (fun gk lv av iv wr => ∃ (k n0 c0 n5 c5 : Nat) (A0 A5 : Option Addr) (C l : List Pr), k ≤ t ∧ gk = t - k ∧ iv = .int .i64 (k : Int) ∧ lv = .slice A0 n0 c0 ∧ av = .slice A5 n5 c5 ∧ n0 ≤ n ∧ n5 ≤ n + n + k - n0 ∧ n0 ≤ c0 ∧ Hid (l.length = n0) ∧ Hid (C.length = n5) ∧ Hid (PC W A0 c0 l) ∧ Hid (P3 wr W.heap.size A5 c5 C) ∧ Hid (ML wr A2 T) ∧ Hid (Apt A2 A5) ∧ Hid (Ap L T k C l) ∧ Hid (Below W.heap.size W wr))
  case atStart => exact ⟨0, n, c, 0, nm, A, _, [], L, Nat.zero_le _, rfl, rfl, rfl, rfl, Nat.le_refl _, Nat.zero_le _, by have := HL.out.2; rw [HN.out] at this; exact this, HN, rfl, HL, HV2, HT2, HA2, HAP0, HB2⟩
  case round =>
    obtain ⟨k, n0, c0, n5, c5, A0, A5, C, l, hk, rfl, rfl, rfl, rfl, hn0, hn5, hnc, HLN, HCN, HPL, HV, HT, HA, HAP, HB⟩ := hrel
    clear HV2 HT2 HA2 HAP0 HB2
    by_cases hlt : k < t
    · have hkL : k < T.length := by rw [HTN.out]; exact hlt
      obtain ⟨x, hxx⟩ : ∃ x, x = T[k] := ⟨_, rfl⟩
      have hx' := nat_len hkL
      rw [← hxx] at hx'
      obtain ⟨b, o, e, hbl, x0, x1, x2⟩ := RdK.msg HT.out hx'
      subst e
      have hw2 : IntKind.i64.wrap ((k : Int) + 1) = ((k + 1 : Nat) : Int) := by rw [IntKind.wrap_i64]; omega
      have HXX := Lib.hid hx'
      have HBL := Lib.hid hbl
      clear hxx hx' hkL hbl
      go_upto_region 5 with fail
      have hx := heap_alloc_new wr (.cells #[.string x.1, .bool x.2.1, .string x.2.2] 45)
      have hb0 : Below wr.heap.size wr (wr.alloc (.cells #[.string x.1, .bool x.2.1, .string x.2.2] 45)) := (Below.refl _ _).alloc (Nat.le_refl _) _
      have HV4 := Lib.hid (HV.out.kept hb0)
      have HT4 := Lib.hid (HT.out.kept hb0)
      have HB4 : Hid (Below W.heap.size W (wr.alloc (.cells #[.string x.1, .bool x.2.1, .string x.2.2] 45))) := HB.out.alloc HB.out.size _
      have HSZ := Lib.hid hb0.size
      generalize wr.alloc (.cells #[.string x.1, .bool x.2.1, .string x.2.2] 45) = w4 at *
      obtain ⟨g, hg⟩ : ∃ g, g = wr.heap.size := ⟨_, rfl⟩
      rw [← hg] at hx HSZ ⊢
      have HBX := Lib.hid hx
      have HG : Hid (∀ a5, A5 = some a5 → a5.block ≠ g) := fun a5 ha => by
        have := (HV.out.at_ a5 ha).2
        omega
      have HBG : Hid (b < g) := by
        unfold Hid
        rw [hg]
        exact HBL.out
      clear hx hb0 hg x0 x1 x2 HV HT HB HBL
      obtain ⟨d0, d1, d2⟩ := box3 HBX.out
      have cP' := cP w4 A0 c0 l (HPL.out.1.kept HB4.out) x.1 (HPR.out _ _ _ _ HAP.out) (by rw [HLN.out]; omega)
      rw [HLN.out] at cP'
      go_upto_region 6 with (go_at_call 58; refine cP'.out.mono ?_; rintro e w5 ⟨⟨p, bb, rfl, h1, h2⟩, hb⟩)
      have HP := Lib.hid h1
      have HF := Lib.hid h2
      have hpn : p ≤ n0 := by rw [← HLN.out]; exact h1.le
      have HV5 := Lib.hid (HV4.out.kept hb)
      have HT5 := Lib.hid (HT4.out.kept hb)
      have HBX5 := Lib.hid (kept3 HBX.out hb)
      have HB5 : Hid (Below W.heap.size W w5) := HB4.out.trans (hb.mono HB4.out.size)
      have hg5 : g < w5.heap.size := (Array.getElem?_eq_some_iff.1 HBX5.out).1
      have HG5 := Lib.hid hg5
      clear d0 d1 d2 h1 h2 hb HV4 HT4 HBX HB4 HSZ cP' hg5
      have r1 := fun w => run_upToP A0 n0 c0 p (by omega) w
      have HPL5 : Hid (PL w5 A0 (l.take p)) := ((HPL.out.kept HB5.out).upTo p).1
      have HTL : Hid ((l.take p).length = p) := by unfold Hid; rw [List.length_take, HLN.out]; omega
      have hs5 := HB5.out.size
      have hsum : n5 + p ≤ 1048576 := by omega
      go_upto_region 7 with (with_reducible refine wpList_append_allA (K := PrK) Try.underlying27 prinfo rfl (by decide) (by decide) rfl (.tmp 30) (.tmp 33) rfl W.heap.size A5 n5 c5 C rfl HCN.out HV5.out A0 p c0 (l.take p) rfl HTL.out HPL5.out hsum hs5 ?_; intro A6 c6 w6 hd)
      have HBX6 : Hid (w6.heap[g]? = some (.cells #[.string x.1, .bool x.2.1, .string x.2.2] 45 (0, 0))) := (hd.out.block g HG5.out fun a5 h5 => HG.out a5 h5).trans HBX5.out
      have HT6 : Hid (ML w6 (some ⟨b, o, none⟩) T) := RdK.off HT5.out hd.out.below.size (fun _ => HA.out) hd.out.block
      have HA6 : Hid (Apt (some ⟨b, o, none⟩) A6) := apt_row (w := w5) HA.out (fun a e => by
        cases e
        exact Nat.lt_trans HBG.out HG5.out) hd.out.row
      have HV6 := Lib.hid hd.out.vo
      have HC6 : Hid ((C ++ l.take p).length = n5 + p) := by unfold Hid; rw [List.length_append, HCN.out, HTL.out]
      have HB6 : Hid (Below W.heap.size W w6) := HB5.out.trans hd.out.below
      have HG6 : Hid (∀ a6, A6 = some a6 → a6.block ≠ g) := fun a6 e6 => by
        rcases hd.out.row a6 e6 with ⟨a5, e5, h5⟩ | h5
        · rw [h5]
          exact HG.out a5 e5
        · have := HG5.out
          omega
      have hbg6 : b < w6.heap.size := Nat.lt_of_lt_of_le (Nat.lt_trans HBG.out HG5.out) hd.out.below.size
      have HBG6 := Lib.hid hbg6
      clear hd HBX5 HT5 HA HV5 HB5 HG HG5 HBG HPL5 HTL hs5 hsum r1 hbg6 cP
      obtain ⟨d0, d1, d2⟩ := box3 HBX6.out
      go_upto_if 37 with fail
      go_cut [5] (fun av wx => ∃ (A7 : Option Addr) (n7 c7 : Nat) (C7 : List Pr), av = .slice A7 n7 c7 ∧ n7 ≤ n5 + p + 1 ∧ Hid (C7 = C ++ l.take p ++ if x.2.1 = true then [] else [(x.1, x.2.2)]) ∧ Hid (C7.length = n7) ∧ Hid (P3 wx W.heap.size A7 c7 C7) ∧ Hid (ML wx (some ⟨b, o, none⟩) T) ∧ Hid (Apt (some ⟨b, o, none⟩) A7) ∧ Hid (Below W.heap.size W wx))
      case first =>
        obtain ⟨dl, hdl⟩ : ∃ dl, dl = x.2.1 := ⟨_, rfl⟩
        rw [← hdl]
        have HDL := Lib.hid hdl
        cases dl with
        | true =>
          clear hdl d0 d1 d2
          go_wp2_with fail
          go_meet
          exact ⟨A6, n5 + p, c6, C ++ l.take p, rfl, by omega, by unfold Hid; rw [← HDL.out]; simp, HC6, HV6, HT6, HA6, HB6⟩
        | false =>
          clear hdl
          have hX : Below w6.heap.size w6 (w6.alloc (.cells #[.string x.1, .string x.2.2] 47)) := (Below.refl _ _).alloc (Nat.le_refl _) _
          have hcl : Hid ((w6.alloc (.cells #[.string x.1, .string x.2.2] 47)).heap[w6.heap.size]? = some (.cells (PrK.cs (x.1, x.2.2)).toArray PrK.T (0, 0))) := heap_alloc_new w6 _
          have HTX : Hid (P3 (w6.alloc (.cells #[.string x.1, .string x.2.2] 47)) W.heap.size A6 c6 (C ++ l.take p)) := HV6.out.kept hX
          have HTT : Hid (ML (w6.alloc (.cells #[.string x.1, .string x.2.2] 47)) (some ⟨b, o, none⟩) T) := HT6.out.kept hX
          have hBx : W.heap.size ≤ (w6.alloc (.cells #[.string x.1, .string x.2.2] 47)).heap.size := Nat.le_trans HB6.out.size hX.size
          have HBX := Lib.hid (HB6.out.trans (hX.mono HB6.out.size))
          have HSX := Lib.hid (Nat.lt_of_lt_of_le HBG6.out hX.size)
          have hm65 : n5 + p + 1 ≤ 1048576 := by omega
          clear hX HV6 HT6 HB6
          go_wp2_with (with_reducible refine wpList_appendK (K := PrK) Try.underlying27 prinfo rfl (by decide) (by decide) rfl (.tmp 38) (.tmp 44) rfl W.heap.size A6 (n5 + p) c6 (C ++ l.take p) rfl HC6.out HTX.out w6.heap.size 1 (x.1, x.2.2) rfl hcl.out hm65 hBx ?_; intro A7 c7 w7 hd')
          go_meet
          exact ⟨A7, n5 + p + 1, c7, C ++ l.take p ++ [(x.1, x.2.2)], rfl, Nat.le_refl _, by unfold Hid; rw [← HDL.out]; simp, by unfold Hid; rw [List.length_append, HC6.out]; rfl, hd'.out.vo, RdK.off HTT.out hd'.out.below.size (fun _ => HA6.out) hd'.out.block, apt_row HA6.out (fun a e => by cases e; exact HSX.out) hd'.out.row, HBX.out.trans hd'.out.below⟩
      case rest =>
      obtain ⟨A7, n7, c7, C7, rfl, hn7, HC7, HCN7, HV7, HT7, HA7, HB7⟩ := hcut
      clear HBX6 HT6 HA6 HV6 HC6 HB6 HG6 HBG6 d0 d1 d2
      obtain ⟨q, hq⟩ : ∃ q, q = if bb = true then p + 1 else p := ⟨_, rfl⟩
      have HQ : Hid (q = p ∧ (¬ ∃ z, l[p]? = some z ∧ z.1 = x.1) ∨ q = p + 1 ∧ ∃ z, l[p]? = some z ∧ z.1 = x.1) := by
        have := HF.out
        cases bb with
        | false => exact .inl ⟨by simpa using hq, by simpa using this⟩
        | true => exact .inr ⟨by simpa using hq, this.1 rfl⟩
      have hqn : q ≤ n0 := by
        rcases HQ.out with ⟨h1, _⟩ | ⟨h1, z, hz, _⟩
        · omega
        · have := (List.getElem?_eq_some_iff.1 hz).1
          rw [HLN.out] at this
          omega
      have hpq : p ≤ q := by
        rcases HQ.out with ⟨h1, _⟩ | ⟨h1, _⟩ <;> omega
      clear HF
      go_upto_if 46 with fail
      go_cut [8] (fun qv wx => qv = .int .i64 (q : Int) ∧ wx = wc)
      case first =>
        cases bb with
        | false =>
          obtain rfl : q = p := by simpa using hq
          clear hq
          go_wp2_with fail
          go_meet
          exact ⟨rfl, rfl⟩
        | true =>
          obtain rfl : q = p + 1 := by simpa using hq
          clear hq
          have hw : IntKind.i64.wrap ((p : Int) + 1) = ((p + 1 : Nat) : Int) := by rw [IntKind.wrap_i64]; omega
          go_wp2_with fail
          go_meet
          exact ⟨by go_num, rfl⟩
      case rest =>
      clear hq
      obtain ⟨rfl, hwc⟩ := hcut
      have HAP2 : Hid (Ap L T (k + 1) C7 (l.drop q)) := by
        unfold Hid
        rw [HC7.out]
        exact ap_step HAP.out HR.out HLO.out.rise HXX.out HP.out.lo HP.out.hi HQ.out
      have r2 := fun w => run_cutP A0 n0 c0 q hqn w
      have HPL2 : Hid (PC W (cutK 2 A0 c0 q) (c0 - q) (l.drop q)) := HPL.out.cut q
      have HLN2 : Hid ((l.drop q).length = n0 - q) := by unfold Hid; rw [List.length_drop, HLN.out]
      have hb1 : n0 - q ≤ n := by omega
      have hb2 : n7 ≤ n + n + (k + 1) - (n0 - q) := by omega
      have hb3 : n0 - q ≤ c0 - q := by omega
      subst hwc
      clear HPL HLN HAP HQ HP HC7 HXX HPR
      go_wp2_with fail
      go_roundg (t - (k + 1))
      case measure => omega
      case rel => exact ⟨k + 1, n0 - q, c0 - q, n7, c7, _, A7, C7, l.drop q, hlt, rfl, by go_num, rfl, rfl, hb1, hb2, hb3, HLN2, HCN7, HPL2, HV7, HT7, HA7, HAP2, HB7⟩
    · obtain rfl : k = t := by omega
      have HE : Hid (C ++ l = O) := HPM.out T HLO.out C l (by rw [HTN.out]; exact HAP.out)
      have HPL5 : Hid (PL wr A0 l) := (HPL.out.kept HB.out).1
      have hs5 := HB.out.size
      have hsum : n5 + n0 ≤ 1048576 := by omega
      clear hlt HT HA HAP HPM HPR cP HPL
      go_wp2_with (with_reducible refine wpList_append_allA (K := PrK) Try.underlying27 prinfo rfl (by decide) (by decide) rfl (.tmp 53) (.tmp 54) rfl W.heap.size A5 n5 c5 C rfl HCN.out HV.out A0 n0 c0 l rfl HLN.out HPL5.out hsum hs5 ?_; intro A6 c6 w6 hd)
      go_ret
      exact ⟨⟨A6, c6, by rw [← HE.out, List.length_append, HCN.out, HLN.out]; rfl, by rw [← HE.out]; exact hd.out.vo⟩, HB.out.trans hd.out.below⟩
theorem Apply_any {W : World} {A A' : Option Addr} {c c' : Nat} {L : List Pr} {M : List Mg} (h : PC W A c L) (h' : RC MgK W A' c' M) (k1 : ∀ x, x ∈ L → x.1.size ≤ 1000) (k2 : ∀ m, m ∈ M → m.1.size ≤ 1000) (hr : PRi L) (hl : L.length ≤ 500) (hm : M.length ≤ 500) : Calls Try.prog 48 #[.slice A L.length c, .slice A' M.length c'] W fun e w' => (∃ A2 c2, e = .returned (.slice A2 (applyP L M).length c2) ∧ PC w' A2 c2 (applyP L M)) ∧ Below W.heap.size W w' :=
  (Apply_row h h' k1 k2 hr hl hm).mono fun _ _ ⟨⟨A2, c2, he, hv⟩, hb⟩ => ⟨⟨A2, c2, he, VK.rc hv⟩, hb⟩
end Lf
end Go.Proofs.Ytlabbmfiecbigaa

namespace Go.Proofs.Ytlabbmfiecbigaa
open Go.RowKit
namespace No
open Mem Lx Bu Lf Fa
set_option maxRecDepth 100000 in
theorem CIsLeaf_any (lv : Int) (A0 A1 A2 A3 : Option Addr) (n0 c0 n1 c1 n2 c2 n3 c3 : Nat) (W : World) : Calls Try.prog 47 #[.agg #[.int .i64 lv, .slice A0 n0 c0, .slice A1 n1 c1, .slice A2 n2 c2, .slice A3 n3 c3]] W fun e w' => e = .returned (.bool (decide (lv = 0))) ∧ Below W.heap.size W w' := by
  have hb : Below W.heap.size W (W.alloc (.cells #[.int .i64 lv, .slice A0 n0 c0, .slice A1 n1 c1, .slice A2 n2 c2, .slice A3 n3 c3] 29)) := (Below.refl _ _).alloc (Nat.le_refl _) _
  have HB := Lib.hid hb
  clear hb
  by_cases h : lv = 0
  · subst h
    go_enter Try.func47, Try.ntmps47
    go_wp2_with fail
    go_ret
    exact ⟨rfl, HB.out⟩
  · have hd : (lv == 0) = false := by simpa using h
    have HR : Hid (decide (lv = 0) = false) := by simpa [Hid] using h
    clear h
    go_enter Try.func47, Try.ntmps47
    go_wp2_with fail
    go_ret
    exact ⟨by rw [HR.out]; rfl, HB.out⟩
set_option maxRecDepth 100000 in
set_option maxHeartbeats 4000000 in
theorem CIsKid_any (p k : Nd) (a b : At) (i : Int) (h1 : 1 ≤ p.lv) (h2 : p.lv ≤ 40) (r : Bool) (hr : r = true ↔ ¬ NoPour p i k) (W : World) : Calls Try.prog 16 #[.agg (ndCs p a), .int .i64 i, .agg (ndCs k b)] W fun e w' => e = .returned (.bool r) ∧ Below W.heap.size W w' := by
  unfold NoPour at hr
  obtain ⟨lv, K, P, B, Q⟩ := p
  obtain ⟨lv2, K2, P2, B2, Q2⟩ := k
  obtain ⟨kA, kc, pA, pc, bA, bc, qA, qc⟩ := a
  obtain ⟨kA2, kc2, pA2, pc2, bA2, bc2, qA2, qc2⟩ := b
  unfold ndCs
  simp only at *
  generalize K.length = kn at *
  generalize P.length = pn at *
  generalize B.length = bn at *
  generalize Q.length = qn at *
  generalize K2.length = kn2 at *
  generalize P2.length = pn2 at *
  generalize B2.length = bn2 at *
  generalize Q2.length = qn2 at *
  have hn := two_new W (.cells #[.int .i64 lv, .slice kA kn kc, .slice pA pn pc, .slice bA bn bc, .slice qA qn qc] 29) (.cells #[.int .i64 lv2, .slice kA2 kn2 kc2, .slice pA2 pn2 pc2, .slice bA2 bn2 bc2, .slice qA2 qn2 qc2] 29)
  have HB := Lib.hid hn.2.2
  clear hn
  obtain ⟨d, hd⟩ : ∃ d, d = lv - 1 := ⟨_, rfl⟩
  have hw : IntKind.i64.wrap (lv - 1) = d := by rw [IntKind.wrap_i64]; omega
  have hf : ∀ x : Bool, x = false → (r = true ↔ ¬ (i < 0 ∨ (kn : Int) ≤ i ∨ lv ≠ lv2 + 1)) → (¬ (i < 0 ∨ (kn : Int) ≤ i ∨ lv ≠ lv2 + 1) → False) → r = x := fun x hx h hn => by
    rw [hx]
    cases r with
    | false => rfl
    | true => exact absurd (h.1 rfl) hn
  rcases Int.lt_or_le i 0 with hi | hi
  · have HR : Hid (r = false) := hf false rfl hr (by omega)
    clear hr hf hd hw h1 h2
    go_enter Try.func16, Try.ntmps16
    go_wp2_with fail
    go_ret
    exact ⟨by rw [HR.out]; rfl, HB.out⟩
  rcases Int.lt_or_le i (kn : Int) with hi2 | hi2
  · rcases Int.lt_or_le lv2 lv with hl | hl
    · by_cases he : lv2 = d
      · have HR : Hid (r = true) := hr.2 (by omega)
        have hq : (lv2 == d) = true := by simpa using he
        clear hr hf hd h1 h2 he
        go_enter Try.func16, Try.ntmps16
        go_wp2_with fail
        go_ret
        exact ⟨by rw [HR.out]; rfl, HB.out⟩
      · have HR : Hid (r = false) := hf false rfl hr (by omega)
        have hq : (lv2 == d) = false := by simpa using he
        clear hr hf hd h1 h2 he
        go_enter Try.func16, Try.ntmps16
        go_wp2_with fail
        go_ret
        exact ⟨by rw [HR.out]; rfl, HB.out⟩
    · have HR : Hid (r = false) := hf false rfl hr (by omega)
      clear hr hf hd hw h1 h2
      go_enter Try.func16, Try.ntmps16
      go_wp2_with fail
      go_ret
      exact ⟨by rw [HR.out]; rfl, HB.out⟩
  · have HR : Hid (r = false) := hf false rfl hr (by omega)
    clear hr hf hd hw h1 h2
    go_enter Try.func16, Try.ntmps16
    go_wp2_with fail
    go_ret
    exact ⟨by rw [HR.out]; rfl, HB.out⟩
set_option maxRecDepth 100000 in
set_option maxHeartbeats 4000000 in
theorem CMayCome_any (c : Cfg) (k : Nd) (b : At) (most : Int) (hc : 0 ≤ c.buffer ∧ c.buffer ≤ 1000000) (hk : k.buf.length ≤ 1000) (W : World) : Calls Try.prog 20 #[.agg (cfCs c), .agg (ndCs k b), .int .i64 most] W fun e w' => e = .returned (.int .i64 (roomN c k most)) ∧ Below W.heap.size W w' := by
  obtain ⟨rm, hrm⟩ : ∃ rm, rm = roomN c k most := ⟨_, rfl⟩
  rw [← hrm]
  unfold roomN at hrm
  obtain ⟨cB, cY, cF, cN, cU, cL, cKy, cV⟩ := c
  obtain ⟨lv2, K2, P2, B2, Q2⟩ := k
  obtain ⟨kA2, kc2, pA2, pc2, bA2, bc2, qA2, qc2⟩ := b
  unfold ndCs cfCs
  simp only at *
  generalize K2.length = kn2 at *
  generalize P2.length = pn2 at *
  generalize B2.length = bn2 at *
  generalize Q2.length = qn2 at *
  have hn := two_new W (.cells #[.int .i64 cB, .int .i64 cY, .int .i64 cF, .int .i64 cN, .int .i64 cU, .int .i64 cL, .int .i64 cKy, .int .i64 cV] 23) (.cells #[.int .i64 lv2, .slice kA2 kn2 kc2, .slice pA2 pn2 pc2, .slice bA2 bn2 bc2, .slice qA2 qn2 qc2] 29)
  go_enter Try.func20, Try.ntmps20
  go_upto_region 1 with fail
  generalize (W.alloc (.cells #[.int .i64 cB, .int .i64 cY, .int .i64 cF, .int .i64 cN, .int .i64 cU, .int .i64 cL, .int .i64 cKy, .int .i64 cV] 23)).alloc (.cells #[.int .i64 lv2, .slice kA2 kn2 kc2, .slice pA2 pn2 pc2, .slice bA2 bn2 bc2, .slice qA2 qn2 qc2] 29) = w1 at *
  obtain ⟨g, hg⟩ : ∃ g, g = W.heap.size := ⟨_, rfl⟩
  obtain ⟨hx, hy, hb⟩ := hn
  rw [← hg] at hx hy
  simp only [← hg]
  clear hg
  have HX := Lib.hid hx
  have HY := Lib.hid hy
  have HB := Lib.hid hb
  clear hx hy hb
  obtain ⟨d0, d1, d2, d3, d4⟩ := box5 HY.out
  have cL := Lib.hid (CIsLeaf_any lv2 kA2 pA2 bA2 qA2 kn2 kc2 pn2 pc2 bn2 bc2 qn2 qc2 w1)
  by_cases e : lv2 = 0
  · subst e
    rw [if_pos rfl] at hrm
    subst hrm
    go_wp2_with (go_at_call 47; refine cL.out.mono ?_; rintro e w2 ⟨rfl, hb⟩; replace HB := Lib.hid (HB.out.trans (hb.mono HB.out.size)); clear hb d0 d1 d2 d3 d4 cL)
    go_ret
    exact ⟨rfl, HB.out⟩
  · rw [if_neg e] at hrm
    have hd : decide (lv2 = 0) = false := by simpa using e
    rw [hd] at cL
    obtain ⟨dd, hdd⟩ : ∃ dd, dd = cU - (bn2 : Int) := ⟨_, rfl⟩
    rw [← hdd] at hrm
    have hw : IntKind.i64.wrap (cU - (bn2 : Int)) = dd := by rw [IntKind.wrap_i64]; omega
    go_upto_region 3 with (go_at_call 47; refine cL.out.mono ?_; rintro e w2 ⟨rfl, hb⟩; replace HX := Lib.hid (kept3 HX.out hb); replace HY := Lib.hid (kept3 HY.out hb); replace HB := Lib.hid (HB.out.trans (hb.mono HB.out.size)); clear hb d0 d1 d2 d3 d4 cL)
    obtain ⟨d0, d1, d2, d3, d4⟩ := box5 HY.out
    obtain ⟨g0, g1, g2, g3, g4, g5, g6, g7⟩ := box8 HX.out
    clear e hd hdd hk
    obtain ⟨hc1, hc2⟩ := hc
    clear hc2
    have hmx : (if (0 : Int) > cU then (0 : Int) else cU) = cU := if_neg (by omega)
    have HRM := Lib.hid hrm
    clear hrm
    rcases Int.lt_trichotomy most dd with hm | hm | hm
    · obtain rfl : rm = most := by have := HRM.out; omega
      clear HRM
      go_wp2_with fail
      all_goals (go_ret; exact ⟨rfl, HB.out⟩)
    · subst hm
      obtain rfl : rm = most := by have := HRM.out; omega
      clear HRM
      go_wp2_with fail
      all_goals (go_ret; exact ⟨rfl, HB.out⟩)
    · obtain rfl : rm = dd := by have := HRM.out; omega
      clear HRM
      go_wp2_with fail
      all_goals (go_ret; exact ⟨rfl, HB.out⟩)
end No
end Go.Proofs.Ytlabbmfiecbigaa
