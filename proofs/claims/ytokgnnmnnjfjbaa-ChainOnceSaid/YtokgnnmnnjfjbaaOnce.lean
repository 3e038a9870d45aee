/-
  ChainOnce, walked.
-/
import Derived.Test.YtokgnnmnnjfjbaaOncePlain
import Derived.Deep.DeepCutAuto
import Derived.Deep.CutBlock
namespace Go.Proofs.Ytokgnnmnnjfjbaa
open Go.RowKit
namespace Cn
open Mem IMap

/-- a slice of calls whose numbers are ints -/
def ActF (w : World) (p : Option Addr) (l : List (Int × Int)) : Prop := ActL w p l ∧ ∀ x ∈ l, Fits x.2

set_option maxHeartbeats 16000000 in
set_option maxRecDepth 100000 in
theorem ChainOnce_walk (q : Option Addr) (d : Nat) (ac : List (Int × Int)) (q2 : Option Addr) (d2 : Nat) (bc : List (Int × Int)) (w : World) (ha : ActF w q ac) (hda : ac.length ≤ maxLen) (hb : ActF w q2 bc) (hdb : bc.length ≤ maxLen) :
    Calls Try.prog 4 #[.slice q ac.length d, .slice q2 bc.length d2] w fun e w' => e = .returned (.bool true) ∧ Below w.heap.size w w' := by
  have cA := fun w => Lib.hid (awake_any w)
  have cN : Hid (Calls Try.prog 6 #[.int .i64 12] w fun e w' => ∃ g b, e = .returned (.tuple #[.pointer (some ⟨g, 0, none⟩), .int .i64 0]) ∧ Cr w w' g b 12 [] ∧ Below w.heap.size w w') := New_cr w w (Below.refl _ _) 12 (by omega) (by omega)
  have hmm := @run_makeMap Try.prog
  unfold maxLen at hda hdb
  obtain ⟨ha, -⟩ := ha
  obtain ⟨hb, hfit⟩ := hb
  obtain ⟨N, hN⟩ : ∃ N, N = ac.length := ⟨_, rfl⟩
  rw [← hN] at hda ⊢
  obtain ⟨M, hM⟩ : ∃ M, M = bc.length := ⟨_, rfl⟩
  rw [← hM] at hdb ⊢
  have HNN := Lib.hid hN
  have HMM := Lib.hid hM
  have HAL := Lib.hid ha
  have HBL := Lib.hid hb
  have HFT := Lib.hid hfit
  clear hN hM ha hb hfit
  go_enter Try.func4, Try.ntmps4
  go_upto_block 0 with (go_at_call 6; refine cN.out.mono ?_; rintro e w1 ⟨g, b, rfl, hr, -⟩; have HR := Lib.hid hr; clear hr)
  clear cN
  go_cut [7] (fun _ wx => ∃ L, Hid (Cr w wx g b 12 L))
  case first =>
    go_wp2_with fail
    go_loopg [7] N (fun gk i wr => ∃ (k : Nat) (L : List Nat), k ≤ N ∧ gk = N - k ∧ i = .int .i64 (k : Int) ∧ Hid (Cr w wr g b 12 L))
    case atStart => exact ⟨0, [], Nat.zero_le _, rfl, rfl, HR⟩
    case round =>
      obtain ⟨k, L, hk, rfl, rfl, HC⟩ := hrel
      clear HR cA
      by_cases hlt : k < N ∧ k < 60
      · obtain ⟨k1, k2⟩ := hlt
        obtain ⟨ab, o, rfl, hc0, hc1⟩ := HAL.out.at_ (show k < ac.length by rw [← HNN.out]; exact k1)
        generalize (ac[k]'(by rw [← HNN.out]; exact k1)).1 = kd at hc0
        generalize (ac[k]'(by rw [← HNN.out]; exact k1)).2 = x at hc1
        have d0 := cell_after HC.out.bel hc0
        have d1 := cell_after HC.out.bel hc1
        clear hc0 hc1
        go_wp2_with (go_at_call 21; refine (step_any HC.out kd x).mono ?_; rintro e w2 ⟨rfl, hc, -⟩; have HC2 := Lib.hid hc; clear hc)
        go_roundg (N - (k + 1))
        case measure => omega
        case rel => exact ⟨k + 1, _, k1, rfl, by go_num, HC2⟩
      · by_cases h3 : k < N
        · have h4 : 60 ≤ k := by omega
          clear hlt
          go_wp2_with fail
          go_meet
          exact ⟨L, HC⟩
        · obtain rfl : k = N := by omega
          clear hlt h3
          go_wp2_with fail
          go_meet
          exact ⟨L, HC⟩
  case rest =>
  obtain ⟨L0, HC⟩ := hcut
  clear HR
  have hP0 := HC.out.ch.lt.2.2.2.2.2.1
  have HLT0 : Hid (∀ x ∈ L0, x < 12) := HC.out.ch.lt.2.2.2.2.2.2.2
  go_upto_block 2 with (go_at_call 18; refine (Row_call HC.out.ch).mono ?_; rintro e w2 ⟨⟨A0, c0, rfl, ho⟩, hb⟩; have HO2 := Lib.hid (HC.out.called hb ho); clear ho hb)
  obtain ⟨m1, hm1⟩ : ∃ m1, m1 = w2.heap.size := ⟨_, rfl⟩
  rw [← hm1] at HO2 ⊢
  clear hm1
  obtain ⟨P0, hP⟩ : ∃ P0, P0 = L0.length := ⟨_, rfl⟩
  have HP0 := Lib.hid hP
  rw [← hP] at hP0 ⊢
  clear hP
  go_cut [10] (fun _ wx => ∃ (j : Nat) (L : List Nat) (K : List Int), Hid (O2 w wx g b m1 j A0 L0 L K) ∧ Hid (keepR K L = keepR K L0))
  case first =>
    go_wp2_with fail
    go_loopg [10] M (fun gk i wr => ∃ (k : Nat) (L : List Nat) (K : List Int), k ≤ M ∧ k ≤ 30 ∧ gk = M - k ∧ i = .int .i64 (k : Int) ∧ Hid (O2 w wr g b m1 k A0 L0 L K) ∧ Hid (keepR K L = keepR K L0))
    case atStart => exact ⟨0, L0, [], Nat.zero_le _, Nat.zero_le _, rfl, rfl, HO2, rfl⟩
    case round =>
      obtain ⟨k, L, K, hk, hk3, rfl, rfl, HO, HK⟩ := hrel
      clear HO2 cA HC
      by_cases hlt : k < M ∧ k < 30
      · obtain ⟨k1, k2⟩ := hlt
        have hkl : k < bc.length := by rw [← HMM.out]; exact k1
        obtain ⟨ab, o, rfl, hc0, hc1⟩ := HBL.out.at_ hkl
        have hfx := HFT.out _ (List.getElem_mem hkl)
        generalize (bc[k]).1 = kd at hc0
        generalize (bc[k]).2 = x at hc1 hfx
        have d0 := cell_after HO.out.cr.bel hc0
        have d1 := cell_after HO.out.cr.bel hc1
        have HC1 := Lib.hid hc1
        have HFX := Lib.hid hfx
        clear hc0 hc1 hfx
        go_wp2_with (go_at_call 21; refine (HO.out.step kd x).mono ?_; rintro e w3 ⟨rfl, ho⟩; have d3 := cell_after ho.cr.bel HC1.out; obtain ⟨w4, hst, ho4⟩ := ho.store HFX.out (by omega); have HO4 := Lib.hid ho4; clear ho ho4 d0 d1)
        go_roundg (M - (k + 1))
        case measure => omega
        case rel => exact ⟨k + 1, _, x :: K, k1, k2, rfl, by go_num, HO4, keepR_step HK.out⟩
      · by_cases h3 : k < M
        · have h4 : 30 ≤ k := by omega
          clear hlt
          go_wp2_with fail
          go_meet
          exact ⟨k, L, K, HO, HK⟩
        · obtain rfl : k = M := by omega
          clear hlt h3
          go_wp2_with fail
          go_meet
          exact ⟨k, L, K, HO, HK⟩
  case rest =>
  obtain ⟨j, L, K, HO, HK⟩ := hcut
  clear HO2 HC
  have hP1 := HO.out.cr.ch.lt.2.2.2.2.2.1
  have hbm : Below wc.heap.size wc (wc.alloc (.map #[] 0)) := (Below.refl _ _).alloc (Nat.le_refl _) _
  have HOm := Lib.hid (HO.out.kept hbm)
  have HMm : Hid (MI (wc.alloc (.map #[] 0)) wc.heap.size 0 []) := MI.made wc
  have hsz : (wc.alloc (.map #[] 0)).heap.size = wc.heap.size + 1 := by simp
  have hlt9 := HO.out.cr.ch.lt
  have hm9 := HO.out.mi.lt
  have hal9 := HO.out.al
  have HLT9 : Hid (g < wc.heap.size ∧ b < wc.heap.size ∧ m1 < wc.heap.size ∧ w.heap.size ≤ wc.heap.size ∧ ∀ a, A0 = some a → a.block < wc.heap.size) := ⟨hlt9.1, hlt9.2.1, hm9, HO.out.cr.bel.size, hal9⟩
  clear hbm hlt9 hm9 hal9
  go_upto_block 4 with (go_at_call 18; refine (Row_call HOm.out.cr.ch).mono ?_; rintro e wS ⟨⟨A1, c1, rfl, ho⟩, hb⟩; have HI := Lib.hid ho; have HS := Lib.hid (HOm.out.kept hb); have HM2 := Lib.hid (HMm.out.keep (hb.block _ (by simp))); have HSZ : Hid (wc.heap.size + 1 ≤ wS.heap.size) := (by have := hb.size; simp at this; exact this); clear ho hb)
  obtain ⟨m2, hm2⟩ : ∃ m2, m2 = wc.heap.size := ⟨_, rfl⟩
  have HA1 : Hid (∀ a, A1 = some a → m2 < a.block ∧ a.block < wS.heap.size) := fun a ha => by
    have e1 := HI.out.from_ a ha
    have e2 := HI.out.lt a ha
    simp at e1
    omega
  have HIL := Lib.hid HI.out.il
  rw [← hm2] at HLT9 HM2 HSZ ⊢
  clear hm2 HI HOm HMm HO hsz
  obtain ⟨P, hP⟩ : ∃ P, P = L.length := ⟨_, rfl⟩
  have HP := Lib.hid hP
  rw [← hP] at hP1 ⊢
  clear hP
  obtain ⟨B, hB⟩ : ∃ B, B = wS.heap.size := ⟨_, rfl⟩
  have HB := Lib.hid hB
  rw [← hB] at HSZ HA1
  clear hB
  have HBES : Hid (∀ wr, Bes [m2] B wS wr → O2 w wr g b m1 j A0 L0 L K ∧ IL wr A1 (rowZ L)) := fun wr hb => by
    have e1 := HLT9.out
    have e2 := HSZ.out
    refine ⟨HS.out.bes hb ⟨by omega, by simp; omega⟩ ⟨by omega, by simp; omega⟩ ⟨by omega, by simp; omega⟩ (fun a ha => ?_) (fun k hk => ?_) (by omega), HIL.out.keep fun _ a ha => ?_⟩
    · have := e1.2.2.2.2 a ha
      exact ⟨by omega, by simp; omega⟩
    · simp at hk; omega
    · have := HA1.out a ha
      exact hb.block _ (by omega) (by simp; omega)
  go_cut [12] (fun v wx => ∃ (m c : Nat) (A : Option Addr), m ≤ P ∧ v = .slice A m c ∧ Hid (m = (keepR K L).length) ∧ Hid (IL wx A (rowZ (keepR K L))) ∧ Hid (O2 w wx g b m1 j A0 L0 L K) ∧ Hid (∀ a, A = some a → a.block < wx.heap.size))
  case first =>
    go_wp2_with fail
    go_loopg [12, 73] P (fun gk v i wr => ∃ (k m c : Nat) (A : Option Addr) (ks : List Int), k ≤ P ∧ m ≤ k ∧ gk = P - k ∧ i = .int .i64 (k : Int) ∧ v = .slice A m c ∧ Hid (m = (keepR K (L.take k)).length) ∧ Hid (Iow 3 wr B A c (rowZ (keepR K (L.take k)))) ∧ Hid (MI wr m2 k ks) ∧ Hid (∀ y : Nat, ks.contains (y : Int) = (L.take k).contains y) ∧ Hid (Bes [m2] B wS wr))
    case atStart => exact ⟨0, 0, 0, none, [], Nat.zero_le _, Nat.le_refl _, rfl, rfl, rfl, rfl, Iow.nil _ _ _, HM2, fun y => by simp, Bes.refl _ _ _⟩
    case round =>
      obtain ⟨k, m, c, A, ks, hk, hmk, rfl, rfl, rfl, HM, HO, HMI, HKS, HBR⟩ := hrel
      clear HM2
      obtain ⟨h1, h2⟩ := HBES.out wr HBR.out
      have HOr := Lib.hid h1
      have HIr := Lib.hid h2
      clear h1 h2
      by_cases hlt : k < P
      · have hkl : k < L.length := by rw [← HP.out]; exact hlt
        obtain ⟨b1, o1, rfl, hc0⟩ := HIr.out.at_ (show k < (rowZ L).length by simpa using hkl)
        rw [rowZ_get hkl] at hc0
        obtain ⟨x, hx⟩ : ∃ x, x = L[k] := ⟨_, rfl⟩
        have HX := Lib.hid hx
        have hx12 : x < 12 := by rw [hx]; exact HOr.out.cr.ch.lt.2.2.2.2.2.2.2 _ (List.getElem_mem hkl)
        have hfx : Fits (x : Int) := ⟨by omega, by omega⟩
        have hns : (L.take k).contains x = false := by
          have hnd := HOr.out.cr.ch.lt.2.2.2.2.2.2.1
          rw [← List.take_append_drop k L, List.drop_eq_getElem_cons hkl, List.nodup_append] at hnd
          have h3 : x ∉ L.take k := fun hm => hnd.2.2 x hm x (by rw [hx]; exact List.mem_cons_self) rfl
          simpa using h3
        have hl1 := HMI.out.look hfx
        rw [HKS.out x, hns] at hl1
        have cH := Lib.hid (CHas HOr.out.cr.ch (x : Int))
        rw [show hasR L (x : Int) = true by rw [hasR_nat, hx]; simp] at cH
        obtain ⟨w3, hst, hmi3, hin3⟩ := HMI.out.store hfx (by omega)
        have hb3 : Bes [m2] B wr w3 := Bes.of_into hin3 (by rw [HB.out]; exact HBR.out.size)
        have HBR3 := Lib.hid (HBR.out.trans hb3)
        have HO3 := Lib.hid (HBES.out w3 HBR3.out).1
        have hl2 := HO3.out.mi.look hfx
        have HIO3 : Hid (Iow 3 w3 B A c (rowZ (keepR K (L.take k)))) := HO.out.into hin3 fun a ha => by
          have e1 := HO.out.from_ a ha
          have e2 := HSZ.out
          simp; omega
        have HM3 := Lib.hid hmi3
        have HK3 : Hid (∀ y : Nat, ((x : Int) :: ks).contains (y : Int) = (L.take (k + 1)).contains y) := fun y => by
          rw [List.contains_cons, HKS.out y, ← List.take_append_getElem hkl, ← HX.out, Bool.eq_iff_iff]
          simp only [Bool.or_eq_true, beq_iff_eq, List.contains_iff_mem, List.mem_append, List.mem_singleton]
          constructor
          · rintro (h | h)
            · exact .inr (by omega)
            · exact .inl h
          · rintro (h | h)
            · exact .inr h
            · exact .inl (by omega)
        have HT := Lib.hid (keepR_take K L hkl)
        rw [← hx] at hc0 HT
        have hs3 : B ≤ w3.heap.size := by rw [HB.out]; exact HBR3.out.size
        clear hx hns hfx hmi3 hin3 hb3
        cases hcb : K.contains (x : Int) with
        | true =>
          rw [hcb] at hl2 HT
          have HE : Hid (keepR K (L.take (k + 1)) = keepR K (L.take k)) := by unfold Hid; rw [HT.out]; simp
          clear hcb HT
          go_wp2_with (go_at_call 20; refine cH.out.mono ?_; rintro e w' ⟨rfl, rfl⟩)
          go_roundg (P - (k + 1))
          case measure => omega
          case rel => exact ⟨k + 1, m, c, A, (x : Int) :: ks, hlt, by omega, rfl, by go_num, rfl, by rw [HE.out]; exact HM, by rw [HE.out]; exact HIO3, HM3, HK3, HBR3⟩
        | false =>
          rw [hcb] at hl2 HT
          have HE : Hid (keepR K (L.take (k + 1)) = keepR K (L.take k) ++ [x]) := by unfold Hid; rw [HT.out]; simp
          have HZ : Hid (rowZ (keepR K (L.take (k + 1))) = rowZ (keepR K (L.take k)) ++ [(x : Int)]) := by unfold Hid; rw [HE.out, rowZ_app, rowZ_one]
          have HLn : Hid ((rowZ (keepR K (L.take k))).length = m) := by unfold Hid; rw [rowZ_length, HM.out]
          clear hcb HT
          go_wp2_with (first
            | (go_at_call 20; refine cH.out.mono ?_; rintro e w' ⟨rfl, rfl⟩)
            | (with_reducible refine wpList_append_ints rfl (.tmp 92) (.tmp 94) _ rfl B 3 Try.underlying28 intinfo A m c (rowZ (keepR K (L.take k))) rfl HLn.out (HIO3.out.alloc _) _ 1 1 [(x : Int)] rfl rfl (IL.one 3 w3 x) (by omega) (by simp; omega) w3 ((Below.refl _ _).alloc hs3 _) ?_; intro A4 c4 w4 hO4 hB4))
          go_roundg (P - (k + 1))
          case measure => omega
          case rel =>
            have hb4 : Bes [m2] B w3 w4 := Bes.of_below hB4.out
            exact ⟨k + 1, m + 1, c4, A4, (x : Int) :: ks, hlt, by omega, rfl, by go_num, rfl, by rw [HE.out, List.length_append, ← HM.out]; rfl, by rw [HZ.out]; exact hO4, HM3.out.keep (hB4.out.block _ (by have := HSZ.out; omega)), HK3, HBR3.out.trans hb4⟩
      · obtain rfl : k = P := by omega
        have HE : Hid (L.take k = L) := by unfold Hid; rw [List.take_of_length_le (Nat.le_of_eq HP.out.symm)]
        rw [HE.out] at HM HO
        clear hlt
        go_wp2_with fail
        go_meet
        exact ⟨m, c, A, hmk, rfl, HM, HO.out.il, HOr, HO.out.lt⟩
  case rest =>
  obtain ⟨m, c, A, hmP, rfl, HM, HLA, HO, HAL9⟩ := hcut
  clear HS HM2 HBES HA1 HIL HB HSZ HLT9
  have hal := HO.out.al
  go_upto_block 6 with fail
  obtain ⟨B2, hB2⟩ : ∃ B2, B2 = wc.heap.size := ⟨_, rfl⟩
  have HB2 := Lib.hid hB2
  clear hB2 hal
  go_cut [15] (fun v wx => ∃ (m3 c3 : Nat) (A3 : Option Addr), m3 ≤ P0 ∧ v = .slice A3 m3 c3 ∧ Hid (m3 = (keepR K L0).length) ∧ Hid (IL wx A3 (rowZ (keepR K L0))) ∧ Hid (Below B2 wc wx))
  case first =>
    go_wp2_with fail
    go_loopg [15, 99] P0 (fun gk v i wr => ∃ (k m3 c3 : Nat) (A3 : Option Addr), k ≤ P0 ∧ m3 ≤ k ∧ gk = P0 - k ∧ i = .int .i64 (k : Int) ∧ v = .slice A3 m3 c3 ∧ Hid (m3 = (keepR K (L0.take k)).length) ∧ Hid (Iow 3 wr B2 A3 c3 (rowZ (keepR K (L0.take k)))) ∧ Hid (Below B2 wc wr))
    case atStart => exact ⟨0, 0, 0, none, Nat.zero_le _, Nat.le_refl _, rfl, rfl, rfl, rfl, Iow.nil _ _ _, Below.refl _ _⟩
    case round =>
      obtain ⟨k, m3, c3, A3, hk, hmk, rfl, rfl, rfl, HM3, HO3, HBR⟩ := hrel
      have hbr := HBR.out
      have hs3 : B2 ≤ wr.heap.size := by rw [HB2.out]; exact hbr.size
      rw [HB2.out] at hbr
      have HOr := Lib.hid (HO.out.kept hbr)
      clear hbr
      by_cases hlt : k < P0
      · have hkl : k < L0.length := by rw [← HP0.out]; exact hlt
        obtain ⟨b1, o1, rfl, hc0⟩ := HOr.out.il.at_ (show k < (rowZ L0).length by simpa using hkl)
        rw [rowZ_get hkl] at hc0
        have HT := Lib.hid (keepR_take K L0 hkl)
        obtain ⟨x, hx⟩ : ∃ x, x = L0[k] := ⟨_, rfl⟩
        have hfx : Fits (x : Int) := by
          have hx12 : x < 12 := by rw [hx]; exact HLT0.out _ (List.getElem_mem hkl)
          exact ⟨by omega, by omega⟩
        have hl2 := HOr.out.mi.look hfx
        rw [← hx] at hc0 HT
        clear hx hfx
        cases hcb : K.contains (x : Int) with
        | true =>
          rw [hcb] at hl2 HT
          have HE : Hid (keepR K (L0.take (k + 1)) = keepR K (L0.take k)) := by unfold Hid; rw [HT.out]; simp
          clear hcb HT
          go_wp2_with fail
          go_roundg (P0 - (k + 1))
          case measure => omega
          case rel => exact ⟨k + 1, m3, c3, A3, hlt, by omega, rfl, by go_num, rfl, by rw [HE.out]; exact HM3, by rw [HE.out]; exact HO3, HBR⟩
        | false =>
          rw [hcb] at hl2 HT
          have HE : Hid (keepR K (L0.take (k + 1)) = keepR K (L0.take k) ++ [x]) := by unfold Hid; rw [HT.out]; simp
          have HZ : Hid (rowZ (keepR K (L0.take (k + 1))) = rowZ (keepR K (L0.take k)) ++ [(x : Int)]) := by unfold Hid; rw [HE.out, rowZ_app, rowZ_one]
          have HLn : Hid ((rowZ (keepR K (L0.take k))).length = m3) := by unfold Hid; rw [rowZ_length, HM3.out]
          clear hcb HT
          go_wp2_with (with_reducible refine wpList_append_ints rfl (.tmp 107) (.tmp 109) _ rfl B2 3 Try.underlying28 intinfo A3 m3 c3 (rowZ (keepR K (L0.take k))) rfl HLn.out (HO3.out.alloc _) _ 1 1 [(x : Int)] rfl rfl (IL.one 3 wr x) (by omega) (by simp; omega) wr ((Below.refl _ _).alloc hs3 _) ?_; intro A4 c4 w4 hO4 hB4)
          go_roundg (P0 - (k + 1))
          case measure => omega
          case rel => exact ⟨k + 1, m3 + 1, c4, A4, hlt, by omega, rfl, by go_num, rfl, by rw [HE.out, List.length_append, ← HM3.out]; rfl, by rw [HZ.out]; exact hO4, HBR.out.trans hB4.out⟩
      · obtain rfl : k = P0 := by omega
        have HE : Hid (L0.take k = L0) := by unfold Hid; rw [List.take_of_length_le (Nat.le_of_eq HP0.out.symm)]
        rw [HE.out] at HM3 HO3
        clear hlt
        go_wp2_with fail
        go_meet
        exact ⟨m3, c3, A3, hmk, rfl, HM3, HO3.out.il, HBR⟩
  case rest =>
  obtain ⟨m3, c3, A3, hm3P, rfl, HM3, HLA3, HBR⟩ := hcut
  rename_i _ wT _ _
  have hbr := HBR.out
  rw [HB2.out] at hbr
  have hbel : Below w.heap.size w wc := HO.out.cr.bel.trans (hbr.mono HO.out.cr.bel.size)
  have HBL9 := Lib.hid hbel
  have cS : Hid (Calls Try.prog 17 #[.slice A m c, .slice A3 m3 c3] wc fun e w' => e = .returned (.bool true) ∧ Below wc.heap.size wc w') := by
    have h := RSame_any A A3 c c3 (rowZ (keepR K L)) (rowZ (keepR K L0)) wc (HLA.out.below hbr) HLA3.out (by rw [rowZ_length, ← HM.out]; omega) (by rw [rowZ_length, ← HM3.out]; omega)
    rw [HK.out] at h
    rw [rowZ_length, ← HM3.out] at h
    have hmm : m = m3 := by rw [HM.out, HM3.out, HK.out]
    rw [hmm]
    exact h.mono fun _ _ ⟨he, hb⟩ => ⟨by simpa using he, hb⟩
  clear hbr hbel
  go_wp2_with (first
    | (go_at_call 17; refine cS.out.mono ?_; rintro e w5 ⟨rfl, hb⟩; have HB5 := Lib.hid hb; clear hb)
    | (go_at_call 7; refine (cA _).out.mono ?_; rintro e w6 ⟨rfl, hb⟩; have HB6 := Lib.hid hb; clear hb))
  go_ret
  have h1 := HBL9.out.trans (HB5.out.mono HBL9.out.size)
  exact ⟨rfl, h1.trans (HB6.out.mono h1.size)⟩
end Cn
end Go.Proofs.Ytokgnnmnnjfjbaa
