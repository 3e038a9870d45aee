/-
  CacheReads, walked.
-/
import Derived.Test.YtcpdbdaallbphaaCacheIs
namespace Go.Proofs.Ytcpdbdaallbphaa
open Go.RowKit
namespace Ca
open Mem Dv Cn Po

/-- the image that the law hands in -/
def imgOf (l : List UInt8) : List UInt8 := l.take 18 ++ List.replicate (18 - (l.take 18).length) 0
theorem imgOf_len (l : List UInt8) : (imgOf l).length = 18 := by simp [imgOf]; omega
/-- the image so far -/
structure Im (W wr : World) (v : Value) (l : List UInt8) (k : Nat) : Prop where
  ow : Own 5 wr W.heap.size v (l.take 18 ++ List.replicate k 0)
  bl : Below W.heap.size W wr
set_option maxHeartbeats 4000000 in
set_option maxRecDepth 100000 in
theorem CacheReads_walk (x : Nat) (q0 : Option Addr) (d0 : Nat) (ac : List (Int × Nat × List UInt8)) (A : Option Addr) (c0 : Nat) (im : List UInt8) (w : World) (hx : x < 256) (ha : ActL w q0 ac) (hda : ac.length ≤ maxLen) (hA : BL w A im) (hAc : im.length ≤ c0) (him : im.length ≤ maxLen) :
    Calls Try.prog 4 #[.int .u8 (x : Int), .slice q0 ac.length d0, .slice A im.length c0] w fun e w' => e = .returned (.bool true) ∧ Below w.heap.size w w' := by
  have cA := fun w => Lib.hid (awake_any w)
  obtain ⟨u8i, u8h, u8z, u8s, u8b⟩ := info_parts u8info
  obtain ⟨M, hM⟩ : ∃ M, M = im.length := ⟨_, rfl⟩
  obtain ⟨N, hN⟩ : ∃ N, N = ac.length := ⟨_, rfl⟩
  have HN := Lib.hid hN
  have HA := Lib.hid ha
  have HIM := Lib.hid (And.intro hM hA)
  rw [← hN] at hda ⊢
  rw [← hM] at hAc him ⊢
  have hda' : N ≤ 9223372036854775807 := by unfold maxLen at hda; omega
  have him' : M ≤ 9223372036854775807 := by unfold maxLen at him; omega
  clear ha hN hda hA him hM
  go_enter Try.func4, Try.ntmps4
  go_upto_region 1 with fail
  go_cut [7] (fun bv wx => Hid (Im w wx bv im 0))
  case first =>
    have HO : Hid (Own 5 (w.alloc (.cells #[] 5)) w.heap.size (.slice (some ⟨w.heap.size, 0, none⟩) 0 0) []) := Own.lit 5 w w.heap.size [] (Nat.le_refl _) (by decide)
    have hss : w.heap.size ≤ (w.alloc (.cells #[] 5)).heap.size := by simp
    have HB1 : Hid (Below w.heap.size w (w.alloc (.cells #[] 5))) := (Below.refl _ _).alloc (Nat.le_refl _) _
    by_cases h18 : M ≤ 18
    · have HBA : Hid (BL (w.alloc (.cells #[] 5)) A im) := Lib.hid (HIM.out.2.alloc _)
      have HML : Hid (im.length = M) := HIM.out.1.symm
      have hsl : ∀ w, (Instr.slice 42 (.slice A M c0) none (some (.int .i64 (M : Int))) none).run Try.prog w = .ok (.slice A M c0) w := fun w => run_upTo Try.underlying42 u8h A M c0 M (by omega) w
      have hmm : ([] : List UInt8).length + M ≤ 140737488355328 := by simp; omega
      have hle : (M : Int) ≤ 18 := by omega
      have hmi : ¬ (18 : Int) < (M : Int) := by omega
      have hmn : min (M : Int) 18 = (M : Int) := by omega
      go_wp2_with (with_reducible refine wpList_append_bytes rfl (.tmp 21) (.tmp 26) _ rfl w.heap.size 5 Try.underlying42 u8info (.slice (some ⟨w.heap.size, 0, none⟩) 0 0) [] rfl HO.out A M c0 im rfl HML.out HBA.out hmm hss ?_; intro v' w3 hO hg _)
      go_meet
      refine ⟨?_, grown_below HB1.out hg (Nat.le_refl _) hss⟩
      rw [List.take_of_length_le (by rw [HML.out]; exact h18)]
      simpa using hO.out
    · have HBA : Hid (BL (w.alloc (.cells #[] 5)) A (im.take 18)) := Lib.hid ((HIM.out.2.take 18).alloc _)
      have HML : Hid ((im.take 18).length = 18) := by unfold Hid; rw [List.length_take, ← HIM.out.1]; omega
      have hsl : ∀ w, (Instr.slice 42 (.slice A M c0) none (some (.int .i64 18)) none).run Try.prog w = .ok (.slice A 18 c0) w := fun w => run_upTo Try.underlying42 u8h A M c0 18 (by omega) w
      have hmm : ([] : List UInt8).length + 18 ≤ 140737488355328 := by simp
      have hmi : (18 : Int) < (M : Int) := by omega
      have hmn : min (M : Int) 18 = 18 := by omega
      go_wp2_with (with_reducible refine wpList_append_bytes rfl (.tmp 21) (.tmp 26) _ rfl w.heap.size 5 Try.underlying42 u8info (.slice (some ⟨w.heap.size, 0, none⟩) 0 0) [] rfl HO.out A 18 c0 (im.take 18) rfl HML.out HBA.out hmm hss ?_; intro v' w3 hO hg _)
      go_meet
      refine ⟨?_, grown_below HB1.out hg (Nat.le_refl _) hss⟩
      simpa using hO.out
  case rest =>
  obtain ⟨bv, hbv⟩ : ∃ bv, bv = u7 := ⟨_, rfl⟩
  rw [← hbv] at hcut ⊢
  have HI0 : Hid (Im w wc bv im 0) := hcut
  clear hcut hbv
  go_upto_block 0 with fail
  go_cut [7] (fun bv wx => ∃ A c, bv = .slice A 18 c ∧ Hid (Own 5 wx w.heap.size (.slice A 18 c) (imgOf im)) ∧ Hid (Below w.heap.size w wx))
  case first =>
    obtain ⟨wo, rfl⟩ : ∃ wo : World, wo = wc := ⟨_, rfl⟩
    have htk : (im.take 18).length ≤ 18 := by rw [List.length_take]; omega
    go_wp2_with fail
    go_loopg [7] (18 - (im.take 18).length) (fun gk bv wr => ∃ (k : Nat), (im.take 18).length + k ≤ 18 ∧ gk = 18 - ((im.take 18).length + k) ∧ Hid (Im w wr bv im k))
    case atStart => exact ⟨0, by omega, rfl, HI0⟩
    case round =>
      obtain ⟨k, hk, rfl, HI⟩ := hrel
      clear HI0
      obtain ⟨bv2, hbv2⟩ : ∃ b, b = u7 := ⟨_, rfl⟩
      rw [← hbv2] at HI ⊢
      clear hbv2
      obtain ⟨A1, c1, rfl, hbl, -⟩ := HI.out.ow.slice
      have HOW : Hid (Own 5 wr w.heap.size (.slice A1 (im.take 18 ++ List.replicate k 0).length c1) (im.take 18 ++ List.replicate k 0)) := Lib.hid HI.out.ow
      obtain ⟨m, hm⟩ : ∃ m, m = (im.take 18 ++ List.replicate k 0).length := ⟨_, rfl⟩
      have hmk : m = (im.take 18).length + k := by rw [hm]; simp
      rw [← hm] at HOW ⊢
      have HM := Lib.hid hm
      have HBL := Lib.hid HI.out.bl
      have HMK := Lib.hid hmk
      clear HI hbl hm hmk
      by_cases hlt : m < 18
      · have hX : Below wr.heap.size wr (wr.alloc (.cells #[.int .u8 0] 5)) := (Below.refl _ _).alloc (Nat.le_refl _) _
        have HOW2 : Hid (Own 5 (wr.alloc (.cells #[.int .u8 0] 5)) w.heap.size (.slice A1 m c1) (im.take 18 ++ List.replicate k 0)) := by
          obtain ⟨h1, h2⟩ := HOW.out
          refine ⟨h1, ?_⟩
          rcases h2 with h2 | ⟨g, cap, cur, he, hB, hh, hr⟩
          · exact .inl h2
          · exact .inr ⟨g, cap, cur, he, hB, (hX.block g (Array.getElem?_eq_some_iff.1 hh).1).trans hh, hr⟩
        have HB0 : Hid (BL (wr.alloc (.cells #[.int .u8 0] 5)) (some ⟨wr.heap.size, 0, none⟩) [0]) := Lib.hid (Row.new 5 wr [0]).bl
        have hbn : (im.take 18 ++ List.replicate k 0).length + 1 ≤ 140737488355328 := by rw [← HM.out]; omega
        have hbs : w.heap.size ≤ (wr.alloc (.cells #[.int .u8 0] 5)).heap.size := Nat.le_trans HBL.out.size hX.size
        have HX := Lib.hid hX
        clear hX
        go_wp2_with (with_reducible refine wpList_append_bytes rfl (.tmp 31) (.tmp 32) _ rfl w.heap.size 5 Try.underlying42 u8info (.slice A1 m c1) (im.take 18 ++ List.replicate k 0) rfl HOW2.out (some ⟨wr.heap.size, 0, none⟩) 1 1 [0] rfl rfl HB0.out hbn hbs ?_; intro v' w3 hO hg _)
        go_roundg (18 - ((im.take 18).length + (k + 1)))
        case measure => have := HMK.out; omega
        case rel =>
          have hmk := HMK.out
          refine ⟨k + 1, by omega, rfl, ?_⟩
          have e : im.take 18 ++ List.replicate k 0 ++ [0] = im.take 18 ++ List.replicate (k + 1) 0 := by
            rw [List.append_assoc, List.replicate_succ']
          refine ⟨by rw [← e]; exact hO.out, ?_⟩
          refine (HBL.out.trans (HX.out.mono HBL.out.size)).trans ⟨hg.os, hg.tape, hg.output, hg.size, fun i hi => hg.block i (Nat.lt_of_lt_of_le hi hbs) fun e => ?_⟩
          obtain ⟨_, h2⟩ := HOW2.out
          rcases h2 with ⟨h2, _⟩ | ⟨g, cap, cur, he, hB, _⟩
          · cases h2
            cases e
          · rw [he] at e
            have : i = g := by simpa [Value.ownBlock] using e
            omega
      · have hm18 : m = 18 := by have := HMK.out; omega
        have himg : im.take 18 ++ List.replicate k 0 = imgOf im := by
          have hmk := HMK.out
          unfold imgOf
          congr 2
          omega
        rw [himg] at HOW
        have HM18 := Lib.hid hm18
        have hge : 18 ≤ m := by omega
        clear hm18
        go_wp2_with fail
        go_meet
        refine ⟨A1, c1, ?_, ?_, HBL⟩
        · rw [HM18.out]
        · have := HOW.out
          rw [HM18.out] at this
          exact this
  case rest =>
  obtain ⟨A1, c1, hu7, HOW, HBW⟩ := hcut
  clear HI0
  obtain ⟨q, cq, C, hv, hq, hC, hc18, hC18, hwin⟩ := own_cells (l := imgOf im) HOW.out (by rw [imgOf_len]; omega)
  rw [imgOf_len] at hv hc18 hC18 hwin
  obtain ⟨rfl, rfl⟩ : A1 = some ⟨q, 0, none⟩ ∧ c1 = cq := by simpa using hv
  obtain ⟨img, himg⟩ : ∃ img, img = imgOf im := ⟨_, rfl⟩
  have hil : img.length = 18 := by rw [himg]; exact imgOf_len im
  rw [← himg] at hwin
  have hblI : BL wc (some ⟨q, 0, none⟩) img := (cells_win hC (by omega) hwin).2
  have cF : Calls Try.prog 25 #[.int .i64 2, .slice (some ⟨q, 0, none⟩) 18 c1] wc fun e w' => Made wc w' 2 (chunks img 2 9) 0 0 e ∧ Below wc.heap.size wc w' := by
    have := From_in 2 9 c1 (some ⟨q, 0, none⟩) img wc (by omega) (by omega) (by omega) (by omega) (by rw [hil]) hblI (by omega)
    rw [hil] at this
    exact this
  have HF := Lib.hid cF
  obtain ⟨r, hr, hr2⟩ : ∃ r : Nat, r = x % 6 ∧ r < 6 := ⟨x % 6, rfl, Nat.mod_lt _ (by omega)⟩
  have hmod : ((x : Int)).tmod 6 = (r : Int) := by rw [hr]; rfl
  obtain ⟨n, hn⟩ : ∃ n, n = 1 + r := ⟨_, rfl⟩
  have hw0 : IntKind.i64.wrap ((r : Int)) = (r : Int) := by rw [IntKind.wrap_i64]; omega
  have hw1 : IntKind.i64.wrap (1 + (r : Int)) = (n : Int) := by rw [IntKind.wrap_i64]; omega
  have n1 : 1 ≤ n := by omega
  have n2 : n ≤ 64 := by omega
  have cN : ∀ (w : World) (S : List Nat) (g : Nat) (h : Dev w S g 2 (chunks img 2 9) 0 0), Hid (Calls Try.prog 8 #[.pointer (some ⟨g, 0, none⟩), .int .i64 (n : Int)] w fun e w' => NewC w w' S g (st0 2 n (chunks img 2 9) 0 0) e) := fun w S g h => New_in h n n1 n2
  have HC := Lib.hid (And.intro hC (And.intro hC18 (And.intro hwin (And.intro hc18 hil))))
  subst hu7
  clear hv hC hC18 hwin hc18 hblI cF hr hn HOW himg hil
  go_upto_region 5 with (go_at_call 25; refine HF.out.mono ?_; rintro e w1 ⟨⟨g, S, rfl, hd, hg⟩, hb⟩; have H1 := Lib.hid (And.intro hd (And.intro hg hb)); clear hd hg hb)
  go_upto_region 8 with (go_at_call 8; refine (cN _ _ _ H1.out.1).out.mono ?_; rintro e w2 ⟨p, F2, rfl, hc, hg, hb⟩; have H2 : Hid (Cl w w2 F2 p g (st0 2 n (chunks img 2 9) 0 0) ∧ (∀ y, y ∈ F2 → wc.heap.size ≤ y) ∧ Below wc.heap.size wc w2) := ⟨⟨hc, fun y hy => (by rcases hg y hy with h' | h'; exact Nat.le_trans HBW.out.size (H1.out.2.1 y h'); exact Nat.le_trans HBW.out.size (Nat.le_trans H1.out.2.2.size h')), below_all HBW.out (below_all H1.out.2.2 hb (Nat.le_refl _)) (Nat.le_refl _)⟩, fun y hy => (by rcases hg y hy with h' | h'; exact H1.out.2.1 y h'; exact Nat.le_trans H1.out.2.2.size h'), below_all H1.out.2.2 hb (Nat.le_refl _)⟩; clear hc hg hb)
  clear cN HF H1 hmod hw0 hw1
  go_upto_region 9 with fail
  have hI0 : IsW 64 (w2.alloc (.cells #[.string { data := #[] }, .string { data := #[] }, .string { data := #[] }, .string { data := #[] }, .string { data := #[] }, .string { data := #[] }, .string { data := #[] }, .string { data := #[] }, .string { data := #[] }] 64)) w2.heap.size (fun _ => []) := heap_alloc_new w2 _
  have hb3 : Below w2.heap.size w2 (w2.alloc (.cells #[.string { data := #[] }, .string { data := #[] }, .string { data := #[] }, .string { data := #[] }, .string { data := #[] }, .string { data := #[] }, .string { data := #[] }, .string { data := #[] }, .string { data := #[] }] 64)) := (Below.refl _ _).alloc (Nat.le_refl _) _
  obtain ⟨ib, hib⟩ : ∃ ib, ib = w2.heap.size := ⟨_, rfl⟩
  rw [← hib] at hI0 ⊢
  generalize w2.alloc (.cells #[.string { data := #[] }, .string { data := #[] }, .string { data := #[] }, .string { data := #[] }, .string { data := #[] }, .string { data := #[] }, .string { data := #[] }, .string { data := #[] }, .string { data := #[] }] 64) = w3 at *
  have H3 : Hid (Cl w w3 F2 p g (st0 2 n (chunks img 2 9) 0 0)) := H2.out.1.kept hb3
  have HNF : Hid (ib ∉ F2 ∧ w.heap.size ≤ ib) := ⟨fun hm => by have := H2.out.1.cw.lt ib hm; omega, by rw [hib]; exact H2.out.1.bl.size⟩
  have HCq : Hid (Cells 5 w3 q C ∧ q ≠ ib) := ⟨((below_all H2.out.2.2 hb3 (Nat.le_refl _)).block q HC.out.1.lt).trans HC.out.1, by
    have h1 := HC.out.1.lt
    have h2 := H2.out.2.2.size
    omega⟩
  have HI0 := Lib.hid hI0
  clear hI0 hb3 hib H2 hq
  go_upto_block 2 with fail
  go_cut [12] (fun pv wx => pv = .pointer (some ⟨ib, 0, none⟩) ∧ Hid (IsW 64 wx ib (fun i => win img (i * 2) 2)) ∧ Hid (Flow.Into [ib] w3 wx))
  case first =>
    obtain ⟨wo, rfl⟩ : ∃ wo : World, wo = w3 := ⟨_, rfl⟩
    go_wp2_with fail
    go_loopg [13] 9 (fun gk iv wr => ∃ i : Nat, i ≤ 9 ∧ gk = 9 - i ∧ iv = .int .i64 (i : Int) ∧ Hid (IsW 64 wr ib (fun y => if y < i then win img (y * 2) 2 else [])) ∧ Hid (Flow.Into [ib] wo wr))
    case atStart => exact ⟨0, by omega, rfl, rfl, by simpa using HI0, Flow.Into.refl _ _⟩
    case round =>
      obtain ⟨i, hi, rfl, rfl, HI, HT⟩ := hrel
      clear HI0
      by_cases hlt : i < 9
      · obtain ⟨j, hj⟩ : ∃ j, j = 2 * i := ⟨_, rfl⟩
        obtain ⟨h, hh⟩ : ∃ h, h = 2 * i + 2 := ⟨_, rfl⟩
        have s1 : IntKind.i64.wrap (2 * (i : Int)) = (j : Int) := by rw [IntKind.wrap_i64]; omega
        have s2 : IntKind.i64.wrap ((j : Int) + 2) = (h : Int) := by rw [IntKind.wrap_i64]; omega
        have s3 : IntKind.i64.wrap ((i : Int) + 1) = ((i + 1 : Nat) : Int) := by rw [IntKind.wrap_i64]; omega
        have hcq := (HT.out.block q HCq.out.1.lt (by simpa using HCq.out.2)).trans HCq.out.1
        have hc1 := HC.out.2.2.2.1
        have hw2 : win C j 2 = bytesV (win img j 2) := by
          have h1 := HC.out.2.2.1
          have h2 : win C j 2 = win (win C 0 18) j 2 := by
            apply List.ext_getElem?
            intro y
            rw [win_get, win_get]
            by_cases hy : y < 2
            · rw [if_pos hy, if_pos hy, win_get, if_pos (by omega), Nat.zero_add]
            · rw [if_neg hy, if_neg hy]
          rw [h2, h1]
          unfold win bytesV
          rw [← List.map_drop, ← List.map_take]
        obtain ⟨hwl, hbl⟩ := cells_win hcq (by have := HC.out.2.1; omega) hw2
        have hslc : ∀ w, (Instr.slice 42 (.slice (some ⟨q, 0, none⟩) 18 c1) (some (.int .i64 (j : Int))) (some (.int .i64 (h : Int))) none).run Try.prog w = .ok (.slice (some ⟨q, j, none⟩) 2 (c1 - j)) w := fun w => by
          have := run_mid (P := Try.prog) Try.underlying42 u8h u8s q 18 c1 j h (by omega) (by omega) (by omega) w
          rw [show h - j = 2 by omega] at this
          exact this
        have hconv := run_text_n (P := Try.prog) Try.underlying42 Try.underlying5 Try.underlying9 hbl hwl (c1 - j)
        have d0 := HI.out.cell hlt
        have k0 := HI.out.free i
        have hnew := HI.out.set i (win img j 2)
        have hinto := into_setCell wr ⟨ib, i, none⟩ (.string (strOf (win img j 2)))
        have HNEW : Hid (IsW 64 (wr.setCell ⟨ib, i, none⟩ (.string (strOf (win img j 2)))) ib (fun y => if y < i + 1 then win img (y * 2) 2 else [])) := hnew.congr fun y hy => by
          by_cases e : y = i
          · subst e
            rw [if_pos rfl, if_pos (by omega), hj, Nat.mul_comm]
          · rw [if_neg e]
            by_cases e2 : y < i
            · rw [if_pos e2, if_pos (by omega)]
            · rw [if_neg e2, if_neg (by omega)]
        have HTN := Lib.hid (HT.out.trans hinto)
        have HJ := Lib.hid (And.intro hj hh)
        clear hnew hinto hcq hw2 hwl hbl hj hh hc1
        generalize hstr : strOf (win img j 2) = sw at *
        go_wp2_with fail
        go_roundg (9 - (i + 1))
        case measure => omega
        case rel => exact ⟨i + 1, by omega, rfl, by go_num, HNEW, HTN⟩
      · obtain rfl : i = 9 := by omega
        clear hlt
        go_wp2_with fail
        go_meet
        exact ⟨rfl, HI.out.congr fun y hy => by rw [if_pos hy], HT⟩
  case rest =>
  obtain ⟨rfl, HI2, HT2⟩ := hcut
  have h4 := H3.out.into HT2.out (fun y hy hm => by
    obtain rfl : y = ib := by simpa using hm
    exact HNF.out.1 hy) (fun y hy => by
    obtain rfl : y = ib := by simpa using hy
    exact HNF.out.2)
  have HR0 : Hid (RC w wc F2 p g (st0 2 n (chunks img 2 9) 0 0) 0 ib) := ⟨h4, ⟨Nat.le_refl _, Nat.le_refl _, fun j f h => (repl_none h).elim⟩, chunks_len img, rfl, HI2.out.congr fun i hi => (cur_new hi).symm, HNF.out.1, HNF.out.2⟩
  clear h4 HI2 HT2 HI0 HCq HNF H3 HC HBW
  generalize st0 2 n (chunks img 2 9) 0 0 = sta at *
  go_upto_block 4 with fail
  go_cut [10] (fun pv wx => pv = .pointer (some ⟨p, 0, none⟩) ∧ ∃ F st k, k ≤ 80 ∧ Hid (RC w wx F p g st k ib))
  case first =>
    obtain ⟨wo, rfl⟩ : ∃ wo : World, wo = wc := ⟨_, rfl⟩
    go_wp2_with fail
    go_loopg [14] N (fun gk iv wr => ∃ (k : Nat) (F : List Nat) (st : St), k ≤ N ∧ k ≤ 80 ∧ gk = N - k ∧ iv = .int .i64 (k : Int) ∧ Hid (RC w wr F p g st k ib))
    case atStart => exact ⟨0, F2, _, Nat.zero_le _, Nat.zero_le _, rfl, rfl, HR0⟩
    case round =>
      obtain ⟨k, F, st, hk, hk80, rfl, rfl, HR⟩ := hrel
      clear HR0
      by_cases hlt : k < N ∧ k < 80
      · obtain ⟨hkN, hk8⟩ := hlt
        have hwk : IntKind.i64.wrap ((k : Int) + 1) = ((k + 1 : Nat) : Int) := by rw [IntKind.wrap_i64]; omega
        obtain ⟨ab, ao, ⟨kd, I, bs⟩, rfl, hact⟩ := HA.out.at_ (i := k) (by rw [← HN.out]; exact hkN)
        obtain ⟨g0, g1, ⟨Ab, cb, g2, hblW, -⟩, hI, -⟩ := hact
        simp only at g0 g1 g2 hI hblW
        have e0 := cell_after HR.out.cl.bl g0
        have e1 := cell_after HR.out.cl.bl g1
        have e2 := cell_after HR.out.cl.bl g2
        have HBLW := Lib.hid hblW
        clear g0 g1 g2 hblW
        obtain ⟨bn, hbn⟩ : ∃ bn, bn = bs.length := ⟨_, rfl⟩
        rw [← hbn] at e2
        have HBN := Lib.hid hbn
        clear hbn
        go_upto_region 17 with fail
        have hx4 := heap_alloc_new wr (.cells #[.int .i64 kd, .int .u32 (I : Int), .slice Ab bn cb] 44)
        have hb4 : Below wr.heap.size wr (wr.alloc (.cells #[.int .i64 kd, .int .u32 (I : Int), .slice Ab bn cb] 44)) := (Below.refl _ _).alloc (Nat.le_refl _) _
        obtain ⟨b1, hb1⟩ : ∃ b1, b1 = wr.heap.size := ⟨_, rfl⟩
        rw [← hb1] at hx4 ⊢
        generalize wr.alloc (.cells #[.int .i64 kd, .int .u32 (I : Int), .slice Ab bn cb] 44) = w4 at *
        have HNB : Hid (b1 ∉ F ∧ b1 ≠ ib) := ⟨fun hm => by have := HR.out.cl.cw.lt b1 hm; omega, fun e => by have := HR.out.isw.lt; omega⟩
        have H4 := Lib.hid (HR.out.kept hb4)
        obtain ⟨a0, a1, a2⟩ := box3_cells hx4
        have HX4 := Lib.hid hx4
        clear HR hx4 hb4 hb1 e0 e1 e2
        by_cases h7 : kd = 7
        · subst h7
          go_wp2_with fail
          go_roundg (N - (k + 1))
          case measure => omega
          case rel => exact ⟨k + 1, F, st, by omega, by omega, rfl, by go_num, H4.out.next⟩
        have n7 : (kd == 7) = false := by simpa using h7
        have hbl4 := HBLW.out.below H4.out.cl.bl
        have cT := Lib.hid (step_any (c := cb) H4.out.cl (H4.out.sm.mono (by omega)) (by rw [H4.out.ll]; omega) kd hI hbl4 HBN.out.symm)
        have hsm := H4.out.sm.step (by rw [H4.out.ll]; omega) kd I bs
        have hcur := cur_step H4.out.cl.cw.good h7 I bs
        have hlt9 := fun hz hk => step_lt H4.out.cl.cw.good (k := kd) (b := I) (y := bs) hz hk
        obtain ⟨hm9, hl9⟩ := step_keeps st kd I bs
        rw [H4.out.m2] at hm9 hcur
        rw [H4.out.ll] at hl9 hlt9
        generalize stepT st kd I bs = res at *
        obtain ⟨z, st'⟩ := res
        simp only at cT hsm hcur hlt9 hm9 hl9
        have HCUR := Lib.hid hcur
        have HL9 := Lib.hid hlt9
        have HST := Lib.hid (And.intro hsm (And.intro hm9 hl9))
        clear hsm hcur hlt9 hm9 hl9 hbl4
        go_upto_region 19 with (go_at_call 12; refine cT.out.mono ?_; rintro e w5 ⟨rfl, ⟨F5, hc5, hg5⟩, hi5⟩)
        have hx5 := (hi5.block b1 (Array.getElem?_eq_some_iff.1 HX4.out).1 HNB.out.1).trans HX4.out
        have hi9 := H4.out.isw.keep (hi5.block ib H4.out.isw.lt H4.out.nf)
        have HNI : Hid (ib ∉ F5 ∧ w.heap.size ≤ ib) := ⟨fun hm => by
          rcases hg5 ib hm with h' | h'
          · exact H4.out.nf h'
          · have := H4.out.isw.lt; omega, H4.out.lo⟩
        have HC5 := Lib.hid hc5
        have HX5 := Lib.hid hx5
        have HI5 := Lib.hid hi9
        clear hc5 hg5 hi5 hx5 hi9 cT a0 a1 a2 HX4 H4 n7
        obtain ⟨fa, hfa⟩ : ∃ fa : Nat → List UInt8, ∀ i, fa i = if z = 0 ∧ i = I ∧ kd = 2 then List.replicate 2 0 else cur st i := ⟨_, fun _ => rfl⟩
        have HFA := Lib.hid hfa
        clear hfa
        go_cut [98] (fun tv wx => ∃ tb, tv = .bool tb ∧ (tb = true ↔ z = 0 ∧ kd = 2) ∧ wx = w5)
        case first =>
          obtain ⟨a0, a1, a2⟩ := box3_cells HX5.out
          by_cases hz : z = 0
          · subst hz
            by_cases h2 : kd = 2
            · subst h2
              go_wp2_with fail
              go_meet
              exact ⟨true, rfl, by simp, rfl⟩
            · have n2 : (kd == 2) = false := by simpa using h2
              go_wp2_with fail
              go_meet
              exact ⟨false, rfl, by simp [h2], rfl⟩
          · have n2 : (z == 0) = false := by simpa using hz
            go_wp2_with fail
            go_meet
            exact ⟨false, rfl, by simp [hz], rfl⟩
        case rest =>
        obtain ⟨tb, rfl, htb, rfl⟩ := hcut
        go_upto_if 98 with fail
        go_cut [16] (fun zv wx => zv = .int .i64 z ∧ Hid (IsW 64 wx ib fa) ∧ Hid (Flow.Into [ib] wc wx))
        case first =>
          obtain ⟨a0, a1, a2⟩ := box3_cells HX5.out
          cases tb with
          | true =>
            obtain ⟨rfl, rfl⟩ := htb.1 rfl
            have hI9 : I < 9 := HL9.out rfl (.inl rfl)
            have d0 := HI5.out.cell hI9
            have k0 := HI5.out.free I
            have hnew := HI5.out.set I [0, 0]
            have hinto := into_setCell wc ⟨ib, I, none⟩ (.string (strOf [0, 0]))
            have HNEW : Hid (IsW 64 (wc.setCell ⟨ib, I, none⟩ (.string (strOf [0, 0]))) ib fa) := hnew.congr fun y hy => by
              rw [HFA.out]
              by_cases e : y = I
              · rw [if_pos e, if_pos ⟨rfl, e, rfl⟩]; rfl
              · rw [if_neg e, if_neg (fun e' => e e'.2.1)]
            have HTN := Lib.hid hinto
            clear hnew hinto htb
            go_wp2_with fail
            go_meet
            exact ⟨rfl, HNEW, HTN⟩
          | false =>
            have hno : ¬ (z = 0 ∧ kd = 2) := fun e => by
              have := htb.2 e
              cases this
            go_wp2_with fail
            go_meet
            exact ⟨rfl, HI5.out.congr fun y hy => by rw [HFA.out, if_neg (fun e' => hno ⟨e'.1, e'.2.2⟩)], Flow.Into.refl _ _⟩
        case rest =>
        obtain ⟨rfl, HI6, HT6⟩ := hcut
        obtain ⟨w6, hw6⟩ : ∃ w6, w6 = wc := ⟨_, rfl⟩
        rw [← hw6] at HI6 HT6 ⊢
        clear hw6
        have hx6 := (HT6.out.block b1 (Array.getElem?_eq_some_iff.1 HX5.out).1 (by simpa using HNB.out.2)).trans HX5.out
        have hc6 := HC5.out.into HT6.out (fun y hy hm => by
          obtain rfl : y = ib := by simpa using hm
          exact HNI.out.1 hy) (fun y hy => by
          obtain rfl : y = ib := by simpa using hy
          exact HNI.out.2)
        have HX6 := Lib.hid hx6
        have HC6 := Lib.hid hc6
        clear hx6 hc6 HX5 HC5 HT6 HI5
        clear htb
        go_upto_region 21 with fail
        go_cut [113] (fun tv wx => ∃ tb, tv = .bool tb ∧ (tb = true ↔ z = 0 ∧ (kd = 5 ∨ kd = 6)) ∧ wx = w6)
        case first =>
          obtain ⟨a0, a1, a2⟩ := box3_cells HX6.out
          by_cases hz : z = 0
          · subst hz
            by_cases h5 : kd = 5
            · subst h5
              go_wp2_with fail
              go_meet
              exact ⟨true, rfl, by simp, rfl⟩
            · have n5 : (kd == 5) = false := by simpa using h5
              by_cases h6 : kd = 6
              · subst h6
                go_wp2_with fail
                go_meet
                exact ⟨true, rfl, by simp, rfl⟩
              · have n6 : (kd == 6) = false := by simpa using h6
                go_wp2_with fail
                go_meet
                exact ⟨false, rfl, by simp [h5, h6], rfl⟩
          · have n2 : (z == 0) = false := by simpa using hz
            go_wp2_with fail
            go_meet
            exact ⟨false, rfl, by simp [hz], rfl⟩
        case rest =>
        obtain ⟨tb2, rfl, htb2, hwc⟩ := hcut
        obtain ⟨w6', hw6'⟩ : ∃ w6', w6' = w6 := ⟨_, rfl⟩
        rw [hwc]
        clear hwc
        go_upto_if 113 with fail
        go_cut [16] (fun zv wx => zv = .int .i64 z ∧ Hid (IsW 64 wx ib (cur st')) ∧ Hid (Flow.Into [ib] w6 wx))
        case first =>
          obtain ⟨a0, a1, a2⟩ := box3_cells HX6.out
          cases tb2 with
          | true =>
            obtain ⟨rfl, h56⟩ := htb2.1 rfl
            have hI9 : I < 9 := HL9.out rfl (.inr h56)
            have d0 := HI6.out.cell hI9
            have k0 := HI6.out.free I
            have hnew := HI6.out.set I bs
            have hinto := into_setCell w6 ⟨ib, I, none⟩ (.string (strOf bs))
            have HNEW : Hid (IsW 64 (w6.setCell ⟨ib, I, none⟩ (.string (strOf bs))) ib (cur st')) := hnew.congr fun y hy => by
              rw [HCUR.out, HFA.out]
              by_cases e : y = I
              · rw [if_pos e, if_neg (fun e' => by omega), if_pos ⟨rfl, e, h56⟩]
              · simp [e]
            have HTN := Lib.hid hinto
            have hconv := run_text_n (P := Try.prog) Try.underlying42 Try.underlying5 Try.underlying9 (HBLW.out.below HC6.out.bl) HBN.out.symm cb
            clear hnew hinto htb2 h56
            generalize strOf bs = sbs at *
            go_wp2_with fail
            go_meet
            exact ⟨rfl, HNEW, HTN⟩
          | false =>
            have hno : ¬ (z = 0 ∧ (kd = 5 ∨ kd = 6)) := fun e => by
              have := htb2.2 e
              cases this
            go_wp2_with fail
            go_meet
            exact ⟨rfl, HI6.out.congr fun y hy => by
              rw [HCUR.out, HFA.out]
              by_cases e : z = 0 ∧ y = I ∧ kd = 2
              · rw [if_pos e, if_pos e]
              · rw [if_neg e, if_neg e, if_neg (fun e' => hno ⟨e'.1, e'.2.2⟩)], Flow.Into.refl _ _⟩
        case rest =>
        obtain ⟨rfl, HI7, HT7⟩ := hcut
        obtain ⟨w7, hw7⟩ : ∃ w7, w7 = wc := ⟨_, rfl⟩
        have hx7 := (HT7.out.block b1 (Array.getElem?_eq_some_iff.1 HX6.out).1 (by simpa using HNB.out.2)).trans HX6.out
        have hc7 := HC6.out.into HT7.out (fun y hy hm => by
          obtain rfl : y = ib := by simpa using hm
          exact HNI.out.1 hy) (fun y hy => by
          obtain rfl : y = ib := by simpa using hy
          exact HNI.out.2)
        have HX7 := Lib.hid hx7
        have HC7 := Lib.hid hc7
        clear hx7 hc7 HX6 HC6 HT7 HI6 HL9 HCUR HFA htb2 hw7 HBLW
        obtain ⟨a0, a1, -⟩ := box3_cells HX7.out
        have cR := Lib.hid (CRead HC7.out.cw hI)
        have hrd := fun h => read_cur HC7.out.cw.good (b := I) h
        rw [HST.out.2.2] at hrd
        generalize readP st' I = rp at *
        obtain ⟨rx, rz⟩ := rp
        simp only at cR hrd
        go_upto_region 24 with (go_at_call 13; refine cR.out.mono ?_; rintro e w8 ⟨⟨A8, k8, rfl, hbl8⟩, hb8⟩)
        have HB8 := Lib.hid hb8
        have hc8 := HC7.out.kept hb8
        have hi8 := HI7.out.keep (hb8.block ib HI7.out.lt)
        have hx8 := (hb8.block b1 (Array.getElem?_eq_some_iff.1 HX7.out).1).trans HX7.out
        obtain ⟨-, a1', -⟩ := box3_cells hx8
        have hbq : ∀ m, Below w8.heap.size w8 (w8.drewN m) := fun m => ⟨rfl, rfl, rfl, Nat.le_refl _, fun _ _ => rfl⟩
        have HNEW : Hid (∀ m, RC w (w8.drewN m) F5 p g st' (k + 1) ib) := fun m => ⟨hc8.kept (hbq m), HST.out.1.mono (by omega), HST.out.2.2, HST.out.2.1, hi8.keep ((hbq m).block ib hi8.lt), HNI.out.1, HNI.out.2⟩
        by_cases hrz : rz = 0
        · obtain ⟨hrx, hI9⟩ := hrd hrz
          subst hrz
          have d0 := hi8.cell hI9
          rw [← hrx] at d0
          have hconv : ∀ m, (convert 42 9 (.slice A8 rx.length k8)).run Try.prog (w8.drewN m) = .ok (.string (strOf rx)) (w8.drewN m) := fun m => run_text (P := Try.prog) Try.underlying42 Try.underlying5 Try.underlying9 (hbl8.drewN m) k8
          have hI9' : (I : Int) < 9 := by omega
          generalize strOf rx = srx at *
          clear hb8 hc8 hi8 hx8 hbq hrd hrx cR a0 a1 HX7 HC7 HI7 hbl8
          go_quiet (fail)
          go_wp2_with fail
          go_roundg (N - (k + 1))
          case measure => omega
          case rel => exact ⟨k + 1, F5, st', by omega, by omega, rfl, by go_num, HNEW.out _⟩
        · have hrz' : (rz == 0) = false := by simpa using hrz
          clear hb8 hc8 hi8 hx8 hbq hrd cR a0 a1 HX7 HC7 HI7 hbl8
          go_quiet (fail)
          go_wp2_with fail
          go_roundg (N - (k + 1))
          case measure => omega
          case rel => exact ⟨k + 1, F5, st', by omega, by omega, rfl, by go_num, HNEW.out _⟩
      · by_cases hkN : k < N
        · have hk80' : 80 ≤ k := by omega
          clear hlt
          go_wp2_with fail
          go_meet
          exact ⟨rfl, F, st, k, hk80, HR⟩
        · obtain rfl : k = N := by omega
          clear hlt
          go_wp2_with fail
          go_meet
          exact ⟨rfl, F, st, k, hk80, HR⟩
  case rest =>
  obtain ⟨rfl, F, st, k, hk80, HR⟩ := hcut
  clear HR0
  have hgd := HR.out.cl.cw.good
  obtain ⟨hfc, hfd, hfl⟩ := flush_all hgd
  rw [HR.out.ll] at hfl
  have hfm : (flushT st).m = 2 := (cost_flush st).m.trans HR.out.m2
  have hfll : (flushT st).ls.length = 9 := (cost_flush st).ll.trans HR.out.ll
  have hf2 : ∀ i, i < 9 → (cur st i).length = 2 := fun i hi => (cur_len hgd (by rw [HR.out.ll]; exact hi)).trans HR.out.m2
  have cFl := Lib.hid (LFlush HR.out.cl (HR.out.sm.mono (by omega)) (by rw [HR.out.ll]; omega))
  have HIS := Lib.hid HR.out.isw
  have HNF := Lib.hid HR.out.nf
  have hlen := flat_len hf2
  generalize cur st = f at *
  have HLEN := Lib.hid hlen
  have HFD := Lib.hid (And.intro hfd (And.intro hfl (And.intro hfm hfll)))
  have HF2 := Lib.hid hf2
  clear HR hgd hfc hfd hfl hfm hfll hlen hf2
  generalize flushT st = stf at *
  go_upto_region 28 with (go_at_call 26; refine cFl.out.mono ?_; rintro e w5 ⟨rfl, ⟨F5, hc5, -⟩, hi5⟩)
  have hi9 := HIS.out.keep (hi5.block ib HIS.out.lt HNF.out)
  have HI5 := Lib.hid hi9
  have HC5 := Lib.hid hc5
  clear hc5 hi5 hi9 HIS HNF cFl
  go_upto_block 6 with fail
  go_cut [19] (fun av wx => av = .string (strOf ((List.range 9).map f).flatten) ∧ wx = w5)
  case first =>
    go_wp2_with fail
    go_loopg [19, 20] 9 (fun gk av iv wr => ∃ i : Nat, i ≤ 9 ∧ gk = 9 - i ∧ iv = .int .i64 (i : Int) ∧ av = .string (strOf ((List.range i).map f).flatten) ∧ wr = w5)
    case atStart => exact ⟨0, by omega, rfl, rfl, rfl, rfl⟩
    case round =>
      obtain ⟨i, hi, rfl, rfl, rfl, rfl⟩ := hrel
      by_cases hlt : i < 9
      · have d0 := HI5.out.cell hlt
        have hsz : (strOf ((List.range i).map f).flatten).size + (strOf (f i)).size ≤ 1048576 := by
          rw [strOf_size, strOf_size, HLEN.out i hi, HF2.out i hlt]
          omega
        have HY : Hid (strOf ((List.range i).map f).flatten ++ strOf (f i) = strOf ((List.range (i + 1)).map f).flatten) := by
          unfold Hid; rw [flat_next, strOf_append]
        have hwk : IntKind.i64.wrap ((i : Int) + 1) = ((i + 1 : Nat) : Int) := by rw [IntKind.wrap_i64]; omega
        generalize strOf ((List.range i).map f).flatten = sx at *
        generalize strOf (f i) = sy at *
        go_wp2_with fail
        go_roundg (9 - (i + 1))
        case measure => omega
        case rel => exact ⟨i + 1, by omega, rfl, by go_num, by rw [HY.out], rfl⟩
      · obtain rfl : i = 9 := by omega
        clear hlt
        go_wp2_with fail
        go_meet
        exact ⟨rfl, rfl⟩
  case rest =>
  obtain ⟨rfl, hwc⟩ := hcut
  obtain ⟨S5, hd5⟩ := HC5.out.dev
  have cI : Calls Try.prog 16 #[.pointer (some ⟨g, 0, none⟩)] w5 fun e w' => Pictured w5 w' 18 ((List.range 9).map f).flatten e ∧ Below w5.heap.size w5 w' := by
    have := Image_n hd5 9 18 HFD.out.2.2.2.symm (by rw [HFD.out.2.2.1]) (by omega)
    rw [HFD.out.2.1] at this
    exact this
  have HCI := Lib.hid cI
  have cDr : ∀ w', Below w5.heap.size w5 w' → Hid (Calls Try.prog 21 #[.pointer (some ⟨p, 0, none⟩)] w' fun e w'' => (∃ A c, e = .returned (.slice A 0 c)) ∧ Below w'.heap.size w' w'') := fun w' hb => by
    have := CDirty (HC5.out.cw.kept hb) (by rw [HFD.out.2.2.2]; omega)
    rw [HFD.out.1] at this
    exact this.mono fun e w'' ⟨⟨A, c, he, _⟩, hb⟩ => ⟨⟨A, c, he⟩, hb⟩
  have hln : ((List.range 9).map f).flatten.length = 18 := HLEN.out 9 (Nat.le_refl _)
  have HLN := Lib.hid hln
  clear hd5 cI hln
  rw [hwc]
  go_wp2_with (first
    | (go_at_call 16; refine HCI.out.mono ?_; rintro e w6 ⟨⟨q6, rfl, hrow, -⟩, hb⟩; have hconv := run_text_n (P := Try.prog) Try.underlying42 Try.underlying5 Try.underlying9 hrow.bl HLN.out 18; have HB6 := Lib.hid hb; clear hrow hb)
    | (go_at_call 21; refine (cDr _ HB6.out).out.mono ?_; rintro e w7 ⟨⟨A7, c7, rfl⟩, hb⟩; have HB7 := Lib.hid hb; clear hb)
    | (go_at_call 9; refine (cA _).out.mono ?_; rintro e w8 ⟨rfl, hb⟩; have HB8 := Lib.hid hb; clear hb))
  go_ret
  exact ⟨rfl, below_all HC5.out.bl (below_all (below_all HB6.out HB7.out (Nat.le_refl _)) HB8.out (Nat.le_refl _)) (Nat.le_refl _)⟩
end Ca
end Go.Proofs.Ytcpdbdaallbphaa
