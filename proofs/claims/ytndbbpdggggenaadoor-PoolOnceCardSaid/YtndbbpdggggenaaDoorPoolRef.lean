/-
  Contracts of the document's pool: New, Free, with, Mark, Give.
-/
import Derived.Test.YtndbbpdggggenaaDoorPoolTake
namespace Go.Proofs.YtndbbpdggggenaaDoor
open Go.RowKit
namespace Po
open Mem Bt

set_option maxHeartbeats 1000000 in
theorem RNew_any (n : Nat) (w : World) (h0 : 1 ≤ n) (h1 : n ≤ 1048576) : Calls Tryd.prog 10 #[.int .i64 (n : Int)] w fun e w' => ∃ h c, e = .returned (.slice (some ⟨h, 0, none⟩) n c) ∧ BoolAt w' h c n (tbN n) ∧ w.heap.size ≤ h ∧ Below w.heap.size w w' := by
  have hmk := fun w => run_make_at (P := Tryd.prog) Tryd.underlying30 boolinfo rfl (by omega) n h1 w
  have HM := Lib.hid h1
  clear h1
  go_enter Tryd.func10, Tryd.ntmps10
  go_upto_region 2 with fail
  have HO : Hid (Ow 4 (w.alloc (.cells (Array.replicate n (.bool false)) 4)) w.heap.size n ((List.replicate n false).map Value.bool)) := by
    unfold Hid
    have := ow_made 4 w (.bool false) n HM.out
    simpa using this
  have HB : Hid (Below w.heap.size w (w.alloc (.cells (Array.replicate n (.bool false)) 4))) := (Below.refl _ _).alloc (Nat.le_refl _) _
  generalize w.alloc (.cells (Array.replicate n (.bool false)) 4) = w1 at *
  have hf := HO.out.free 0
  have hc := HO.out.cell (i := 0) (by simp; omega)
  go_wp2_with fail
  go_ret
  obtain ⟨h1, h2⟩ := HO.out.set 0 (.bool true)
  refine ⟨w.heap.size, n, rfl, ⟨?_, tbN_len n⟩, Nat.le_refl _, HB.out.setCell (Nat.le_refl _) _⟩
  unfold tbN
  rw [List.map_set]
  exact h1

set_option maxHeartbeats 1000000 in
theorem RFree_any (h c n : Nat) (tb : List Bool) (w : World) (H : BoolAt w h c n tb) (hn : n ≤ 1048576) : Calls Tryd.prog 21 #[.slice (some ⟨h, 0, none⟩) n c] w fun e w' => e = .returned (.int .i64 (free tb : Int)) ∧ w = w' := by
  have HH := Lib.hid H
  have HC : Hid ((frs tb n).length = free tb) := by unfold Hid; rw [← H.len]; exact frs_all tb
  clear H
  go_enter Tryd.func21, Tryd.ntmps21
  go_wp2
  go_loopw [3, 4] (fun x i wr => ∃ k v : Nat, k ≤ n ∧ i = .int .i64 k ∧ x = .int .i64 (v : Int) ∧ v ≤ k ∧ Hid (v = (frs tb k).length) ∧ w = wr) (fun _ i _ => n - (intOf i).toNat)
  case atStart => exact ⟨0, 0, Nat.zero_le _, rfl, rfl, by omega, by unfold Hid; rfl, rfl⟩
  case round =>
    obtain ⟨k, v, hk, rfl, rfl, hv, HV, rfl⟩ := hrel
    by_cases hlt : k < n
    · have hc := HH.out.cell hlt
      have HP : Hid ((frs tb (k + 1)).length = (frs tb k).length + if tb.getD k false then 0 else 1) := by
        show (frs tb k ++ (if tb.getD k false then [] else [k])).length = _
        rw [List.length_append]
        cases tb.getD k false <;> rfl
      cases hb : tb.getD k false with
      | true =>
        rw [hb] at hc HP
        clear hb
        go_wp2
        exact ⟨⟨k + 1, v, hlt, by go_num, by go_num, by omega, by unfold Hid; rw [HP.out, HV.out]; rfl, trivial⟩, by simp [intOf]; omega⟩
      | false =>
        rw [hb] at hc HP
        clear hb
        go_wp2
        exact ⟨⟨k + 1, v + 1, hlt, by go_num, by go_num, by omega, by unfold Hid; rw [HP.out, HV.out]; rfl, trivial⟩, by simp [intOf]; omega⟩
    · obtain rfl : k = n := by omega
      go_wp2
      go_ret
      exact ⟨ret_i64 (by rw [HV.out, HC.out]), rfl⟩

set_option maxHeartbeats 1000000 in
theorem with_any (h c n k : Nat) (tb : List Bool) (v : Bool) (w : World) (H : BoolAt w h c n tb) (hk : k < n) (hn : n ≤ 1048576) : Calls Tryd.prog 28 #[.slice (some ⟨h, 0, none⟩) n c, .int .i64 (k : Int), .bool v] w fun e w' => ∃ h' c', e = .returned (.slice (some ⟨h', 0, none⟩) n c') ∧ BoolAt w' h' c' n (tb.set k v) ∧ w.heap.size ≤ h' ∧ Below w.heap.size w w' := by
  have HH := Lib.hid H
  have HL : Hid ((tb.map Value.bool).length = n) := by unfold Hid; rw [List.length_map, H.len]
  have hp : 0 < n := by omega
  clear H
  go_enter Tryd.func28, Tryd.ntmps28
  go_wp2_with (with_reducible refine wpList_append_ow rfl (.tmp 8) (.tmp 9) _ rfl 4 Tryd.underlying30 (.bool false) 1 boolinfo rfl (by omega) w rfl rfl h n c (tb.map Value.bool) rfl HL.out HH.out.ow (bools_one tb) hp hn ?_; intro h' c' w1 hO hB hb; have hf := hO.out.free k; have hc := hO.out.cell (i := k) (by rw [HL.out]; exact hk))
  go_ret
  obtain ⟨h1, h2⟩ := hO.out.set k (.bool v)
  refine ⟨h', c', rfl, ⟨by rw [List.map_set]; exact h1, ?_⟩, hB.out, hb.out.setCell hB.out _⟩
  rw [List.length_set, HH.out.len]

/-- what Mark and Give answer: the places, and an error -/
def Told (w w' : World) (B n : Nat) (t : List Bool) (x : Int) (e : Ending) : Prop := ∃ h' c', e = .returned (.tuple #[.slice (some ⟨h', 0, none⟩) n c', .int .i64 x]) ∧ BoolAt w' h' c' n t ∧ B ≤ h' ∧ Below w.heap.size w w'

set_option maxHeartbeats 1000000 in
theorem RMark_any (h c n i : Nat) (tb : List Bool) (w : World) (H : BoolAt w h c n tb) (hn : n ≤ 65536) (hi : i < 4294967296) (B : Nat) (hB : B ≤ h) (hBw : B ≤ w.heap.size) : Calls Tryd.prog 15 #[.slice (some ⟨h, 0, none⟩) n c, .int .u32 (i : Int)] w fun e w' => Told w w' B n (setT tb i) (setE tb i) e := by
  have hl := H.len
  have hw1 : IntKind.u64.wrap (i : Int) = (i : Int) := by rw [IntKind.wrap_u64]; omega
  have hw2 : IntKind.u64.wrap (n : Int) = (n : Int) := by rw [IntKind.wrap_u64]; omega
  have hw3 : IntKind.i64.wrap (i : Int) = (i : Int) := by rw [IntKind.wrap_i64]; omega
  by_cases hlt : i < n
  · have hin : inB tb i = true := in_lt (by omega)
    have hc := H.cell hlt
    cases hv : tb.getD i false with
    | true =>
      have e1 : setE tb i = 10 := by unfold setE; rw [hin, has_nat, hv]; rfl
      have e2 : setT tb i = tb := by unfold setT; rw [hin]; exact set_same (by omega) hv
      rw [hv] at hc
      rw [e1, e2]
      have HH := Lib.hid H
      have HB := Lib.hid hB
      clear H hv e1 e2 hin hl hB hBw
      go_enter Tryd.func15, Tryd.ntmps15
      go_wp2
      exact bodyPost_ret (v := .tuple #[.slice (some ⟨h, 0, none⟩) n c, .int .i64 10]) (by simp [results, Tryd.results15, go_sem]) rfl ⟨h, c, rfl, HH.out, HB.out, Below.refl _ _⟩
    | false =>
      have e1 : setE tb i = 0 := by unfold setE; rw [hin, has_nat, hv]; rfl
      have e2 : setT tb i = tb.set i true := by unfold setT; rw [hin]; rfl
      rw [hv] at hc
      rw [e1, e2]
      have cW := fun w H => Lib.hid (with_any h c n i tb true w H hlt (by omega))
      have HH := Lib.hid H
      have HB := Lib.hid hBw
      clear H hv e1 e2 hin hl hB hBw
      go_enter Tryd.func15, Tryd.ntmps15
      go_wp2_with (go_at_call 28; refine (cW _ HH.out).out.mono ?_; rintro e w1 ⟨h', c', rfl, h1, h2, h3⟩; have H1 := Lib.hid h1; have H2 := Lib.hid h2; have H3 := Lib.hid h3; clear h1 h2 h3)
      exact bodyPost_ret (v := .tuple #[.slice (some ⟨h', 0, none⟩) n c', .int .i64 0]) (by simp [results, Tryd.results15, go_sem]) rfl ⟨h', c', rfl, H1.out, Nat.le_trans HB.out H2.out, H3.out⟩
  · have hin : inB tb i = false := in_ge (by omega)
    have e1 : setE tb i = 4 := by unfold setE; rw [hin]; rfl
    have e2 : setT tb i = tb := by unfold setT; rw [hin]; rfl
    rw [e1, e2]
    have hge : n ≤ i := by omega
    have HH := Lib.hid H
    have HB := Lib.hid hB
    clear H e1 e2 hin hl hB hBw hlt
    go_enter Tryd.func15, Tryd.ntmps15
    go_wp2
    exact bodyPost_ret (v := .tuple #[.slice (some ⟨h, 0, none⟩) n c, .int .i64 4]) (by simp [results, Tryd.results15, go_sem]) rfl ⟨h, c, rfl, HH.out, HB.out, Below.refl _ _⟩

set_option maxHeartbeats 1000000 in
theorem RGive_any (h c n i : Nat) (tb : List Bool) (w : World) (H : BoolAt w h c n tb) (h1n : 1 ≤ n) (hn : n ≤ 65536) (hi : i < 4294967296) (B : Nat) (hB : B ≤ h) (hBw : B ≤ w.heap.size) : Calls Tryd.prog 17 #[.slice (some ⟨h, 0, none⟩) n c, .int .u32 (i : Int)] w fun e w' => Told w w' B n (gvT tb i) (gvE tb i) e := by
  have hl := H.len
  have hw1 : IntKind.u64.wrap (i : Int) = (i : Int) := by rw [IntKind.wrap_u64]; omega
  have hw2 : IntKind.u64.wrap (n : Int) = (n : Int) := by rw [IntKind.wrap_u64]; omega
  have hw3 : IntKind.i64.wrap (i : Int) = (i : Int) := by rw [IntKind.wrap_i64]; omega
  by_cases h0 : i = 0
  · subst h0
    have e1 : gvE tb 0 = 2 := rfl
    have e2 : gvT tb 0 = tb := rfl
    rw [e1, e2]
    have hgt : ¬ n = 0 := by omega
    have HH := Lib.hid H
    have HB := Lib.hid hB
    clear H e1 e2 hl hB hBw
    go_enter Tryd.func17, Tryd.ntmps17
    go_wp2
    exact bodyPost_ret (v := .tuple #[.slice (some ⟨h, 0, none⟩) n c, .int .i64 2]) (by simp [results, Tryd.results17, go_sem]) rfl ⟨h, c, rfl, HH.out, HB.out, Below.refl _ _⟩
  have hz : ((i : Int) == 0) = false := by simpa using h0
  have g1 : gvE tb i = clrE tb i := if_neg h0
  have g2 : gvT tb i = clrT tb i := if_neg h0
  rw [g1, g2]
  clear g1 g2
  by_cases hlt : i < n
  · have hin : inB tb i = true := in_lt (by omega)
    have hc := H.cell hlt
    cases hv : tb.getD i false with
    | false =>
      have e1 : clrE tb i = 9 := by unfold clrE; rw [hin, has_nat, hv]; rfl
      have e2 : clrT tb i = tb := by unfold clrT; rw [hin]; exact set_same (by omega) hv
      rw [hv] at hc
      rw [e1, e2]
      have HH := Lib.hid H
      have HB := Lib.hid hB
      clear H hv e1 e2 hin hl hB hBw
      go_enter Tryd.func17, Tryd.ntmps17
      go_wp2
      exact bodyPost_ret (v := .tuple #[.slice (some ⟨h, 0, none⟩) n c, .int .i64 9]) (by simp [results, Tryd.results17, go_sem]) rfl ⟨h, c, rfl, HH.out, HB.out, Below.refl _ _⟩
    | true =>
      have e1 : clrE tb i = 0 := by unfold clrE; rw [hin, has_nat, hv]; rfl
      have e2 : clrT tb i = tb.set i false := by unfold clrT; rw [hin]; rfl
      rw [hv] at hc
      rw [e1, e2]
      have cW := fun w H => Lib.hid (with_any h c n i tb false w H hlt (by omega))
      have HH := Lib.hid H
      have HB := Lib.hid hBw
      clear H hv e1 e2 hin hl hB hBw
      go_enter Tryd.func17, Tryd.ntmps17
      go_wp2_with (go_at_call 28; refine (cW _ HH.out).out.mono ?_; rintro e w1 ⟨h', c', rfl, h1, h2, h3⟩; have H1 := Lib.hid h1; have H2 := Lib.hid h2; have H3 := Lib.hid h3; clear h1 h2 h3)
      exact bodyPost_ret (v := .tuple #[.slice (some ⟨h', 0, none⟩) n c', .int .i64 0]) (by simp [results, Tryd.results17, go_sem]) rfl ⟨h', c', rfl, H1.out, Nat.le_trans HB.out H2.out, H3.out⟩
  · have hin : inB tb i = false := in_ge (by omega)
    have e1 : clrE tb i = 4 := by unfold clrE; rw [hin]; rfl
    have e2 : clrT tb i = tb := by unfold clrT; rw [hin]; rfl
    rw [e1, e2]
    have hge : n ≤ i := by omega
    have HH := Lib.hid H
    have HB := Lib.hid hB
    clear H e1 e2 hin hl hB hBw hlt
    go_enter Tryd.func17, Tryd.ntmps17
    go_wp2
    exact bodyPost_ret (v := .tuple #[.slice (some ⟨h, 0, none⟩) n c, .int .i64 4]) (by simp [results, Tryd.results17, go_sem]) rfl ⟨h, c, rfl, HH.out, HB.out, Below.refl _ _⟩
end Po
end Go.Proofs.YtndbbpdggggenaaDoor
