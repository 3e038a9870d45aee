/-
  Contracts of the document's row: New, Has, with, Set, Clear, Count, First.
-/
import Derived.Test.YtbdjminofehloaaDoorBitsNew
namespace Go.Proofs.YtbdjminofehloaaDoor
open Go.RowKit
namespace Bt
open Mem

/-- the document's row: bools from the front of block h on -/
structure BoolAt (w : World) (h c n : Nat) (tb : List Bool) : Prop where
  ow : Ow 4 w h c (tb.map Value.bool)
  len : tb.length = n
section
variable {w w' : World} {h c n : Nat} {tb : List Bool}
theorem BoolAt.cell (H : BoolAt w h c n tb) {k : Nat} (hk : k < n) : w.cell? ⟨h, k, none⟩ = some (.bool (tb.getD k false)) := by
  have hk' : k < tb.length := by rw [H.len]; exact hk
  rw [H.ow.cell (by simpa using hk')]; simp [List.getD, hk']
theorem BoolAt.kept (H : BoolAt w h c n tb) (hb : Below w.heap.size w w') : BoolAt w' h c n tb := ⟨H.ow.kept hb, H.len⟩
theorem BoolAt.into {S : List Nat} (H : BoolAt w h c n tb) (hb : Flow.Into S w w') (hn : h ∉ S) : BoolAt w' h c n tb := ⟨H.ow.into hb hn, H.len⟩
end
theorem bools_one (tb : List Bool) : ∀ u ∈ tb.map Value.bool, u.oneCell' = true := by
  intro u hu
  obtain ⟨x, _, rfl⟩ := List.mem_map.1 hu
  rfl

theorem RNew_any (n : Nat) (w : World) (h1 : n ≤ 1048576) : Calls Tryd.prog 9 #[.int .i64 (n : Int)] w fun e w' => ∃ h c, e = .returned (.slice (some ⟨h, 0, none⟩) n c) ∧ BoolAt w' h c n (List.replicate n false) ∧ w.heap.size ≤ h ∧ Below w.heap.size w w' := by
  have hmk := fun w => run_make_at (P := Tryd.prog) Tryd.underlying29 boolinfo rfl (by omega) n h1 w
  have HM := Lib.hid h1
  clear h1
  go_enter Tryd.func9, Tryd.ntmps9
  go_wp2
  go_ret
  refine ⟨_, _, rfl, ⟨?_, by simp⟩, Nat.le_refl _, (Below.refl _ _).alloc (Nat.le_refl _) _⟩
  have := ow_made 4 w (.bool false) n HM.out
  simpa using this

set_option maxHeartbeats 1000000 in
theorem RHas_any (h c n : Nat) (tb : List Bool) (i : Int) (w : World) (H : BoolAt w h c n tb) (hn : n ≤ 1048576) : Calls Tryd.prog 20 #[.slice (some ⟨h, 0, none⟩) n c, .int .i64 i] w fun e w' => e = .returned (.bool (hasB tb i)) ∧ w = w' := by
  cases hi : inB tb i with
  | true =>
    obtain ⟨k, rfl, hk⟩ := in_nat hi
    rw [has_nat]
    rw [H.len] at hk
    have hc := H.cell hk
    generalize tb.getD k false = v at *
    clear hi H
    go_enter Tryd.func20, Tryd.ntmps20
    go_wp2
    go_ret
    exact ⟨rfl, rfl⟩
  | false =>
    have h1 := in_not hi
    rw [has_out hi]
    rw [H.len] at h1
    clear hi H
    by_cases h0 : 0 ≤ i
    · have h2 : (n : Int) ≤ i := by omega
      have h3 : decide (i < (n : Int)) = false := by simp; omega
      clear h1
      go_enter Tryd.func20, Tryd.ntmps20
      go_wp2
      go_ret
      exact ⟨rfl, rfl⟩
    · have h3 : decide (0 ≤ i) = false := by simp; omega
      clear h1
      go_enter Tryd.func20, Tryd.ntmps20
      go_wp2
      go_ret
      exact ⟨rfl, rfl⟩

set_option maxHeartbeats 1000000 in
theorem with_any (h c n k : Nat) (tb : List Bool) (v : Bool) (w : World) (H : BoolAt w h c n tb) (hk : k < n) (hn : n ≤ 1048576) : Calls Tryd.prog 22 #[.slice (some ⟨h, 0, none⟩) n c, .int .i64 (k : Int), .bool v] w fun e w' => ∃ h' c', e = .returned (.slice (some ⟨h', 0, none⟩) n c') ∧ BoolAt w' h' c' n (tb.set k v) ∧ w.heap.size ≤ h' ∧ Below w.heap.size w w' := by
  have HH := Lib.hid H
  have HL : Hid ((tb.map Value.bool).length = n) := by unfold Hid; rw [List.length_map, H.len]
  have hp : 0 < n := by omega
  clear H
  go_enter Tryd.func22, Tryd.ntmps22
  go_wp2_with (with_reducible refine wpList_append_ow rfl (.tmp 8) (.tmp 9) _ rfl 4 Tryd.underlying29 (.bool false) 1 boolinfo rfl (by omega) w rfl rfl h n c (tb.map Value.bool) rfl HL.out HH.out.ow (bools_one tb) hp hn ?_; intro h' c' w1 hO hB hb; have hf := hO.out.free k; have hc := hO.out.cell (i := k) (by rw [HL.out]; exact hk))
  go_ret
  obtain ⟨h1, h2⟩ := hO.out.set k (.bool v)
  refine ⟨h', c', rfl, ⟨by rw [List.map_set]; exact h1, ?_⟩, hB.out, hb.out.setCell hB.out _⟩
  rw [List.length_set, HH.out.len]

set_option maxHeartbeats 1000000 in
theorem RSet_out (h c n : Nat) (i : Int) (w : World) (h1 : ¬ (0 ≤ i ∧ i < n)) : Calls Tryd.prog 10 #[.slice (some ⟨h, 0, none⟩) n c, .int .i64 i] w fun e w' => e = .returned (.tuple #[.slice (some ⟨h, 0, none⟩) n c, .int .i64 4]) ∧ w = w' := by
  by_cases h0 : i < 0
  · clear h1
    go_enter Tryd.func10, Tryd.ntmps10
    go_wp2
    exact bodyPost_ret (v := .tuple #[.slice (some ⟨h, 0, none⟩) n c, .int .i64 4]) (by simp [results, Tryd.results10, go_sem]) rfl ⟨rfl, rfl⟩
  · have h2 : (n : Int) ≤ i := by omega
    have h3 : 0 ≤ i := by omega
    clear h1 h0
    go_enter Tryd.func10, Tryd.ntmps10
    go_wp2
    exact bodyPost_ret (v := .tuple #[.slice (some ⟨h, 0, none⟩) n c, .int .i64 4]) (by simp [results, Tryd.results10, go_sem]) rfl ⟨rfl, rfl⟩
set_option maxHeartbeats 1000000 in
theorem RSet_twice (h c n k : Nat) (tb : List Bool) (w : World) (H : BoolAt w h c n tb) (hk : k < n) (hn : n ≤ 1048576) (hv : tb.getD k false = true) : Calls Tryd.prog 10 #[.slice (some ⟨h, 0, none⟩) n c, .int .i64 (k : Int)] w fun e w' => e = .returned (.tuple #[.slice (some ⟨h, 0, none⟩) n c, .int .i64 10]) ∧ w = w' := by
  have hc := H.cell hk
  rw [hv] at hc
  clear H hv
  go_enter Tryd.func10, Tryd.ntmps10
  go_wp2
  exact bodyPost_ret (v := .tuple #[.slice (some ⟨h, 0, none⟩) n c, .int .i64 10]) (by simp [results, Tryd.results10, go_sem]) rfl ⟨rfl, rfl⟩
set_option maxHeartbeats 1000000 in
theorem RSet_ok (h c n k : Nat) (tb : List Bool) (w : World) (H : BoolAt w h c n tb) (hk : k < n) (hn : n ≤ 1048576) (hv : tb.getD k false = false) : Calls Tryd.prog 10 #[.slice (some ⟨h, 0, none⟩) n c, .int .i64 (k : Int)] w fun e w' => ∃ h' c', e = .returned (.tuple #[.slice (some ⟨h', 0, none⟩) n c', .int .i64 0]) ∧ BoolAt w' h' c' n (tb.set k true) ∧ w.heap.size ≤ h' ∧ Below w.heap.size w w' := by
  have hc := H.cell hk
  rw [hv] at hc
  have cW := fun w H => Lib.hid (with_any h c n k tb true w H hk hn)
  have HH := Lib.hid H
  clear H hv
  go_enter Tryd.func10, Tryd.ntmps10
  go_wp2_with (go_at_call 22; refine (cW _ HH.out).out.mono ?_; rintro e w1 ⟨h', c', rfl, h1, h2, h3⟩; have H1 := Lib.hid h1; have H2 := Lib.hid h2; have H3 := Lib.hid h3; clear h1 h2 h3)
  exact bodyPost_ret (v := .tuple #[.slice (some ⟨h', 0, none⟩) n c', .int .i64 0]) (by simp [results, Tryd.results10, go_sem]) rfl ⟨h', c', rfl, H1.out, H2.out, H3.out⟩
theorem RSet_any (h c n : Nat) (tb : List Bool) (i : Int) (w : World) (H : BoolAt w h c n tb) (hn : n ≤ 1048576) (B : Nat) (hB : B ≤ h) (hBw : B ≤ w.heap.size) : Calls Tryd.prog 10 #[.slice (some ⟨h, 0, none⟩) n c, .int .i64 i] w fun e w' => ∃ h' c', e = .returned (.tuple #[.slice (some ⟨h', 0, none⟩) n c', .int .i64 (setE tb i)]) ∧ BoolAt w' h' c' n (setT tb i) ∧ B ≤ h' ∧ Below w.heap.size w w' := by
  have hl := H.len
  cases hi : inB tb i with
  | true =>
    obtain ⟨k, rfl, hk⟩ := in_nat hi
    cases hv : tb.getD k false with
    | true =>
      have e1 : setE tb k = 10 := by unfold setE; rw [hi, has_nat, hv]; rfl
      have e2 : setT tb k = tb := by unfold setT; rw [hi]; exact set_same hk hv
      rw [e1, e2]
      exact (RSet_twice h c n k tb w H (by omega) hn hv).mono fun e w' ⟨he, hb⟩ => ⟨h, c, he, hb ▸ H, hB, hb ▸ Below.refl _ _⟩
    | false =>
      have e1 : setE tb k = 0 := by unfold setE; rw [hi, has_nat, hv]; rfl
      have e2 : setT tb k = tb.set k true := by unfold setT; rw [hi]; rfl
      rw [e1, e2]
      exact (RSet_ok h c n k tb w H (by omega) hn hv).mono fun e w' ⟨h', c', he, h1, h2, h3⟩ => ⟨h', c', he, h1, Nat.le_trans hBw h2, h3⟩
  | false =>
    have e1 : setE tb i = 4 := by unfold setE; rw [hi]; rfl
    have e2 : setT tb i = tb := by unfold setT; rw [hi]; rfl
    rw [e1, e2]
    exact (RSet_out h c n i w (by have := in_not hi; omega)).mono fun e w' ⟨he, hb⟩ => ⟨h, c, he, hb ▸ H, hB, hb ▸ Below.refl _ _⟩

set_option maxHeartbeats 1000000 in
theorem RClear_out (h c n : Nat) (i : Int) (w : World) (h1 : ¬ (0 ≤ i ∧ i < n)) : Calls Tryd.prog 12 #[.slice (some ⟨h, 0, none⟩) n c, .int .i64 i] w fun e w' => e = .returned (.tuple #[.slice (some ⟨h, 0, none⟩) n c, .int .i64 4]) ∧ w = w' := by
  by_cases h0 : i < 0
  · clear h1
    go_enter Tryd.func12, Tryd.ntmps12
    go_wp2
    exact bodyPost_ret (v := .tuple #[.slice (some ⟨h, 0, none⟩) n c, .int .i64 4]) (by simp [results, Tryd.results12, go_sem]) rfl ⟨rfl, rfl⟩
  · have h2 : (n : Int) ≤ i := by omega
    have h3 : 0 ≤ i := by omega
    clear h1 h0
    go_enter Tryd.func12, Tryd.ntmps12
    go_wp2
    exact bodyPost_ret (v := .tuple #[.slice (some ⟨h, 0, none⟩) n c, .int .i64 4]) (by simp [results, Tryd.results12, go_sem]) rfl ⟨rfl, rfl⟩
set_option maxHeartbeats 1000000 in
theorem RClear_twice (h c n k : Nat) (tb : List Bool) (w : World) (H : BoolAt w h c n tb) (hk : k < n) (hn : n ≤ 1048576) (hv : tb.getD k false = false) : Calls Tryd.prog 12 #[.slice (some ⟨h, 0, none⟩) n c, .int .i64 (k : Int)] w fun e w' => e = .returned (.tuple #[.slice (some ⟨h, 0, none⟩) n c, .int .i64 9]) ∧ w = w' := by
  have hc := H.cell hk
  rw [hv] at hc
  clear H hv
  go_enter Tryd.func12, Tryd.ntmps12
  go_wp2
  exact bodyPost_ret (v := .tuple #[.slice (some ⟨h, 0, none⟩) n c, .int .i64 9]) (by simp [results, Tryd.results12, go_sem]) rfl ⟨rfl, rfl⟩
set_option maxHeartbeats 1000000 in
theorem RClear_ok (h c n k : Nat) (tb : List Bool) (w : World) (H : BoolAt w h c n tb) (hk : k < n) (hn : n ≤ 1048576) (hv : tb.getD k false = true) : Calls Tryd.prog 12 #[.slice (some ⟨h, 0, none⟩) n c, .int .i64 (k : Int)] w fun e w' => ∃ h' c', e = .returned (.tuple #[.slice (some ⟨h', 0, none⟩) n c', .int .i64 0]) ∧ BoolAt w' h' c' n (tb.set k false) ∧ w.heap.size ≤ h' ∧ Below w.heap.size w w' := by
  have hc := H.cell hk
  rw [hv] at hc
  have cW := fun w H => Lib.hid (with_any h c n k tb false w H hk hn)
  have HH := Lib.hid H
  clear H hv
  go_enter Tryd.func12, Tryd.ntmps12
  go_wp2_with (go_at_call 22; refine (cW _ HH.out).out.mono ?_; rintro e w1 ⟨h', c', rfl, h1, h2, h3⟩; have H1 := Lib.hid h1; have H2 := Lib.hid h2; have H3 := Lib.hid h3; clear h1 h2 h3)
  exact bodyPost_ret (v := .tuple #[.slice (some ⟨h', 0, none⟩) n c', .int .i64 0]) (by simp [results, Tryd.results12, go_sem]) rfl ⟨h', c', rfl, H1.out, H2.out, H3.out⟩
theorem RClear_any (h c n : Nat) (tb : List Bool) (i : Int) (w : World) (H : BoolAt w h c n tb) (hn : n ≤ 1048576) (B : Nat) (hB : B ≤ h) (hBw : B ≤ w.heap.size) : Calls Tryd.prog 12 #[.slice (some ⟨h, 0, none⟩) n c, .int .i64 i] w fun e w' => ∃ h' c', e = .returned (.tuple #[.slice (some ⟨h', 0, none⟩) n c', .int .i64 (clrE tb i)]) ∧ BoolAt w' h' c' n (clrT tb i) ∧ B ≤ h' ∧ Below w.heap.size w w' := by
  have hl := H.len
  cases hi : inB tb i with
  | true =>
    obtain ⟨k, rfl, hk⟩ := in_nat hi
    cases hv : tb.getD k false with
    | false =>
      have e1 : clrE tb k = 9 := by unfold clrE; rw [hi, has_nat, hv]; rfl
      have e2 : clrT tb k = tb := by unfold clrT; rw [hi]; exact set_same hk hv
      rw [e1, e2]
      exact (RClear_twice h c n k tb w H (by omega) hn hv).mono fun e w' ⟨he, hb⟩ => ⟨h, c, he, hb ▸ H, hB, hb ▸ Below.refl _ _⟩
    | true =>
      have e1 : clrE tb k = 0 := by unfold clrE; rw [hi, has_nat, hv]; rfl
      have e2 : clrT tb k = tb.set k false := by unfold clrT; rw [hi]; rfl
      rw [e1, e2]
      exact (RClear_ok h c n k tb w H (by omega) hn hv).mono fun e w' ⟨h', c', he, h1, h2, h3⟩ => ⟨h', c', he, h1, Nat.le_trans hBw h2, h3⟩
  | false =>
    have e1 : clrE tb i = 4 := by unfold clrE; rw [hi]; rfl
    have e2 : clrT tb i = tb := by unfold clrT; rw [hi]; rfl
    rw [e1, e2]
    exact (RClear_out h c n i w (by have := in_not hi; omega)).mono fun e w' ⟨he, hb⟩ => ⟨h, c, he, hb ▸ H, hB, hb ▸ Below.refl _ _⟩

set_option maxHeartbeats 1000000 in
theorem RCount_any (h c n : Nat) (tb : List Bool) (w : World) (H : BoolAt w h c n tb) (hn : n ≤ 1048576) : Calls Tryd.prog 18 #[.slice (some ⟨h, 0, none⟩) n c] w fun e w' => e = .returned (.int .i64 (cnt tb : Int)) ∧ w = w' := by
  have HH := Lib.hid H
  have HC : Hid (pc (fun i => tb.getD i false) n = cnt tb) := by unfold Hid cnt; rw [H.len]
  clear H
  go_enter Tryd.func18, Tryd.ntmps18
  go_wp2
  go_loopw [3, 4] (fun x i wr => ∃ k v : Nat, k ≤ n ∧ i = .int .i64 k ∧ x = .int .i64 (v : Int) ∧ v ≤ k ∧ Hid (v = pc (fun i => tb.getD i false) k) ∧ w = wr) (fun _ i _ => n - (intOf i).toNat)
  case atStart => exact ⟨0, 0, Nat.zero_le _, rfl, rfl, by omega, by unfold Hid; rfl, rfl⟩
  case round =>
    obtain ⟨k, v, hk, rfl, rfl, hv, HV, rfl⟩ := hrel
    by_cases hlt : k < n
    · have hc := HH.out.cell hlt
      have HP : Hid (pc (fun i => tb.getD i false) (k + 1) = pc (fun i => tb.getD i false) k + if tb.getD k false then 1 else 0) := rfl
      cases hb : tb.getD k false with
      | true =>
        rw [hb] at hc HP
        clear hb
        go_wp2
        exact ⟨⟨k + 1, v + 1, hlt, by go_num, by go_num, by omega, by unfold Hid; rw [HP.out, HV.out]; rfl, trivial⟩, by simp [intOf]; omega⟩
      | false =>
        rw [hb] at hc HP
        clear hb
        go_wp2
        exact ⟨⟨k + 1, v, hlt, by go_num, by go_num, by omega, by unfold Hid; rw [HP.out, HV.out]; rfl, trivial⟩, by simp [intOf]; omega⟩
    · obtain rfl : k = n := by omega
      go_wp2
      go_ret
      exact ⟨ret_i64 (by rw [HV.out, HC.out]), rfl⟩

set_option maxHeartbeats 1000000 in
theorem RFirst_any (h c n : Nat) (tb : List Bool) (f : Int) (v : Bool) (w : World) (H : BoolAt w h c n tb) (hn : n ≤ 1048576) : Calls Tryd.prog 16 #[.slice (some ⟨h, 0, none⟩) n c, .int .i64 f, .bool v] w fun e w' => e = .returned (.tuple #[.int .i64 (foI (firstO tb f v)), .bool (foB (firstO tb f v))]) ∧ w = w' := by
  have HH := Lib.hid H
  have HN : Hid (tb.length = n) := H.len
  clear H
  go_enter Tryd.func16, Tryd.ntmps16
  go_wp2
  go_loopw [8] (fun i wr => ∃ k : Nat, k ≤ n ∧ i = .int .i64 k ∧ Hid (Nope tb v f.toNat k) ∧ w = wr) (fun i _ => n - (intOf i).toNat)
  case atStart => exact ⟨0, Nat.zero_le _, rfl, fun j h1 h2 => by omega, rfl⟩
  case round =>
    obtain ⟨k, hk, rfl, HK, rfl⟩ := hrel
    by_cases hlt : k < n
    · have hc := HH.out.cell hlt
      by_cases hf : f ≤ k
      · by_cases hb : tb.getD k false = v
        · have HO : Hid (firstO tb f v = some k) := HK.out.some (by omega) (by rw [HN.out]; exact hlt) hb
          rw [hb] at hc
          have hd : decide (f ≤ (k : Int)) = true := by simpa using hf
          have he : (v == v) = true := by simp
          clear hb
          go_wp2
          exact bodyPost_ret (v := .tuple #[.int .i64 (k : Int), .bool true]) (by simp [results, Tryd.results16, go_sem]) rfl ⟨by rw [HO.out]; simp [foI, foB], rfl⟩
        · have HK1 : Hid (Nope tb v f.toNat (k + 1)) := HK.out.more fun j h1 h2 => by
            obtain rfl : j = k := by omega
            exact hb
          have hd : decide (f ≤ (k : Int)) = true := by simpa using hf
          have he : (tb.getD k false == v) = false := by simpa using hb
          generalize tb.getD k false = u at hc he
          clear hb
          go_wp2
          exact ⟨⟨k + 1, hlt, by go_num, HK1, trivial⟩, by simp [intOf]; omega⟩
      · have HK1 : Hid (Nope tb v f.toNat (k + 1)) := fun j h1 h2 => by omega
        have hd : decide (f ≤ (k : Int)) = false := by simpa using hf
        generalize tb.getD k false = u at hc
        go_wp2
        exact ⟨⟨k + 1, hlt, by go_num, HK1, trivial⟩, by simp [intOf]; omega⟩
    · obtain rfl : k = n := by omega
      have HO : Hid (firstO tb f v = none) := HK.out.none (by rw [HN.out]; exact Nat.le_refl _)
      go_wp2
      exact bodyPost_ret (v := .tuple #[.int .i64 0, .bool false]) (by simp [results, Tryd.results16, go_sem]) rfl ⟨by rw [HO.out]; rfl, rfl⟩
end Bt
end Go.Proofs.YtbdjminofehloaaDoor
