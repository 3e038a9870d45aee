/-
  Contracts of layer dev: Write.
-/
import Derived.Test.YtjnbdmimflhhiaaDevRW
namespace Go.Proofs.Ytjnbdmimflhhiaa
open Go.RowKit
namespace Dv
open Mem
section
variable {w : World} {S : List Nat} {g m : Nat} {ls : List (List UInt8)} {r s : Nat}
set_option maxHeartbeats 1000000 in
theorem Write_out (h : Dev w S g m ls r s) (i : Nat) (v : Value) (hi : ls.length ≤ i) : Calls Try.prog 93 #[.pointer (some ⟨g, 0, none⟩), .int .u32 (i : Int), v] w fun e w' => e = .returned (.int .i64 4) ∧ w = w' := by
  have cP := Lib.hid (place_out h i hi)
  clear h hi
  go_enter Try.func93, Try.ntmps93
  go_wp2_with (go_at_call 91; refine cP.out.mono ?_; rintro e w' ⟨rfl, rfl⟩)
  go_ret
  exact ⟨rfl, rfl⟩
set_option maxHeartbeats 1000000 in
theorem Write_form (h : Dev w S g m ls r s) (i : Nat) (A : Option Addr) (n c : Nat) (hi : i < ls.length) (hn : n ≠ m) : Calls Try.prog 93 #[.pointer (some ⟨g, 0, none⟩), .int .u32 (i : Int), .slice A n c] w fun e w' => e = .returned (.int .i64 3) ∧ w = w' := by
  have cP := Lib.hid (place_in h i hi)
  obtain ⟨b, c', d0, -, -, -⟩ := h.cells
  have hne : (((n : Int) != (m : Int))) = true := by simp; omega
  clear h hi hn
  go_enter Try.func93, Try.ntmps93
  go_wp2_with (go_at_call 91; refine cP.out.mono ?_; rintro e w' ⟨rfl, rfl⟩)
  go_ret
  exact ⟨rfl, rfl⟩

set_option maxHeartbeats 2000000 in
theorem Write_old {b c : Nat} {bks : List Bk} (i : Nat) (h1 : DevW w g b c m bks ls r s) (cP0 : Calls Try.prog 91 #[.pointer (some ⟨g, 0, none⟩), .int .u32 (i : Int)] w fun e w' => e = .returned (.int .i64 0) ∧ w = w') (hs : s ≤ 1000000)
    (A : Option Addr) (k : Nat) (l : List UInt8) (hl : l.length = m) (hA : BL w A l) (hn : ∀ a, A = some a → a.block ≠ g) {q o k' : Nat} (hx : bks[i]? = some (some (q, o, k'))) :
    Calls Try.prog 93 #[.pointer (some ⟨g, 0, none⟩), .int .u32 (i : Int), .slice A m k] w fun e w' => e = .returned (.int .i64 0) ∧ DevW w' g b c m bks (ls.set i l) r (s + 1) ∧ Flow.Into [g, q] w w' := by
  have cP := Lib.hid cP0
  obtain ⟨d0, d1, d2, d3⟩ := h1.cells
  have f3 := h1.free 3
  have hwr : IntKind.u64.wrap ((s : Int) + 1) = (s : Int) + 1 := by rw [IntKind.wrap_u64]; omega
  have HW := Lib.hid h1
  have HX := Lib.hid hx
  have HL := Lib.hid hl
  have HA := Lib.hid hA
  have HN := Lib.hid hn
  have hib : i < bks.length := (List.getElem?_eq_some_iff.1 hx).1
  have hnil : ∀ W, (binOp .eql 42 (.slice (some ⟨q, o, none⟩) m k') (.slice none 0 0)).run Try.prog W = .ok (.bool false) W := fun W => Lib.run_eql_slice_nil W _ _ _ _ _ _ _ Try.underlying42
  obtain ⟨n, hn'⟩ : ∃ n, n = bks.length := ⟨_, rfl⟩
  rw [← hn'] at d1 hib
  have HNN := Lib.hid hn'
  clear hx hl hA hn h1 cP0 hn' d1 d2
  go_enter Try.func93, Try.ntmps93
  go_upto_region 7 with (go_at_call 91; refine cP.out.mono ?_; rintro e w' ⟨rfl, rfl⟩)
  have hr1 := HW.out.wrote
  generalize w.setCell ⟨g, 3, none⟩ (.int .u64 ((s : Int) + 1)) = w1 at *
  obtain ⟨hw1, hi1⟩ := hr1
  have HW1 := Lib.hid hw1
  have HI1 := Lib.hid hi1
  have HA1 := Lib.hid (HA.out.keep (w' := w1) fun hl a ha => hi1.block _ (HA.out.lt hl a ha) (by simpa using HN.out a ha))
  obtain ⟨-, d1, -, -⟩ := hw1.cells
  rw [← HNN.out] at d1
  have d4 : w1.cell? ⟨b, i, none⟩ = some (.slice (some ⟨q, o, none⟩) m k') := hw1.bcell HX.out
  obtain ⟨q1, q2, q3, L, x0, q4, q5, q6, q7⟩ := hw1.yes i q o k' HX.out
  have HQ4 := Lib.hid q4
  clear d3 f3 hw1 hi1 q4 q6 q7 d0
  go_wp2_with (with_reducible refine wpList_copy_into rfl (.tmp 55) (.tmp 56) _ _ rfl 5 Try.underlying42 u8size q o m k' m k A rfl rfl L l HQ4.out HL.out HA1.out (Nat.le_refl _) q5 ?_; intro w3 hr3 hi3)
  go_ret
  refine ⟨rfl, HW1.out.splice HX.out HQ4.out HL.out hi3.out hr3.out, ?_⟩
  exact (HI1.out.mono fun y hy => by simp at hy ⊢; exact .inl hy).trans (hi3.out.mono fun y hy => by simp at hy ⊢; exact .inr hy)

set_option maxHeartbeats 2000000 in
theorem Write_new {b c : Nat} {bks : List Bk} (i : Nat) (h1 : DevW w g b c m bks ls r s) (m1 : 1 ≤ m) (m2 : m ≤ 65536) (cP0 : Calls Try.prog 91 #[.pointer (some ⟨g, 0, none⟩), .int .u32 (i : Int)] w fun e w' => e = .returned (.int .i64 0) ∧ w = w') (hs : s ≤ 1000000)
    (A : Option Addr) (k : Nat) (l : List UInt8) (hl : l.length = m) (hA : BL w A l) (hn : ∀ a, A = some a → a.block ≠ g ∧ a.block ≠ b) (hx : bks[i]? = some none) :
    Calls Try.prog 93 #[.pointer (some ⟨g, 0, none⟩), .int .u32 (i : Int), .slice A m k] w fun e w' => e = .returned (.int .i64 0) ∧ (∃ q, DevW w' g b c m (bks.set i (some (q, 0, m))) (ls.set i l) r (s + 1) ∧ w.heap.size ≤ q) ∧ Flow.Into [g, b] w w' := by
  have cP := Lib.hid cP0
  obtain ⟨d0, d1, d2, d3⟩ := h1.cells
  have f3 := h1.free 3
  have hwr : IntKind.u64.wrap ((s : Int) + 1) = (s : Int) + 1 := by rw [IntKind.wrap_u64]; omega
  have HW := Lib.hid h1
  have HX := Lib.hid hx
  have HL := Lib.hid hl
  have HA := Lib.hid hA
  have HN := Lib.hid hn
  have hib : i < bks.length := (List.getElem?_eq_some_iff.1 hx).1
  have HIB := Lib.hid hib
  obtain ⟨n, hn'⟩ : ∃ n, n = bks.length := ⟨_, rfl⟩
  rw [← hn'] at d1 hib
  have HNN := Lib.hid hn'
  have hnil : ∀ W, (binOp .eql 42 (.slice none 0 0) (.slice none 0 0)).run Try.prog W = .ok (.bool true) W := fun W => Lib.run_eql_slice_nil W _ _ _ _ _ _ _ Try.underlying42
  have hmk := fun w => run_make_at (P := Try.prog) Try.underlying42 u8info rfl (by omega) m (by omega) w
  clear hx hl hA hn h1 cP0 hn' d1 d2
  go_enter Try.func93, Try.ntmps93
  go_upto_region 7 with (go_at_call 91; refine cP.out.mono ?_; rintro e w' ⟨rfl, rfl⟩)
  have hr1 := HW.out.wrote
  generalize w.setCell ⟨g, 3, none⟩ (.int .u64 ((s : Int) + 1)) = w1 at *
  obtain ⟨hw1, hi1⟩ := hr1
  have HW1 := Lib.hid hw1
  have HI1 := Lib.hid hi1
  have HA1 := Lib.hid (HA.out.keep (w' := w1) fun hl a ha => hi1.block _ (HA.out.lt hl a ha) (by simpa using (HN.out a ha).1))
  obtain ⟨d0', d1, -, -⟩ := hw1.cells
  rw [← HNN.out] at d1
  have d4 : w1.cell? ⟨b, i, none⟩ = some (.slice none 0 0) := hw1.bcell HX.out
  clear d3 f3 hw1 hi1 d0
  go_upto_region 8 with fail
  have D4 := Lib.hid d4
  have e0 := fun q : Drift.Tide [] w1 [] => Drift.Tide.cell d0' (by simp) q
  have e1 := fun q : Drift.Tide [] w1 [] => Drift.Tide.cell d1 (by simp) q
  clear d0' d1 d4 cP
  refine Drift.wp_region_drift [] [(0,[]),(1,[]),(2,[]),(3,[]),(4,[]),(5,[]),(6,[]),(7,[]),(8,[]),(9,[])] [] [9] (by kernel_rfl) (by kernel_rfl) (by simp) ?_
  simp only [Drift.pick, Drift.opsAt, List.getElem?_toArray, List.getElem?_cons_zero, List.getElem?_cons_succ, List.cons_append, List.nil_append, List.filterMap_nil]
  repeat (refine Drift.walk_step (fun K hK => ?_); go_simp; (refine hK _ ?_; clear hK K))
  refine Drift.walk_make rfl Drift.mkwalk_nil (fun b => .slice (some ⟨b, 0, none⟩) m m) (.cells (List.replicate m (.int .u8 0)).toArray 5) (fun W => by go_simp) (fun q hq hT => ?_)
  refine Drift.walk_nil ?_
  intro w2 hb2 hl2
  have hrow : Row 5 w2 q (List.replicate m 0) := by
    have := hl2 (q, .cells (List.replicate m (.int .u8 0)).toArray 5) (by simp)
    unfold Row
    simpa [bytesV, byteV] using this
  have HW2 := Lib.hid (HW1.out.kept hb2)
  have hqn : q ≠ g ∧ q ≠ b := by
    have h1 := HW1.out.lt g (by simp [foot])
    have h2 := HW1.out.lt b (by simp [foot])
    omega
  have hput : DevW (w2.setCell ⟨b, i, none⟩ (.slice (some ⟨q, 0, none⟩) m m)) g b c m (bks.set i (some (q, 0, m))) (ls.set i (List.replicate m 0)) r (s + 1) ∧ Flow.Into [b] w2 (w2.setCell ⟨b, i, none⟩ (.slice (some ⟨q, 0, none⟩) m m)) := HW2.out.put (o := 0) HIB.out hrow hqn.1 hqn.2 (by simp) (by have := win_all (bytesV (List.replicate m 0)); rw [bytesV_length, List.length_replicate] at this; exact this) (Nat.le_refl m) (fun j o' k' _ hj => by
    have := HW1.out.lt q (foot_at hj)
    omega)
  have HROW := Lib.hid hrow
  have HQ := Lib.hid hq
  have HB2 := Lib.hid hb2
  have f5 := HW2.out.bfree i
  have d4 := (Below.cell hb2 (p := ⟨b, i, none⟩) (HW1.out.lt b (by simp [foot]))).trans D4.out
  clear hrow hq hb2 hl2 e0 e1 hT
  simp only [List.length_cons, List.length_nil, List.drop_succ_cons, Nat.zero_add, Nat.reduceAdd]
  go_upto_region 9 with fail
  have hrow3 : Cells 5 (w2.setCell ⟨b, i, none⟩ (.slice (some ⟨q, 0, none⟩) m m)) q (bytesV (List.replicate m 0)) := (hput.2.block q HROW.out.lt (by simpa using hqn.2)).trans HROW.out
  have hA3 : BL (w2.setCell ⟨b, i, none⟩ (.slice (some ⟨q, 0, none⟩) m m)) A l := (HA1.out.below HB2.out).keep fun hl a ha => hput.2.block _ ((HA1.out.below HB2.out).lt hl a ha) (by simpa using (HN.out a ha).2)
  generalize w2.setCell ⟨b, i, none⟩ (.slice (some ⟨q, 0, none⟩) m m) = w3 at *
  obtain ⟨hw3, hi3⟩ := hput
  have HW3 := Lib.hid hw3
  have HI3 := Lib.hid hi3
  have HR3 := Lib.hid hrow3
  have HA3 := Lib.hid hA3
  obtain ⟨-, d1, -, -⟩ := hw3.cells
  rw [List.length_set, ← HNN.out] at d1
  have hxs : (bks.set i (some (q, 0, m)))[i]? = some (some (q, 0, m)) := by rw [List.getElem?_set]; simp [HIB.out]
  have HXS := Lib.hid hxs
  have d4' : w3.cell? ⟨b, i, none⟩ = some (.slice (some ⟨q, 0, none⟩) m m) := hw3.bcell hxs
  clear hw3 hi3 hrow3 hA3 f5 d4 hxs
  go_wp2_with (with_reducible refine wpList_copy_into rfl (.tmp 55) (.tmp 56) _ _ rfl 5 Try.underlying42 u8size q 0 m m m k A rfl rfl (bytesV (List.replicate m 0)) l HR3.out HL.out HA3.out (Nat.le_refl _) (by simp) ?_; intro w4 hr4 hi4)
  go_ret
  refine ⟨rfl, ⟨q, ?_, ?_⟩, ?_⟩
  · have := HW3.out.splice HXS.out HR3.out HL.out hi4.out hr4.out
    rw [List.set_set] at this
    exact this
  · have := HI1.out.size
    have := HQ.out
    omega
  · refine into_more ((HI1.out.mono fun y hy => by simp at hy ⊢; exact .inl hy).trans ((Flow.Into.of_below HB2.out).trans (HI3.out.mono fun y hy => by simp at hy ⊢; exact .inr hy))) hi4.out fun y hy => .inr ?_
    obtain rfl : y = q := by simpa using hy
    have := HI1.out.size
    have := HQ.out
    omega

/-- Write of a right block, whatever is there -/
theorem Write_in (h : Dev w S g m ls r s) (i : Nat) (hi : i < ls.length) (hs : s ≤ 1000000) (A : Option Addr) (k : Nat) (l : List UInt8) (hl : l.length = m) (hA : BL w A l) (hn : ∀ a, A = some a → a.block ∉ S) :
    Calls Try.prog 93 #[.pointer (some ⟨g, 0, none⟩), .int .u32 (i : Int), .slice A m k] w fun e w' => e = .returned (.int .i64 0) ∧ (∃ S', Dev w' S' g m (ls.set i l) r (s + 1) ∧ Grew w S S') ∧ Flow.Into S w w' := by
  have cP := place_in h i hi
  obtain ⟨⟨b, c, bks, h1, h2⟩, m1, m2, n1, n2, h7⟩ := h
  have hib : i < bks.length := by rw [h1.len]; exact hi
  have hx : bks[i]? = some bks[i] := List.getElem?_eq_getElem hib
  have hg : g ∈ S := h2 g (by simp [foot])
  have hb : b ∈ S := h2 b (by simp [foot])
  match e : bks[i] with
  | none =>
    rw [e] at hx
    refine (Write_new i h1 m1 m2 cP hs A k l hl hA (fun a ha => ⟨fun h' => hn a ha (h' ▸ hg), fun h' => hn a ha (h' ▸ hb)⟩) hx).mono fun e w' ⟨he, ⟨q, hd, hq⟩, hi'⟩ => ?_
    refine ⟨he, ⟨q :: S, ⟨⟨b, c, _, hd, fun k' hk' => ?_⟩, m1, m2, by simpa using n1, by simpa using n2, fun k' hk' => ?_⟩, fun k' hk' => ?_⟩, hi'.mono fun y hy => ?_⟩
    · rcases foot_set hk' with rfl | h'
      · exact List.mem_cons_self
      · exact List.mem_cons_of_mem _ (h2 _ h')
    · rcases List.mem_cons.1 hk' with rfl | h'
      · exact hd.lt _ (foot_at (i := i) (o := 0) (k := m) (by rw [List.getElem?_set]; simp [hib]))
      · exact Nat.lt_of_lt_of_le (h7 _ h') hi'.size
    · rcases List.mem_cons.1 hk' with rfl | h'
      · exact .inr hq
      · exact .inl h'
    · simp at hy
      rcases hy with rfl | rfl
      · exact hg
      · exact hb
  | some (q, o, k') =>
    rw [e] at hx
    refine (Write_old i h1 cP hs A k l hl hA (fun a ha h' => hn a ha (h' ▸ hg)) hx).mono fun e w' ⟨he, hd, hi'⟩ => ?_
    refine ⟨he, ⟨S, ⟨⟨b, c, _, hd, h2⟩, m1, m2, by simpa using n1, by simpa using n2, fun k' hk' => Nat.lt_of_lt_of_le (h7 _ hk') hi'.size⟩, fun k' hk' => .inl hk'⟩, hi'.mono fun y hy => ?_⟩
    simp at hy
    rcases hy with rfl | rfl
    · exact hg
    · exact h2 _ (foot_at hx)
end
end Dv
end Go.Proofs.Ytjnbdmimflhhiaa
