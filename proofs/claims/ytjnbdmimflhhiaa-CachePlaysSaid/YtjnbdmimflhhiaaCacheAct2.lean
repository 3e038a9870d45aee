/-
  Contracts of layer cache, over states: Fresh, Unpin, Read, Write, Drop.
-/
import Derived.Test.YtjnbdmimflhhiaaCacheAct
import Derived.Test.YtjnbdmimflhhiaaCacheSm
namespace Go.Proofs.Ytjnbdmimflhhiaa
open Go.RowKit
namespace Ca
open Mem Dv Cn

section
variable {w w' w1 w2 : World} {F F1 : List Nat} {p g : Nat} {st st1 st2 t : St}
theorem CPin (h : Cw w F p g st) (hK : Sm st 1000000) (b : Nat) : Calls Try.prog 33 #[.pointer (some ⟨p, 0, none⟩), .int .u32 (b : Int)] w fun e w' => e = .returned (.int .i64 (pinT st b).1) ∧ Aft w w' F p g (pinT st b).2 := by
  unfold pinT
  by_cases hb : b < st.ls.length
  · rw [if_pos hb]
    cases hl : look st.fr b with
    | some y =>
      obtain ⟨j, f⟩ := y
      exact Pin_hit h hb hl (hK.p j f (look_some hl).1)
    | none =>
      cases hr : roomT st with
      | none => exact Pin_full h hb hl hK.s hr
      | some y =>
        obtain ⟨a, t⟩ := y
        exact Pin_room h hb hl hK.s hK.r hr
  · rw [if_neg hb]
    exact (Pin_out h (by omega)).mono fun e w' ⟨he, hw⟩ => ⟨he, hw ▸ Aft.same h (Below.refl _ _)⟩
theorem CBytes (h : Cw w F p g st) : Calls Try.prog 48 #[.pointer (some ⟨g, 0, none⟩)] w fun e w' => e = .returned (.int .i64 (st.m : Int)) ∧ w = w' := by
  obtain ⟨S, fb, mp, ch, cb, qk, h1, h2, h3, h4, h5, h6⟩ := h
  exact Bytes_any h1.dv
theorem Cw.m_le (h : Cw w F p g st) : 1 ≤ st.m ∧ st.m ≤ 65536 := by
  obtain ⟨S, fb, mp, ch, cb, qk, h1, h2, h3, h4, h5, h6⟩ := h
  exact ⟨h1.dv.m1, h1.dv.m2⟩
theorem Cw.cell0 (h : Cw w F p g st) : w.cell? ⟨p, 0, none⟩ = some (.pointer (some ⟨g, 0, none⟩)) := by
  obtain ⟨S, fb, mp, ch, cb, qk, h1, _⟩ := h
  exact h1.cells.1
set_option maxRecDepth 100000 in
theorem Fresh_out (h : Cw w F p g st) {b : Nat} (hb : st.ls.length ≤ b) : Calls Try.prog 42 #[.pointer (some ⟨p, 0, none⟩), .int .u32 (b : Int)] w fun e w' => e = .returned (.int .i64 4) ∧ w = w' := by
  have cP := Cplace h b
  rw [if_neg (by omega)] at cP
  have cP := Lib.hid cP
  clear h
  go_enter Try.func42, Try.ntmps42
  go_wp2_with (go_at_call 67; refine cP.out.mono ?_; rintro e w' ⟨rfl, rfl⟩)
  go_ret
  exact ⟨rfl, rfl⟩
set_option maxRecDepth 100000 in
theorem Fresh_pinned (h : Cw w F p g st) {b : Nat} (hb : b < st.ls.length) (hp : 0 < pinsP st b) : Calls Try.prog 42 #[.pointer (some ⟨p, 0, none⟩), .int .u32 (b : Int)] w fun e w' => e = .returned (.int .i64 8) ∧ w = w' := by
  have cP := Cplace h b
  rw [if_pos hb] at cP
  have cP := Lib.hid cP
  have cN := Lib.hid (CPins h (b := b) (by have := h.good.l32; omega))
  generalize pinsP st b = n at *
  clear h
  go_enter Try.func42, Try.ntmps42
  go_wp2_with (first
    | (go_at_call 67; refine cP.out.mono ?_; rintro e w' ⟨rfl, rfl⟩)
    | (go_at_call 17; refine cN.out.mono ?_; rintro e w' ⟨rfl, rfl⟩))
  go_ret
  exact ⟨rfl, rfl⟩
set_option maxRecDepth 100000 in
theorem Fresh_full (h : Cw w F p g st) {b : Nat} (hb : b < st.ls.length) (hp : pinsP st b = 0) (hS : Calls Try.prog 79 #[.pointer (some ⟨p, 0, none⟩), .int .u32 (b : Int)] w fun e w' => e = .returned (.tuple #[.int .i64 0, .int .i64 7]) ∧ Aft w w' F p g st) : Calls Try.prog 42 #[.pointer (some ⟨p, 0, none⟩), .int .u32 (b : Int)] w fun e w' => e = .returned (.int .i64 7) ∧ Aft w w' F p g st := by
  have cP := Cplace h b
  rw [if_pos hb] at cP
  have cP := Lib.hid cP
  have cN := CPins h (b := b) (by have := h.good.l32; omega)
  rw [hp] at cN
  have cN := Lib.hid cN
  have cS := Lib.hid hS
  clear h hS
  go_enter Try.func42, Try.ntmps42
  go_wp2_with (first
    | (go_at_call 67; refine cP.out.mono ?_; rintro e w' ⟨rfl, rfl⟩)
    | (go_at_call 17; refine cN.out.mono ?_; rintro e w' ⟨rfl, rfl⟩)
    | (go_at_call 79; refine cS.out.mono ?_; rintro e w' ⟨rfl, ha⟩))
  go_ret
  exact ⟨rfl, ha⟩
set_option maxRecDepth 100000 in
theorem Fresh_go (h : Cw w F p g st) {b a : Nat} {y : Option Fr} (hb : b < st.ls.length) (hp : pinsP st b = 0) (hS : Calls Try.prog 79 #[.pointer (some ⟨p, 0, none⟩), .int .u32 (b : Int)] w fun e w' => e = .returned (.tuple #[.int .i64 (a : Int), .int .i64 0]) ∧ Aft w w' F p g t)
    (hbt : b < t.ls.length) (hy : t.fr[a]? = some y) (ho : ∀ (i : Nat) (u : Fr), t.fr[i]? = some (some u) → u.1 = b → i = a) (hn : ∀ u : Fr, y = some u → u.1 = b) :
    Calls Try.prog 42 #[.pointer (some ⟨p, 0, none⟩), .int .u32 (b : Int)] w fun e w' => e = .returned (.int .i64 0) ∧ Aft w w' F p g (fillT t a (b, List.replicate t.m 0, true, 1)) := by
  have cP := Cplace h b
  rw [if_pos hb] at cP
  have cP := Lib.hid cP
  have cN := CPins h (b := b) (by have := h.good.l32; omega)
  rw [hp] at cN
  have cN := Lib.hid cN
  have cS := Lib.hid hS
  have HY := Lib.hid (And.intro hbt (And.intro hy (And.intro ho hn)))
  clear h hS hb hp hbt hy ho hn
  go_enter Try.func42, Try.ntmps42
  go_upto_region 9 with (first
    | (go_at_call 67; refine cP.out.mono ?_; rintro e w' ⟨rfl, rfl⟩)
    | (go_at_call 17; refine cN.out.mono ?_; rintro e w' ⟨rfl, rfl⟩)
    | (go_at_call 79; refine cS.out.mono ?_; rintro e w1 ⟨rfl, ⟨F1, hc1, hg1⟩, hi1⟩))
  obtain ⟨m1, m2⟩ := hc1.m_le
  have cB := Lib.hid (CBytes hc1)
  have c0 := hc1.cell0
  have hmk := run_make_at (P := Try.prog) Try.underlying42 u8info rfl (by omega) t.m (by omega) w1
  have hbw : Below w1.heap.size w1 (w1.alloc (.cells (Array.replicate t.m (.int .u8 0)) 5)) := (Below.refl _ _).alloc (Nat.le_refl _) _
  have hrow : Row 5 (w1.alloc (.cells (Array.replicate t.m (.int .u8 0)) 5)) w1.heap.size (List.replicate t.m 0) := by
    have := Row.new 5 w1 (List.replicate t.m 0)
    simpa [bytesV, byteV] using this
  have hqF : w1.heap.size ∉ F1 := fun hm => by have := hc1.lt _ hm; omega
  have cF := Cfill (j := a) (b := b) (n := 1) (c := t.m) (d := true) (hc1.kept hbw) HY.out.2.1 hrow hqF HY.out.1 (by simp) (by omega) (fun hd => by cases hd) HY.out.2.2.1 HY.out.2.2.2
  rw [List.length_replicate] at cF
  have cF := Lib.hid cF
  have HG1 := Lib.hid (And.intro hg1 (And.intro hi1 hbw))
  have HM := Lib.hid (And.intro m1 m2)
  have hm3 : (t.m : Int) ≤ 140737488355328 := by omega
  clear hc1 hg1 hi1 hbw hrow hqF m1 m2
  go_wp2_with (first
    | (go_at_call 48; refine cB.out.mono ?_; rintro e w' ⟨rfl, rfl⟩)
    | (go_at_call 71; refine cF.out.mono ?_; rintro e w3 ⟨rfl, hF3, hi3⟩))
  go_ret
  exact ⟨rfl, Aft.fin HG1.out.2.1 HG1.out.1 ((Flow.Into.of_below HG1.out.2.2).trans hi3) HG1.out.2.1.size hF3⟩
theorem CFresh (h : Cw w F p g st) (hK : Sm st 1000000) (b : Nat) : Calls Try.prog 42 #[.pointer (some ⟨p, 0, none⟩), .int .u32 (b : Int)] w fun e w' => e = .returned (.int .i64 (freshT st b).1) ∧ Aft w w' F p g (freshT st b).2 := by
  unfold freshT
  by_cases hb : b < st.ls.length
  · have hb2 : b < 4294967296 := by have := h.good.l32; omega
    rw [if_pos hb]
    by_cases hp : 0 < pinsP st b
    · rw [if_pos hp]
      exact (Fresh_pinned h hb hp).mono fun e w' ⟨he, hw⟩ => ⟨he, hw ▸ Aft.same h (Below.refl _ _)⟩
    · rw [if_neg hp]
      have hp0 : pinsP st b = 0 := by omega
      cases hl : look st.fr b with
      | some y =>
        obtain ⟨j, f⟩ := y
        obtain ⟨hf, he⟩ := look_some hl
        exact Fresh_go h hb hp0 ((seat_some h hb2 hl).mono fun e w' ⟨he, hw⟩ => ⟨he, hw ▸ Aft.same h (Below.refl _ _)⟩) hb hf (fun i u hi e => h.good.uq i j u f hi hf (e.trans he.symm)) (fun u hu => by cases hu; exact he)
      | none =>
        have cR := Croom h hK.s
        unfold roomPost at cR
        cases hr : roomT st with
        | none =>
          rw [hr] at cR
          exact Fresh_full h hb hp0 (seat_none h hb2 hl cR)
        | some y =>
          obtain ⟨a, t⟩ := y
          rw [hr] at cR
          obtain ⟨g1, g2, g3, g4, g5, g6, g7⟩ := room_spec h.good hr
          have := Fresh_go h hb hp0 (seat_none h hb2 hl cR) (by rw [g4]; exact hb) g2 (fun i u hi e => absurd e (look_none hl i u (g5 i u hi))) (fun u hu => by cases hu)
          rw [g3] at this
          exact this
  · rw [if_neg hb]
    exact (Fresh_out h (by omega)).mono fun e w' ⟨he, hw⟩ => ⟨he, hw ▸ Aft.same h (Below.refl _ _)⟩

/-- pinned, where it is not -/
theorem Cpinned_no (h : Cw w F p g st) {b : Nat} (hb : b < 4294967296) (hp : pinsP st b = 0) : Calls Try.prog 45 #[.pointer (some ⟨p, 0, none⟩), .int .u32 (b : Int)] w fun e w' => e = .returned (.tuple #[.pointer none, .int .i64 8]) ∧ w = w' := by
  obtain ⟨S, fb, mp, ch, cb, qk, h1, h2, h3, h4, h5, h6⟩ := h
  unfold pinsP at hp
  cases hl : look st.fr b with
  | none => exact pinned_none h1 hb (ix_none_of (look_none hl))
  | some y =>
    obtain ⟨j, b', x, d, n⟩ := y
    obtain ⟨hf, rfl⟩ := look_some hl
    rw [hl] at hp
    exact pinned_zero h1 hb hf (ix_at h5.uq hf) hp
set_option maxRecDepth 100000 in
theorem Unpin_no (h : Cw w F p g st) {b : Nat} (hb : b < 4294967296) (hp : pinsP st b = 0) : Calls Try.prog 35 #[.pointer (some ⟨p, 0, none⟩), .int .u32 (b : Int)] w fun e w' => e = .returned (.int .i64 8) ∧ w = w' := by
  have cP := Lib.hid (Cpinned_no h hb hp)
  clear h
  go_enter Try.func35, Try.ntmps35
  go_wp2_with (go_at_call 45; refine cP.out.mono ?_; rintro e w' ⟨rfl, rfl⟩)
  go_ret
  exact ⟨rfl, rfl⟩
set_option maxRecDepth 100000 in
theorem Read_no (h : Cw w F p g st) {b : Nat} (hb : b < 4294967296) (hp : pinsP st b = 0) : Calls Try.prog 12 #[.pointer (some ⟨p, 0, none⟩), .int .u32 (b : Int)] w fun e w' => e = .returned (.tuple #[.slice none 0 0, .int .i64 8]) ∧ w = w' := by
  have cP := Lib.hid (Cpinned_no h hb hp)
  clear h
  go_enter Try.func12, Try.ntmps12
  go_wp2_with (go_at_call 45; refine cP.out.mono ?_; rintro e w' ⟨rfl, rfl⟩)
  exact bodyPost_ret (v := .tuple #[.slice none 0 0, .int .i64 8]) (by simp [results, Try.results12, go_sem]) rfl ⟨rfl, rfl⟩
set_option maxRecDepth 100000 in
theorem Write_no (h : Cw w F p g st) {b : Nat} (hb : b < 4294967296) (hp : pinsP st b = 0) (v : Value) : Calls Try.prog 34 #[.pointer (some ⟨p, 0, none⟩), .int .u32 (b : Int), v] w fun e w' => e = .returned (.int .i64 8) ∧ w = w' := by
  have cP := Lib.hid (Cpinned_no h hb hp)
  clear h
  go_enter Try.func34, Try.ntmps34
  go_wp2_with (go_at_call 45; refine cP.out.mono ?_; rintro e w' ⟨rfl, rfl⟩)
  go_ret
  exact ⟨rfl, rfl⟩
end
end Ca
end Go.Proofs.Ytjnbdmimflhhiaa
