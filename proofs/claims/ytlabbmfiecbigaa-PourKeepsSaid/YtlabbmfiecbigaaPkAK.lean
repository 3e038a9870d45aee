/-
  BufMerge, SlCloneP, LeafHalveC, LeafCode1, SlCloneM, LeafCode2, PairR2. Put together by pack.py.
-/
import Derived.Test.YtlabbmfiecbigaaPkAJ
import Derived.Test.YtlabbmfiecbigaaPkAG
import Derived.Test.YtlabbmfiecbigaaPkAE
import Derived.Test.YtlabbmfiecbigaaPkAH
import Derived.Test.YtlabbmfiecbigaaDrift

namespace Go.Proofs.Ytlabbmfiecbigaa
open Go.RowKit
namespace Bu
open Mem Lx
theorem run_makeM (n : Nat) (hn : n ≤ 1048576) (w : World) : (Instr.makeSlice 26 (.int .i64 0) (.int .i64 (n : Int))).run Try.prog w = .ok (.slice (some ⟨w.heap.size, 0, none⟩) 0 n) (w.alloc (.cells (madeCells #[.string ⟨#[]⟩, .bool false, .string ⟨#[]⟩] (n * 3)) 45)) := by
  obtain ⟨i, hi, hz, hs, hb⟩ := info_parts mginfo
  have hr := run_make (P := Try.prog) w 26 45 i _ Try.underlying26 hi hz .i64 .i64 0 n (by omega) (by omega) (by rw [hb]; omega) (by omega)
  rw [hr, hs]
  rfl
theorem made3 (w : World) (n : Nat) (hn : n ≤ 1048576) : M3 (w.alloc (.cells (madeCells #[.string ⟨#[]⟩, .bool false, .string ⟨#[]⟩] (n * 3)) 45)) w.heap.size (some ⟨w.heap.size, 0, none⟩) n [] :=
  World.ownsRow_made (base := w.heap.size) (e := 45) (size := 3) w _ n (Nat.le_refl _) (by unfold maxLen; omega) (size_madeCells _ _)
/-- what an append within Merge leaves -/
def EvApM (W : World) (O : List Mg) (j : Nat) (v : Value) (w : World) : Prop := ∃ A' c', v = .slice A' j c' ∧ M3 w W.heap.size A' c' O ∧ Below W.heap.size W w
set_option maxRecDepth 100000 in
set_option maxHeartbeats 4000000 in
theorem Merge_row {W : World} {A A' : Option Addr} {c c' : Nat} {L M : List Mg} (h : MC W A c L) (h' : MC W A' c' M) (_ : ∀ m, m ∈ L → m.1.size ≤ 1000) (_ : ∀ m, m ∈ M → m.1.size ≤ 1000) (hr : Ri L) (hr' : Ri M) (hl : L.length ≤ 1000) (hm : M.length ≤ 1000) : Calls Try.prog 49 #[.slice A L.length c, .slice A' M.length c'] W fun e w' => (∃ A2 c2, e = .returned (.slice A2 (mergeD L M).length c2) ∧ M3 w' W.heap.size A2 c2 (mergeD L M)) ∧ Below W.heap.size W w' := by
  have HH := Lib.hid h
  have HH' := Lib.hid h'
  have HR := Lib.hid hr
  have HR' := Lib.hid hr'
  clear h h' hr hr'
  generalize hn : L.length = n at *
  generalize hm' : M.length = m at *
  obtain ⟨X, hX⟩ : ∃ X, X = mergeD L M := ⟨_, rfl⟩
  have HX := Lib.hid hX
  rw [← hX]
  generalize hN : X.length = N
  have HN := Lib.hid hn
  have HM := Lib.hid hm'
  have HXN := Lib.hid hN
  clear hn hm' hX hN
  have hmk : ∀ w, (Instr.makeSlice 26 (.int .i64 0) (.int .i64 ((n : Int) + (m : Int)))).run Try.prog w = .ok (.slice (some ⟨w.heap.size, 0, none⟩) 0 (n + m)) (w.alloc (.cells (madeCells #[.string ⟨#[]⟩, .bool false, .string ⟨#[]⟩] ((n + m) * 3)) 45)) := fun w => by
    have := run_makeM (n + m) (by omega) w
    rw [Int.natCast_add] at this
    exact this
  go_enter Try.func49, Try.ntmps49
  go_upto_block 0 with fail
  have HV0 := Lib.hid (made3 W (n + m) (by omega))
  have HB0 : Hid (Below W.heap.size W (W.alloc (.cells (madeCells #[.string ⟨#[]⟩, .bool false, .string ⟨#[]⟩] ((n + m) * 3)) 45))) := (Below.refl _ _).alloc (Nat.le_refl _) _
  generalize W.alloc (.cells (madeCells #[.string ⟨#[]⟩, .bool false, .string ⟨#[]⟩] ((n + m) * 3)) 45) = w1 at *
  obtain ⟨g, hg⟩ : ∃ g, g = W.heap.size := ⟨_, rfl⟩
  rw [← hg] at HV0 ⊢
  have HG := Lib.hid hg
  clear hg hmk
  go_cut [0, 1, 5] (fun nv ov bv wx => ∃ (A1 A2 A0 : Option Addr) (i1 i2 j c1 c2 c0 : Nat) (L1 M1 O : List Mg), nv = .slice A1 i1 c1 ∧ ov = .slice A2 i2 c2 ∧ bv = .slice A0 j c0 ∧ i1 + i2 + j ≤ 2000 ∧ Hid (L1.length = i1) ∧ Hid (M1.length = i2) ∧ Hid (O.length = j) ∧ Hid (ML W A1 L1) ∧ Hid (ML W A2 M1) ∧ Hid (O ++ L1 ++ M1 = X) ∧ Hid (M3 wx W.heap.size A0 c0 O) ∧ Hid (Below W.heap.size W wx))
  case first =>
    go_wp2_with fail
    go_loopg [0, 1, 5] (n + m) (fun gk nv ov bv wr => ∃ (A1 A2 A0 : Option Addr) (i1 i2 j c1 c2 c0 : Nat) (L1 M1 O : List Mg), nv = .slice A1 i1 c1 ∧ ov = .slice A2 i2 c2 ∧ bv = .slice A0 j c0 ∧ gk = i1 + i2 ∧ i1 + i2 + j ≤ 2000 ∧ Hid (L1.length = i1) ∧ Hid (M1.length = i2) ∧ Hid (O.length = j) ∧ Hid (MC W A1 c1 L1) ∧ Hid (MC W A2 c2 M1) ∧ Hid (Ri L1) ∧ Hid (Ri M1) ∧ Hid (O ++ mergeD L1 M1 = X) ∧ Hid (M3 wr W.heap.size A0 c0 O) ∧ Hid (Below W.heap.size W wr))
    case atStart => exact ⟨A, A', some ⟨g, 0, none⟩, n, m, 0, c, c', n + m, L, M, [], rfl, rfl, rfl, rfl, by omega, HN, HM, rfl, HH, HH', HR, HR', HX.out.symm, by rw [HG.out] at HV0; rw [HG.out]; exact HV0, HB0⟩
    case round =>
      obtain ⟨A1, A2, A0, i1, i2, j, c1, c2, c0, L1, M1, O, rfl, rfl, rfl, rfl, hj, HL1, HM1, HO, HA1, HA2, HR1, HR2, HE, HV, HB⟩ := hrel
      clear HV0 HB0
      rcases Nat.eq_zero_or_pos i1 with rfl | h1
      · have HE2 : Hid (O ++ L1 ++ M1 = X) := by
          obtain rfl : L1 = [] := List.eq_nil_of_length_eq_zero HL1.out
          have := HE.out
          unfold mergeD at this
          rw [List.foldl_nil] at this
          rw [List.append_nil]
          exact this
        go_wp2_with fail
        go_meet
        exact ⟨A1, A2, A0, 0, i2, j, c1, c2, c0, L1, M1, O, rfl, rfl, rfl, by omega, HL1, HM1, HO, HA1.out.1, HA2.out.1, HE2, HV, HB⟩
      rcases Nat.eq_zero_or_pos i2 with rfl | h2
      · have HE2 : Hid (O ++ L1 ++ M1 = X) := by
          obtain rfl : M1 = [] := List.eq_nil_of_length_eq_zero HM1.out
          have := HE.out
          rw [mergeD_none HR1.out] at this
          rw [List.append_nil]
          exact this
        go_wp2_with fail
        go_meet
        exact ⟨A1, A2, A0, i1, 0, j, c1, c2, c0, L1, M1, O, rfl, rfl, rfl, by omega, HL1, HM1, HO, HA1.out.1, HA2.out.1, HE2, HV, HB⟩
      --BODY
      obtain ⟨x, l, rfl⟩ : ∃ x l, L1 = x :: l := by
        cases L1 with
        | nil => have := HL1.out; rw [List.length_nil] at this; omega
        | cons x l => exact ⟨x, l, rfl⟩
      obtain ⟨y, mm, rfl⟩ : ∃ y mm, M1 = y :: mm := by
        cases M1 with
        | nil => have := HM1.out; rw [List.length_nil] at this; omega
        | cons y mm => exact ⟨y, mm, rfl⟩
      obtain ⟨b, o, e, hbW, -, -, -⟩ := RdK.msg (HA1.out.1) (i := 0) (m := x) rfl
      subst e
      obtain ⟨b', o', e', hbW', -, -, -⟩ := RdK.msg (HA2.out.1) (i := 0) (m := y) rfl
      subst e'
      obtain ⟨bb, oo, e, -, d0, d1, d2⟩ := RdK.msg (HA1.out.1.kept HB.out) (i := 0) (m := x) rfl
      obtain ⟨rfl, rfl⟩ : b = bb ∧ o = oo := by simpa using e
      clear e
      obtain ⟨bb, oo, e, -, e0, e1, e2⟩ := RdK.msg (HA2.out.1.kept HB.out) (i := 0) (m := y) rfl
      obtain ⟨rfl, rfl⟩ : b' = bb ∧ o' = oo := by simpa using e
      clear e
      rw [Nat.zero_mul, Nat.add_zero] at d0 d1 d2 e0 e1 e2
      have r1 : ∀ w, (Instr.slice 26 (.slice (some ⟨b, o, none⟩) i1 c1) (some (.int .i64 1)) none none).run Try.prog w = .ok (.slice (cutM (some ⟨b, o, none⟩) c1 1) (i1 - 1) (c1 - 1)) w := fun w => run_cutM (some ⟨b, o, none⟩) i1 c1 1 h1 w
      have r2 : ∀ w, (Instr.slice 26 (.slice (some ⟨b', o', none⟩) i2 c2) (some (.int .i64 1)) none none).run Try.prog w = .ok (.slice (cutM (some ⟨b', o', none⟩) c2 1) (i2 - 1) (c2 - 1)) w := fun w => run_cutM (some ⟨b', o', none⟩) i2 c2 1 h2 w
      have cC := fun w => Lib.hid (CCmp x.1 y.1 w)
      have z0 := fun q : Drift.Tide [] wr [] => Drift.Tide.cell d0 (by simp) q
      have x0 := fun q : Drift.Tide [] wr [] => Drift.Tide.cell e0 (by simp) q
      clear HR HR' HH HH'
      go_upto_region 3 with fail
      go_cut [6] (fun v wx => v = .int .i64 (cmpB x.1 y.1) ∧ Hid (Below wr.heap.size wr wx))
      case first =>
        clear d0 d1 d2 e0 e1 e2
        refine Drift.wp_region_drift [] [(0,[]),(1,[]),(2,[]),(3,[]),(4,[]),(5,[]),(6,[]),(7,[]),(8,[]),(9,[])] [] [] (by kernel_rfl) (by kernel_rfl) (by simp) ?_
        simp only [Drift.pick, Drift.opsAt, List.getElem?_toArray, List.getElem?_cons_zero, List.getElem?_cons_succ, List.cons_append, List.nil_append, List.filterMap_nil]
        repeat (refine Drift.walk_step (fun K hK => ?_); go_simp; first | (refine hK _ ?_; clear hK K) | (apply Exists.intro; refine ⟨fun q => ?_, hK _ ?_⟩; (go_at_call 63; exact (cC _).out); clear hK K))
        refine Drift.walk_nil ?_
        intro w9 hb9 _
        have HB9 : Hid (Below wr.heap.size wr w9) := hb9
        clear z0 x0 hb9 cC
        simp only [List.length_cons, List.length_nil, List.drop_succ_cons, List.drop_nil, Nat.zero_add, Nat.reduceAdd]
        go_wp2_with fail
        go_meet
        exact ⟨rfl, HB9⟩
      case rest =>
      obtain ⟨rfl, HB9⟩ := hcut
      replace HV := Lib.hid (HV.out.kept HB9.out)
      replace HB := Lib.hid (HB.out.trans (HB9.out.mono HB.out.size))
      clear z0 x0 cC d0 d1 d2 e0 e1 e2 HB9
      obtain ⟨bb, oo, e, -, d0, d1, d2⟩ := RdK.msg (HA1.out.1.kept HB.out) (i := 0) (m := x) rfl
      obtain ⟨rfl, rfl⟩ : b = bb ∧ o = oo := by simpa using e
      clear e
      obtain ⟨bb, oo, e, -, e0, e1, e2⟩ := RdK.msg (HA2.out.1.kept HB.out) (i := 0) (m := y) rfl
      obtain ⟨rfl, rfl⟩ : b' = bb ∧ o' = oo := by simpa using e
      clear e
      rw [Nat.zero_mul, Nat.add_zero] at d0 d1 d2 e0 e1 e2
      clear wr
      obtain ⟨wr, hwr⟩ : ∃ wr, wr = wc := ⟨_, rfl⟩
      subst hwr
      rcases Int.lt_trichotomy (cmpB x.1 y.1) 0 with hz | hz | hz
      · skip
        obtain ⟨S, hS1, hS2⟩ := VK.blocks HV.out
        have hnb : b ∉ S := fun hh => by
          have := (hS2 b hh).1
          omega
        have z0 := fun q : Drift.Tide S wr [] => Drift.Tide.cell d0 hnb q
        have z1 := fun q : Drift.Tide S wr [] => Drift.Tide.cell d1 hnb q
        have z2 := fun q : Drift.Tide S wr [] => Drift.Tide.cell d2 hnb q
        have HS1 := Lib.hid hS1
        have hj2 : j + 1 ≤ 1048576 := by omega
        have HJ2 := Lib.hid hj2
        have HE2 : Hid (O ++ [x] ++ mergeD l (y :: mm) = X) := by
          have := HE.out
          rw [mergeD_lt HR1.out HR2.out hz] at this
          rw [List.append_assoc]
          exact this
        have hz2 : cmpB x.1 y.1 < 0 := hz
        generalize cmpB x.1 y.1 = zz at *
        clear d0 d1 d2 e0 e1 e2 hnb hS1 hj2 hz
        go_upto_region 6 with fail
        refine Drift.wp_region_drift S [(0,[]),(1,[]),(2,[]),(3,[]),(6,[]),(7,[]),(4,[]),(5,[]),(8,[]),(9,[])] [5] [4] (by kernel_rfl) (by kernel_rfl) (fun k hk => (hS2 k hk).2) ?_
        clear hS2
        simp only [Drift.pick, Drift.opsAt, List.getElem?_toArray, List.getElem?_cons_zero, List.getElem?_cons_succ, List.cons_append, List.nil_append, List.filterMap_nil]
        repeat (refine Drift.walk_step (fun K hK => ?_); go_simp; (refine hK _ ?_; clear hK K))
        refine Drift.walk_make rfl Drift.mkwalk_nil (fun b => .slice (some ⟨b, 0, none⟩) 1 1) (.cells #[.string x.1, .bool x.2.1, .string x.2.2] 45) (fun W => by go_simp) (fun b1 hb1 hT1 => ?_)
        refine Drift.walk_event rfl Drift.mkwalk_nil (EvApM W (O ++ [x]) (j + 1)) (fun W2 hk hl2 => ?_) (fun v w5 hv hI _ hTd => ?_)
        · have hV2 := HV.out.kept hk
          refine evAt_appendK (K := MgK) Try.underlying26 mginfo rfl (by decide) (by decide) (.tmp 35) (.tmp 39) rfl W.heap.size A0 j c0 O rfl HO.out hV2 b1 1 x rfl (hl2 (b1, .cells #[.string x.1, .bool x.2.1, .string x.2.2] 45) (by simp)) HJ2.out (Nat.le_trans HB.out.size hk.size) HS1.out fun A' c' w' hd => ?_
          exact ⟨A', c', rfl, hd.vo, (HB.out.trans (hk.mono HB.out.size)).trans hd.below⟩
        obtain ⟨A5, c5, rfl, hv5, hb5⟩ := hv
        have HV5 := Lib.hid hv5
        have HB5 := Lib.hid hb5
        clear hI hv5 hb5
        repeat (refine Drift.walk_step (fun K hK => ?_); go_simp; (refine hK _ ?_; clear hK K))
        refine Drift.walk_nil ?_
        intro w6 hb6 _
        have HV6 := Lib.hid (HV5.out.kept hb6)
        have HB6 : Hid (Below W.heap.size W w6) := HB5.out.trans (hb6.mono HB5.out.size)
        clear hb6 HV5 HB5 hTd z0 z1 z2 hT1
        simp only [List.length_cons, List.length_nil, List.drop_succ_cons, List.drop_nil, Nat.zero_add, Nat.reduceAdd]
        go_wp2_with fail
        go_roundg (i1 - 1 + i2)
        case measure => omega
        case rel => exact ⟨_, _, A5, i1 - 1, i2, j + 1, c1 - 1, c2, c5, l, y :: mm, O ++ [x], rfl, rfl, rfl, rfl, by omega, by have := HL1.out; rw [List.length_cons] at this; unfold Hid; omega, HM1, by unfold Hid; rw [List.length_append, HO.out]; rfl, HA1.out.cut 1, HA2, (List.pairwise_cons.1 HR1.out).2, HR2, HE2, HV6, HB6⟩
      · have HE2 : Hid (O ++ mergeD (x :: l) mm = X) := by
          have := HE.out
          rw [mergeD_eq HR1.out HR2.out (cmpB_zero hz)] at this
          exact this
        generalize cmpB x.1 y.1 = zz at *
        subst hz
        clear d0 d1 d2 e0 e1 e2
        go_wp2_with fail
        go_roundg (i1 + (i2 - 1))
        case measure => omega
        case rel => exact ⟨_, _, A0, i1, i2 - 1, j, c1, c2 - 1, c0, x :: l, mm, O, rfl, rfl, rfl, rfl, by omega, HL1, by have := HM1.out; rw [List.length_cons] at this; unfold Hid; omega, HO, HA1, HA2.out.cut 1, HR1, (List.pairwise_cons.1 HR2.out).2, HE2, HV, HB⟩
      · skip
        obtain ⟨S, hS1, hS2⟩ := VK.blocks HV.out
        have hnb : b' ∉ S := fun hh => by
          have := (hS2 b' hh).1
          omega
        have z0 := fun q : Drift.Tide S wr [] => Drift.Tide.cell e0 hnb q
        have z1 := fun q : Drift.Tide S wr [] => Drift.Tide.cell e1 hnb q
        have z2 := fun q : Drift.Tide S wr [] => Drift.Tide.cell e2 hnb q
        have HS1 := Lib.hid hS1
        have hj2 : j + 1 ≤ 1048576 := by omega
        have HJ2 := Lib.hid hj2
        have HE2 : Hid (O ++ [y] ++ mergeD (x :: l) mm = X) := by
          have := HE.out
          rw [mergeD_gt HR1.out HR2.out (by have := cmpB_neg x.1 y.1; omega)] at this
          rw [List.append_assoc]
          exact this
        have hz2 : 0 < cmpB x.1 y.1 := hz
        generalize cmpB x.1 y.1 = zz at *
        clear d0 d1 d2 e0 e1 e2 hnb hS1 hj2 hz
        go_upto_region 8 with fail
        refine Drift.wp_region_drift S [(0,[]),(1,[]),(2,[]),(3,[]),(6,[]),(7,[]),(4,[]),(5,[]),(8,[]),(9,[])] [5] [4] (by kernel_rfl) (by kernel_rfl) (fun k hk => (hS2 k hk).2) ?_
        clear hS2
        simp only [Drift.pick, Drift.opsAt, List.getElem?_toArray, List.getElem?_cons_zero, List.getElem?_cons_succ, List.cons_append, List.nil_append, List.filterMap_nil]
        repeat (refine Drift.walk_step (fun K hK => ?_); go_simp; (refine hK _ ?_; clear hK K))
        refine Drift.walk_make rfl Drift.mkwalk_nil (fun b => .slice (some ⟨b, 0, none⟩) 1 1) (.cells #[.string y.1, .bool y.2.1, .string y.2.2] 45) (fun W => by go_simp) (fun b1 hb1 hT1 => ?_)
        refine Drift.walk_event rfl Drift.mkwalk_nil (EvApM W (O ++ [y]) (j + 1)) (fun W2 hk hl2 => ?_) (fun v w5 hv hI _ hTd => ?_)
        · have hV2 := HV.out.kept hk
          refine evAt_appendK (K := MgK) Try.underlying26 mginfo rfl (by decide) (by decide) (.tmp 46) (.tmp 50) rfl W.heap.size A0 j c0 O rfl HO.out hV2 b1 1 y rfl (hl2 (b1, .cells #[.string y.1, .bool y.2.1, .string y.2.2] 45) (by simp)) HJ2.out (Nat.le_trans HB.out.size hk.size) HS1.out fun A' c' w' hd => ?_
          exact ⟨A', c', rfl, hd.vo, (HB.out.trans (hk.mono HB.out.size)).trans hd.below⟩
        obtain ⟨A5, c5, rfl, hv5, hb5⟩ := hv
        have HV5 := Lib.hid hv5
        have HB5 := Lib.hid hb5
        clear hI hv5 hb5
        repeat (refine Drift.walk_step (fun K hK => ?_); go_simp; (refine hK _ ?_; clear hK K))
        refine Drift.walk_nil ?_
        intro w6 hb6 _
        have HV6 := Lib.hid (HV5.out.kept hb6)
        have HB6 : Hid (Below W.heap.size W w6) := HB5.out.trans (hb6.mono HB5.out.size)
        clear hb6 HV5 HB5 hTd z0 z1 z2 hT1
        simp only [List.length_cons, List.length_nil, List.drop_succ_cons, List.drop_nil, Nat.zero_add, Nat.reduceAdd]
        go_wp2_with fail
        go_roundg (i1 + (i2 - 1))
        case measure => omega
        case rel => exact ⟨_, _, A5, i1, i2 - 1, j + 1, c1, c2 - 1, c5, x :: l, mm, O ++ [y], rfl, rfl, rfl, rfl, by omega, HL1, by have := HM1.out; rw [List.length_cons] at this; unfold Hid; omega, by unfold Hid; rw [List.length_append, HO.out]; rfl, HA1, HA2.out.cut 1, HR1, (List.pairwise_cons.1 HR2.out).2, HE2, HV6, HB6⟩
      --END
  case rest =>
  clear HV0 HB0 HR HR' HH HH'
  obtain ⟨A1, A2, A0, i1, i2, j, c1, c2, c0, L1, M1, O, rfl, rfl, rfl, hj, HL1, HM1, HO, HA1, HA2, HE, HV, HB⟩ := hcut
  have HAL := Lib.hid (HA1.out.kept HB.out)
  have hn2 : j + i1 ≤ 1048576 := by omega
  have hs2 := HB.out.size
  go_upto_region 10 with (with_reducible refine wpList_append_allK (K := MgK) Try.underlying26 mginfo rfl (by decide) (by decide) rfl (.tmp 54) (.tmp 55) rfl W.heap.size A0 j c0 O rfl HO.out HV.out A1 i1 c1 L1 rfl HL1.out HAL.out hn2 hs2 ?_; intro A5 c5 w5 hv5 hb5)
  have HB5 : Hid (Below W.heap.size W w5) := HB.out.trans hb5.out
  have HAM := Lib.hid (HA2.out.kept HB5.out)
  have HO5 : Hid ((O ++ L1).length = j + i1) := by unfold Hid; rw [List.length_append, HO.out, HL1.out]
  have hn3 : (j + i1) + i2 ≤ 1048576 := by omega
  have hs3 := HB5.out.size
  clear hb5 HAL hs2 hn2 HB
  go_wp2_with (with_reducible refine wpList_append_allK (K := MgK) Try.underlying26 mginfo rfl (by decide) (by decide) rfl (.tmp 57) (.tmp 58) rfl W.heap.size A5 (j + i1) c5 (O ++ L1) rfl HO5.out hv5.out A2 i2 c2 M1 rfl HM1.out HAM.out hn3 hs3 ?_; intro A6 c6 w6 hv6 hb6)
  have hN6 : N = j + i1 + i2 := by rw [← HXN.out, ← HE.out, List.length_append, HO5.out, HM1.out]
  subst hN6
  have hv7 : M3 w6 W.heap.size A6 c6 X := by
    have := hv6.out
    rw [HE.out] at this
    exact this
  go_ret
  exact ⟨⟨A6, c6, rfl, hv7⟩, HB5.out.trans hb6.out⟩
theorem Merge_any {W : World} {A A' : Option Addr} {c c' : Nat} {L M : List Mg} (h : MC W A c L) (h' : MC W A' c' M) (k1 : ∀ m, m ∈ L → m.1.size ≤ 1000) (k2 : ∀ m, m ∈ M → m.1.size ≤ 1000) (hr : Ri L) (hr' : Ri M) (hl : L.length ≤ 1000) (hm : M.length ≤ 1000) : Calls Try.prog 49 #[.slice A L.length c, .slice A' M.length c'] W fun e w' => (∃ A2 c2, e = .returned (.slice A2 (mergeD L M).length c2) ∧ ML w' A2 (mergeD L M) ∧ From W A' A2) ∧ Below W.heap.size W w' :=
  (Merge_row h h' k1 k2 hr hr' hl hm).mono fun _ _ ⟨⟨A2, c2, he, hv⟩, hb⟩ => ⟨⟨A2, c2, he, hv.rd, fun x hx => .inl (hv.at_ x hx).1⟩, hb⟩
end Bu
end Go.Proofs.Ytlabbmfiecbigaa

namespace Go.Proofs.Ytlabbmfiecbigaa
open Go.RowKit
namespace Lf
open Mem Lx Bu
set_option maxRecDepth 100000 in
set_option maxHeartbeats 2000000 in
set_option maxRecDepth 100000 in
theorem CloneP_any {W : World} {A : Option Addr} {c : Nat} {L : List Pr} (h : PL W A L) (hl : L.length ≤ 1048576) : Calls Try.prog 43 #[.slice A L.length c] W fun e w' => (∃ A' c', e = .returned (.slice A' L.length c') ∧ P3 w' W.heap.size A' c' L) ∧ Below W.heap.size W w' := by
  have hq := fun (w : World) (a : Option Addr) (n c n' c' : Nat) => Lib.run_eql_slice_nil (P := Try.prog) w 27 _ a n c n' c' Try.underlying27
  cases A with
  | none =>
    obtain rfl : L = [] := List.length_eq_zero_iff.1 (Nat.eq_zero_of_not_pos fun h0 => by
      obtain ⟨b, o, e, _⟩ := h h0
      cases e)
    go_enter Try.func43, Try.ntmps43
    go_wp2_with fail
    go_ret
    exact ⟨⟨none, 0, rfl, VK.nil _ _⟩, Below.refl _ _⟩
  | some a =>
    have HH := Lib.hid h
    generalize hn : L.length = n at *
    have HN := Lib.hid hn
    clear h hn
    go_enter Try.func43, Try.ntmps43
    go_upto_region 3 with fail
    have hb : Below W.heap.size W (W.alloc (.cells #[] 47)) := (Below.refl _ _).alloc (Nat.le_refl _) _
    have HV0 : Hid (P3 (W.alloc (.cells #[] 47)) W.heap.size (some ⟨W.heap.size, 0, none⟩) 0 []) := VK.lit (K := PrK) W W.heap.size (Nat.le_refl _)
    have HAL := Lib.hid (HH.out.kept hb)
    have hs := hb.size
    have hn2 : 0 + n ≤ 1048576 := by omega
    have HB := Lib.hid hb
    clear hb HH
    go_wp2_with (with_reducible refine wpList_append_allK (K := PrK) Try.underlying27 prinfo rfl (by decide) (by decide) rfl (.tmp 5) (.tmp 6) rfl W.heap.size (some ⟨W.heap.size, 0, none⟩) 0 0 [] rfl rfl HV0.out (some a) n c L rfl HN.out HAL.out hn2 hs ?_; intro Aw cw w4 hv4 hb4)
    go_ret
    exact ⟨⟨Aw, cw, rfl, hv4.out⟩, HB.out.trans hb4.out⟩
end Lf
end Go.Proofs.Ytlabbmfiecbigaa

namespace Go.Proofs.Ytlabbmfiecbigaa
open Go.RowKit
namespace Lf
open Mem Lx Bu
/-- a row of the call's own, told as a value -/
def EvP (B n : Nat) (X : List Pr) (v : Value) (w : World) : Prop := ∃ A' c', v = .slice A' n c' ∧ P3 w B A' c' X
theorem cloneP1 {W : World} {A : Option Addr} {n c : Nat} {X : List Pr} (h : PL W A X) (hn : X.length = n) (hl : n ≤ 1000000) : Calls Try.prog 43 #[.slice A n c] W fun e w' => (∃ v, e = .returned v ∧ EvP W.heap.size n X v w') ∧ Below W.heap.size W w' := by
  subst hn
  exact (CloneP_any (c := c) h (by omega)).mono fun e w' ⟨⟨A', c', he, hm⟩, hb⟩ => ⟨⟨_, he, A', c', rfl, hm⟩, hb⟩
end Lf
end Go.Proofs.Ytlabbmfiecbigaa

namespace Go.Proofs.Ytlabbmfiecbigaa
open Go.RowKit
namespace Lf
open Mem Lx Bu
set_option maxRecDepth 100000 in
set_option maxHeartbeats 2000000 in
theorem cmpKey_any (x : Pr) (key : ByteArray) (w : World) : Calls Try.prog 68 #[.agg #[.string x.1, .string x.2], .string key] w fun e w' => e = .returned (.int .i64 (cmpB x.1 key)) ∧ Below w.heap.size w w' := by
  go_enter Try.func68, Try.ntmps68
  go_wp2_with (go_at_call 63; refine (CCmp _ _ _).mono ?_; rintro e w' ⟨rfl, hb⟩)
  go_ret
  exact ⟨rfl, ((Below.refl _ _).alloc (Nat.le_refl _) _).trans (hb.mono (by simp))⟩
/-- where a key stands, or would stand -/
structure Lb (L : List Pr) (key : ByteArray) (p : Nat) : Prop where
  le : p ≤ L.length
  lo : ∀ (i : Nat) (m : Pr), i < p → L[i]? = some m → cmpB m.1 key < 0
  hi : ∀ (i : Nat) (m : Pr), p ≤ i → L[i]? = some m → 0 ≤ cmpB m.1 key
theorem PRi.lower {L : List Pr} (h : PRi L) {key : ByteArray} {j : Nat} {y : Pr} (hy : L[j]? = some y) (hk : cmpB y.1 key < 0) : ∀ (i : Nat) (m : Pr), i < j + 1 → L[i]? = some m → cmpB m.1 key < 0 := fun i m hi hm => by
  rcases Nat.lt_or_ge i j with hij | hij
  · exact cmpB_trans (h.at_ hm hy hij) hk
  · obtain rfl : i = j := by omega
    rw [hy] at hm
    cases hm
    exact hk
theorem PRi.upper {L : List Pr} (h : PRi L) {key : ByteArray} {j : Nat} {y : Pr} (hy : L[j]? = some y) (hk : 0 ≤ cmpB y.1 key) : ∀ (i : Nat) (m : Pr), j ≤ i → L[i]? = some m → 0 ≤ cmpB m.1 key := fun i m hi hm => by
  rcases Nat.lt_or_ge j i with hij | hij
  · have h1 := h.at_ hy hm hij
    rcases Int.lt_or_le (cmpB m.1 key) 0 with h2 | h2
    · have := cmpB_trans h1 h2
      omega
    · exact h2
  · obtain rfl : i = j := by omega
    rw [hy] at hm
    cases hm
    exact hk
set_option maxRecDepth 100000 in
set_option maxHeartbeats 4000000 in
theorem search_any {W : World} {A : Option Addr} {c : Nat} {L : List Pr} (h : PL W A L) (key : ByteArray) (hr : PRi L) (hl : L.length ≤ 1048576) : Calls Try.prog 67 #[.slice A L.length c, .string key, .func (.func 68) #[] #[]] W fun e w' => (∃ (p : Nat) (b : Bool), e = .returned (.tuple #[.int .i64 (p : Int), .bool b]) ∧ Lb L key p ∧ (b = true ↔ ∃ m, L[p]? = some m ∧ m.1 = key)) ∧ Below W.heap.size W w' := by
  obtain ⟨n, hn⟩ : ∃ n, n = L.length := ⟨_, rfl⟩
  have HN := Lib.hid hn
  have HH := Lib.hid h
  have HR := Lib.hid hr
  rw [← hn] at hl ⊢
  clear h hr hn
  go_enter Try.func67, Try.ntmps67
  go_wp2_with fail
  go_loopg [9, 10] n (fun gk s9 s10 wr => ∃ lo hi : Nat, lo ≤ hi ∧ hi ≤ n ∧ gk = hi - lo ∧ s9 = .int .i64 (lo : Int) ∧ s10 = .int .i64 (hi : Int) ∧ Hid (∀ (i : Nat) (m : Pr), i < lo → L[i]? = some m → cmpB m.1 key < 0) ∧ Hid (∀ (i : Nat) (m : Pr), hi ≤ i → L[i]? = some m → 0 ≤ cmpB m.1 key) ∧ Hid (Below W.heap.size W wr))
  case atStart => exact ⟨0, n, Nat.zero_le _, Nat.le_refl _, rfl, rfl, rfl, fun i m hi => by omega, fun i m hi hm => by
    have := (List.getElem?_eq_some_iff.1 hm).1
    rw [← HN.out] at this
    omega, Below.refl _ _⟩
  case round =>
    obtain ⟨lo, hi, hlh, hhn, rfl, rfl, rfl, HL, HU, HB⟩ := hrel
    by_cases hlt : lo < hi
    · obtain ⟨k, hk⟩ : ∃ k, k = (lo + hi) / 2 := ⟨_, rfl⟩
      have hk1 : lo ≤ k := by omega
      have hk2 : k < hi := by omega
      have hkn : k < n := by omega
      have hj : k < L.length := by rw [← HN.out]; exact hkn
      obtain ⟨x, hx⟩ : ∃ x, x = L[k] := ⟨_, rfl⟩
      have hx' := nat_len hj
      rw [← hx] at hx'
      obtain ⟨b, o, e, -, c0, c1⟩ := RdK.pair (HH.out.kept HB.out) hx'
      subst e
      have HX := Lib.hid hx'
      have cC := fun w => Lib.hid (cmpKey_any x key w)
      have hw1 : IntKind.i64.wrap ((lo : Int) + (hi : Int)) = (lo : Int) + (hi : Int) := by rw [IntKind.wrap_i64]; omega
      have hw2 : IntKind.i64.wrap ((k : Int) + 1) = ((k + 1 : Nat) : Int) := by rw [IntKind.wrap_i64]; omega
      have hq : ((lo : Int) + (hi : Int)) / 2 = (k : Int) := by omega
      have hsh : ∀ w, (binOp .shr 103 (.int .u64 ((lo : Int) + (hi : Int))) (.int .u64 1)).run Try.prog w = .ok (.int .u64 (k : Int)) w := fun w => by
        rw [← hq]
        simp [go_sem]
      have hw3 : IntKind.i64.wrap (k : Int) = (k : Int) := by rw [IntKind.wrap_i64]; omega
      have HQ := Lib.hid hq
      have HK := Lib.hid hk
      clear hx hx' hj hq hk hsh
      go_upto_region 5 with fail
      rw [HQ.out]
      by_cases hz : cmpB x.1 key < 0
      · have HL2 : Hid (∀ (i : Nat) (m : Pr), i < k + 1 → L[i]? = some m → cmpB m.1 key < 0) := HR.out.lower HX.out hz
        generalize cmpB x.1 key = z at *
        go_wp2_with (go_at_call 68; refine (cC _).out.mono ?_; rintro e w' ⟨rfl, hb⟩)
        have HB2 := Lib.hid (HB.out.trans (hb.mono HB.out.size))
        go_roundg (hi - (k + 1))
        case measure => omega
        case rel => exact ⟨k + 1, hi, by omega, hhn, rfl, by go_num, rfl, HL2, HU, HB2⟩
      · have HU2 : Hid (∀ (i : Nat) (m : Pr), k ≤ i → L[i]? = some m → 0 ≤ cmpB m.1 key) := HR.out.upper HX.out (by omega)
        have hd : decide (cmpB x.1 key < 0) = false := by simpa using hz
        generalize cmpB x.1 key = z at *
        go_wp2_with (go_at_call 68; refine (cC _).out.mono ?_; rintro e w' ⟨rfl, hb⟩)
        have HB2 := Lib.hid (HB.out.trans (hb.mono HB.out.size))
        go_roundg (k - lo)
        case measure => omega
        case rel => exact ⟨lo, k, hk1, by omega, rfl, rfl, rfl, HL, HU2, HB2⟩
    · obtain rfl : lo = hi := by omega
      have HP : Hid (Lb L key lo) := ⟨by rw [← HN.out]; exact hhn, HL.out, HU.out⟩
      by_cases hnn : lo < n
      · have hj : lo < L.length := by rw [← HN.out]; exact hnn
        obtain ⟨x, hx⟩ : ∃ x, x = L[lo] := ⟨_, rfl⟩
        have hx' := nat_len hj
        rw [← hx] at hx'
        obtain ⟨b, o, e, -, c0, c1⟩ := RdK.pair (HH.out.kept HB.out) hx'
        subst e
        have HX := Lib.hid hx'
        have cC := fun w => Lib.hid (cmpKey_any x key w)
        clear hx hx' hj
        by_cases hz : cmpB x.1 key = 0
        · have HF : Hid (∃ m, L[lo]? = some m ∧ m.1 = key) := ⟨x, HX.out, cmpB_zero hz⟩
          generalize cmpB x.1 key = z at *
          go_wp2_with (go_at_call 68; refine (cC _).out.mono ?_; rintro e w' ⟨rfl, hb⟩)
          have HB2 := Lib.hid (HB.out.trans (hb.mono HB.out.size))
          exact bodyPost_ret (v := .tuple #[.int .i64 (lo : Int), .bool true]) (by simp [results, Try.results67, go_sem]) rfl ⟨⟨lo, true, rfl, HP.out, by simpa using HF.out⟩, HB2.out⟩
        · have HF : Hid (¬ ∃ m, L[lo]? = some m ∧ m.1 = key) := fun ⟨m, h1, h2⟩ => hz (by
            rw [HX.out] at h1
            cases h1
            rw [h2]
            exact cmpB_self key)
          have hd : decide (cmpB x.1 key = 0) = false := by simpa using hz
          generalize cmpB x.1 key = z at *
          go_wp2_with (go_at_call 68; refine (cC _).out.mono ?_; rintro e w' ⟨rfl, hb⟩)
          have HB2 := Lib.hid (HB.out.trans (hb.mono HB.out.size))
          exact bodyPost_ret (v := .tuple #[.int .i64 (lo : Int), .bool false]) (by simp [results, Try.results67, go_sem, hz]) rfl ⟨⟨lo, false, rfl, HP.out, by simpa using HF.out⟩, HB2.out⟩
      · have HF : Hid (¬ ∃ m, L[lo]? = some m ∧ m.1 = key) := fun ⟨m, h1, _⟩ => hnn (by
          have := (List.getElem?_eq_some_iff.1 h1).1
          rw [HN.out]
          exact this)
        have hge : n ≤ lo := by omega
        have hd : decide ((lo : Int) < (n : Int)) = false := by simp; omega
        clear hnn hlt
        go_wp2_with fail
        exact bodyPost_ret (v := .tuple #[.int .i64 (lo : Int), .bool false]) (by simp [results, Try.results67, go_sem]) rfl ⟨⟨lo, false, rfl, HP.out, by simpa using HF.out⟩, HB.out⟩
set_option maxRecDepth 100000 in
set_option maxHeartbeats 2000000 in
theorem place_any {W : World} {A : Option Addr} {c : Nat} {L : List Pr} (h : PL W A L) (key : ByteArray) (hr : PRi L) (hl : L.length ≤ 1048576) : Calls Try.prog 58 #[.slice A L.length c, .string key] W fun e w' => (∃ (p : Nat) (b : Bool), e = .returned (.tuple #[.int .i64 (p : Int), .bool b]) ∧ Lb L key p ∧ (b = true ↔ ∃ m, L[p]? = some m ∧ m.1 = key)) ∧ Below W.heap.size W w' := by
  have cS := Lib.hid (search_any (c := c) h key hr hl)
  clear h
  generalize L.length = n at *
  go_enter Try.func58, Try.ntmps58
  go_wp2_with (go_at_call 67; refine cS.out.mono ?_; rintro e w' ⟨⟨p, b, rfl, h1, h2⟩, hb⟩)
  exact bodyPost_ret (v := .tuple #[.int .i64 (p : Int), .bool b]) (by simp [results, Try.results58, go_sem]) rfl ⟨⟨p, b, rfl, h1, h2⟩, hb⟩
/-- those within lie together -/
structure Cut (P : Pr → Bool) (L : List Pr) (p q : Nat) : Prop where
  pq : p ≤ q
  le : q ≤ L.length
  ahead : ∀ (i : Nat) (m : Pr), i < p → L[i]? = some m → P m = false
  inn : ∀ (i : Nat) (m : Pr), p ≤ i → i < q → L[i]? = some m → P m = true
  behind : ∀ (i : Nat) (m : Pr), q ≤ i → L[i]? = some m → P m = false
theorem Lb.cut_top {L : List Pr} {lo hi : ByteArray} {p : Nat} (h : Lb L lo p) : Cut (fun m => inB lo hi true m.1) L p L.length :=
  ⟨h.le, Nat.le_refl _, fun i m hi hm => by
    have := h.lo i m hi hm
    rw [cmpB_neg] at this
    simp [inB]
    omega, fun i m hi _ hm => by
    have := h.hi i m hi hm
    rw [cmpB_neg] at this
    simp [inB]
    omega, fun i m hi hm => by
    have := (List.getElem?_eq_some_iff.1 hm).1
    omega⟩
theorem Lb.cut {L : List Pr} {lo hi : ByteArray} {p q r : Nat} (h : Lb L lo p) (k : Lb L hi r) (hq : q = if p < r then r else p) : Cut (fun m => inB lo hi false m.1) L p q := by
  have h1 := h.le
  have h2 := k.le
  have hz : q = p ∧ r ≤ p ∨ q = r ∧ p < r := by
    by_cases hpr : p < r
    · rw [if_pos hpr] at hq
      exact .inr ⟨hq, hpr⟩
    · rw [if_neg hpr] at hq
      exact .inl ⟨hq, by omega⟩
  clear hq
  refine ⟨by omega, by omega, fun i m hi hm => ?_, fun i m hi hi2 hm => ?_, fun i m hi hm => ?_⟩
  · have h3 := h.lo i m hi hm
    have h4 := cmpB_neg lo m.1
    simp [inB]
    omega
  · have h3 := h.hi i m hi hm
    have h4 := cmpB_neg lo m.1
    have h5 := k.lo i m (by omega) hm
    simp [inB]
    omega
  · have h5 := k.hi i m (by omega) hm
    simp [inB]
    omega
end Lf
end Go.Proofs.Ytlabbmfiecbigaa

namespace Go.Proofs.Ytlabbmfiecbigaa
open Go.RowKit
namespace Lf
open Mem Lx Bu
set_option maxRecDepth 100000 in
set_option maxHeartbeats 2000000 in
set_option maxRecDepth 100000 in
theorem CloneM_any {W : World} {A : Option Addr} {c : Nat} {L : List Mg} (h : ML W A L) (hl : L.length ≤ 1048576) : Calls Try.prog 42 #[.slice A L.length c] W fun e w' => (∃ A' c', e = .returned (.slice A' L.length c') ∧ M3 w' W.heap.size A' c' L) ∧ Below W.heap.size W w' := by
  have hq := fun (w : World) (a : Option Addr) (n c n' c' : Nat) => Lib.run_eql_slice_nil (P := Try.prog) w 26 _ a n c n' c' Try.underlying26
  cases A with
  | none =>
    obtain rfl : L = [] := List.length_eq_zero_iff.1 (Nat.eq_zero_of_not_pos fun h0 => by
      obtain ⟨b, o, e, _⟩ := h h0
      cases e)
    go_enter Try.func42, Try.ntmps42
    go_wp2_with fail
    go_ret
    exact ⟨⟨none, 0, rfl, VK.nil _ _⟩, Below.refl _ _⟩
  | some a =>
    have HH := Lib.hid h
    generalize hn : L.length = n at *
    have HN := Lib.hid hn
    clear h hn
    go_enter Try.func42, Try.ntmps42
    go_upto_region 3 with fail
    have hb : Below W.heap.size W (W.alloc (.cells #[] 45)) := (Below.refl _ _).alloc (Nat.le_refl _) _
    have HV0 : Hid (M3 (W.alloc (.cells #[] 45)) W.heap.size (some ⟨W.heap.size, 0, none⟩) 0 []) := VK.lit (K := MgK) W W.heap.size (Nat.le_refl _)
    have HAL := Lib.hid (HH.out.kept hb)
    have hs := hb.size
    have hn2 : 0 + n ≤ 1048576 := by omega
    have HB := Lib.hid hb
    clear hb HH
    go_wp2_with (with_reducible refine wpList_append_allK (K := MgK) Try.underlying26 mginfo rfl (by decide) (by decide) rfl (.tmp 5) (.tmp 6) rfl W.heap.size (some ⟨W.heap.size, 0, none⟩) 0 0 [] rfl rfl HV0.out (some a) n c L rfl HN.out HAL.out hn2 hs ?_; intro Aw cw w4 hv4 hb4)
    go_ret
    exact ⟨⟨Aw, cw, rfl, hv4.out⟩, HB.out.trans hb4.out⟩
end Lf
end Go.Proofs.Ytlabbmfiecbigaa



namespace Go.Proofs.Ytlabbmfiecbigaa
open Go.RowKit
namespace Lf
open Mem Lx Bu
set_option maxRecDepth 100000 in
set_option maxHeartbeats 4000000 in
theorem RCut_pairs {W : World} {A : Option Addr} {c : Nat} {L : List Pr} (h : PL W A L) (key : ByteArray) (hl : L.length ≤ 400000) : Calls Try.prog 50 #[.slice A L.length c, .string key] W fun e w' => (∃ A' c', e = .returned (.slice A' (cutP L key).length c') ∧ P3 w' W.heap.size A' c' (cutP L key)) ∧ Below W.heap.size W w' := by
  obtain ⟨n, hn⟩ : ∃ n, n = L.length := ⟨_, rfl⟩
  have HN := Lib.hid hn
  have HH := Lib.hid h
  rw [← hn] at hl ⊢
  clear h hn
  go_enter Try.func50, Try.ntmps50
  go_upto_region 2 with fail
  have HV0 : Hid (P3 (W.alloc (.cells #[] 47)) W.heap.size (some ⟨W.heap.size, 0, none⟩) 0 []) := VK.lit (K := PrK) W W.heap.size (Nat.le_refl _)
  have HB0 : Hid (Below W.heap.size W (W.alloc (.cells #[] 47))) := (Below.refl _ _).alloc (Nat.le_refl _) _
  generalize W.alloc (.cells #[] 47) = w2 at *
  go_wp2_with fail
  go_loopg [5, 6] n (fun gk bv iv wr => ∃ (k j c' : Nat) (A' : Option Addr) (O : List Pr), k ≤ n ∧ gk = n - k ∧ iv = .int .i64 (k : Int) ∧ bv = .slice A' j c' ∧ j ≤ k ∧ Hid (cutP (L.take k) key = O) ∧ Hid (O.length = j) ∧ Hid (P3 wr W.heap.size A' c' O) ∧ Hid (Below W.heap.size W wr))
  case atStart => exact ⟨0, 0, 0, _, [], Nat.zero_le _, rfl, rfl, rfl, Nat.le_refl _, rfl, rfl, HV0, HB0⟩
  case round =>
    obtain ⟨k, j, c', A', O, hk, rfl, rfl, rfl, hj, HR, HM, HV, HB⟩ := hrel
    clear HV0 HB0
    by_cases hlt : k < n
    · have hkL : k < L.length := by rw [← HN.out]; exact hlt
      obtain ⟨x, hxx⟩ : ∃ x, x = L[k] := ⟨_, rfl⟩
      have hx' := nat_len hkL
      rw [← hxx] at hx'
      have HS := Lib.hid (cutP_next (key := key) hx')
      obtain ⟨b, o, e, -, c0, c1⟩ := RdK.pair (HH.out.kept HB.out) hx'
      subst e
      have hw2 : IntKind.i64.wrap ((k : Int) + 1) = ((k + 1 : Nat) : Int) := by rw [IntKind.wrap_i64]; omega
      have hm65 : j + 1 ≤ 1048576 := by omega
      clear hxx hx' hkL
      by_cases hke : x.1 = key
      · have HR2 : Hid (cutP (L.take (k + 1)) key = O) := by
          unfold Hid
          rw [HS.out, HR.out, if_pos hke, List.append_nil]
        rw [hke] at c0
        clear hke HS
        go_wp2_with fail
        go_roundg (n - (k + 1))
        case measure => omega
        case rel => exact ⟨k + 1, j, c', A', O, hlt, rfl, by go_num, rfl, by omega, HR2, HM, HV, HB⟩
      · have HR2 : Hid (cutP (L.take (k + 1)) key = O ++ [x]) := by
          unfold Hid
          rw [HS.out, HR.out, if_neg hke]
        have hq2 : (x.1.toList == key.toList) = false := by rw [ba_toList]; simpa using hke
        have hX : Below wr.heap.size wr (wr.alloc (.cells #[.string x.1, .string x.2] 47)) := (Below.refl _ _).alloc (Nat.le_refl _) _
        have hcl : Hid ((wr.alloc (.cells #[.string x.1, .string x.2] 47)).heap[wr.heap.size]? = some (.cells (PrK.cs x).toArray PrK.T (0, 0))) := heap_alloc_new wr _
        have HTX : Hid (P3 (wr.alloc (.cells #[.string x.1, .string x.2] 47)) W.heap.size A' c' O) := HV.out.kept hX
        have hBx : W.heap.size ≤ (wr.alloc (.cells #[.string x.1, .string x.2] 47)).heap.size := Nat.le_trans HB.out.size hX.size
        have HX2 := Lib.hid (hX.mono HB.out.size)
        clear hX hke HS HV
        go_wp2_with (with_reducible refine wpList_appendK (K := PrK) Try.underlying27 prinfo rfl (by decide) (by decide) rfl (.tmp 21) (.tmp 26) rfl W.heap.size A' j c' O rfl HM.out HTX.out wr.heap.size 1 x rfl hcl.out hm65 hBx ?_; intro A4 c4 w4 hd')
        go_roundg (n - (k + 1))
        case measure => omega
        case rel => exact ⟨k + 1, j + 1, c4, A4, O ++ [x], hlt, rfl, by go_num, rfl, by omega, HR2, by unfold Hid; rw [List.length_append, HM.out]; rfl, hd'.out.vo, (HB.out.trans HX2.out).trans hd'.out.below⟩
    · obtain rfl : k = n := by omega
      rw [List.take_of_length_le (by rw [← HN.out]; exact Nat.le_refl _)] at HR
      clear hlt
      go_wp2_with fail
      go_ret
      exact ⟨⟨A', c', by rw [HR.out, HM.out]; rfl, by rw [HR.out]; exact HV.out⟩, HB.out⟩
set_option maxRecDepth 100000 in
set_option maxHeartbeats 4000000 in
theorem RPut_pairs {W : World} {A : Option Addr} {c : Nat} {L : List Pr} (h : PL W A L) (key val : ByteArray) (hk : ∀ x, x ∈ L → x.1.size ≤ maxLen) (hl : L.length ≤ 400000) : Calls Try.prog 51 #[.slice A L.length c, .string key, .string val] W fun e w' => (∃ A' c', e = .returned (.slice A' (putP L key val).length c') ∧ P3 w' W.heap.size A' c' (putP L key val)) ∧ Below W.heap.size W w' := by
  have cC := Lib.hid (RCut_pairs (c := c) h key hl)
  have hCl := cutP_len L key
  have HCK : Hid (∀ x, x ∈ cutP L key → x.1.size ≤ maxLen) := fun x hx => hk x (mem_cutP.1 hx).1
  obtain ⟨C, hC⟩ : ∃ C, C = cutP L key := ⟨_, rfl⟩
  have HP : Hid (putP L key val = C.takeWhile (ahead key) ++ [(key, val)] ++ C.dropWhile (ahead key)) := by rw [hC]; rfl
  rw [← hC] at cC hCl HCK
  generalize putP L key val = R at *
  generalize hR : R.length = r
  have HRL := Lib.hid hR
  generalize hn : C.length = n at *
  have HN := Lib.hid hn
  have hn2 : n ≤ 400000 := Nat.le_trans hCl hl
  clear h hk hCl hC hR hn hl
  generalize L.length = l0 at *
  go_enter Try.func51, Try.ntmps51
  go_upto_region 2 with (go_at_call 50; refine cC.out.mono ?_; rintro e w1 ⟨⟨A1, c1, rfl, h1⟩, hb⟩)
  have HC1 := Lib.hid (VK.rc h1)
  have HB1 := Lib.hid hb
  have hnc : n ≤ c1 := by rw [← HN.out]; exact HC1.out.2
  clear h1 hb cC
  go_upto_block 0 with fail
  go_cut [7] (fun iv wx => ∃ p : Nat, p ≤ n ∧ iv = .int .i64 (p : Int) ∧ Hid (C.takeWhile (ahead key) = C.take p ∧ C.dropWhile (ahead key) = C.drop p) ∧ Hid (Below w1.heap.size w1 wx))
  case first =>
    go_wp2_with fail
    go_loopg [7] n (fun gk iv wr => ∃ k : Nat, k ≤ n ∧ gk = n - k ∧ iv = .int .i64 (k : Int) ∧ Hid (∀ (i : Nat) (x : Pr), i < k → C[i]? = some x → ahead key x = true) ∧ Hid (Below w1.heap.size w1 wr))
    case atStart => exact ⟨0, Nat.zero_le _, rfl, rfl, fun i x hi => absurd hi (Nat.not_lt_zero _), Below.refl _ _⟩
    case round =>
      obtain ⟨k, hk, rfl, rfl, HE, HB⟩ := hrel
      by_cases hlt : k < n
      · have hkL : k < C.length := by rw [HN.out]; exact hlt
        obtain ⟨x, hxx⟩ : ∃ x, x = C[k] := ⟨_, rfl⟩
        have hx' := nat_len hkL
        rw [← hxx] at hx'
        obtain ⟨b, o, e, -, c0, -⟩ := RdK.pair (HC1.out.1.kept HB.out) hx'
        subst e
        have HX := Lib.hid hx'
        have cX := fun w => Lib.hid (RCmp x.1 key (HCK.out x (List.mem_of_getElem? hx')) w)
        have hw2 : IntKind.i64.wrap ((k : Int) + 1) = ((k + 1 : Nat) : Int) := by rw [IntKind.wrap_i64]; omega
        clear hxx hx' hkL
        by_cases hz : cmpB x.1 key < 0
        · have HE2 : Hid (∀ (i : Nat) (x : Pr), i < k + 1 → C[i]? = some x → ahead key x = true) := fun i y hi hy => by
            by_cases e : i = k
            · subst e
              rw [HX.out] at hy
              cases hy
              simpa [ahead] using hz
            · exact HE.out i y (by omega) hy
          generalize cmpB x.1 key = z at *
          go_wp2_with (go_at_call 29; refine (cX _).out.mono ?_; rintro e w' ⟨rfl, hb⟩)
          have HB2 := Lib.hid (HB.out.trans (hb.mono HB.out.size))
          go_roundg (n - (k + 1))
          case measure => omega
          case rel => exact ⟨k + 1, hlt, rfl, by go_num, HE2, HB2⟩
        · have HW : Hid (C.takeWhile (ahead key) = C.take k ∧ C.dropWhile (ahead key) = C.drop k) := while_at (by rw [HN.out]; exact hk) HE.out fun y hy => by
            rw [HX.out] at hy
            cases hy
            simpa [ahead] using hz
          have hd : decide (cmpB x.1 key < 0) = false := by simpa using hz
          generalize cmpB x.1 key = z at *
          go_wp2_with (go_at_call 29; refine (cX _).out.mono ?_; rintro e w' ⟨rfl, hb⟩)
          have HB2 := Lib.hid (HB.out.trans (hb.mono HB.out.size))
          go_meet
          exact ⟨k, hk, rfl, HW, HB2⟩
      · have HW : Hid (C.takeWhile (ahead key) = C.take k ∧ C.dropWhile (ahead key) = C.drop k) := while_at (by rw [HN.out]; exact hk) HE.out fun y hy => by
          have := (List.getElem?_eq_some_iff.1 hy).1
          rw [HN.out] at this
          omega
        obtain rfl : k = n := by omega
        clear hlt
        go_wp2_with fail
        go_meet
        exact ⟨k, Nat.le_refl _, rfl, HW, HB⟩
  case rest =>
  obtain ⟨p, hp, rfl, HW, HB⟩ := hcut
  have HBW : Hid (Below W.heap.size W wc) := HB1.out.trans (HB.out.mono HB1.out.size)
  have HC2 := Lib.hid (HC1.out.kept HB.out)
  have r1 := fun w => run_upToP A1 n c1 p (by omega) w
  have r2 := fun w => run_cutP A1 n c1 p hp w
  have hX : Below wc.heap.size wc (wc.alloc (.cells #[] 47)) := (Below.refl _ _).alloc (Nat.le_refl _) _
  have HV0 : Hid (P3 (wc.alloc (.cells #[] 47)) wc.heap.size (some ⟨wc.heap.size, 0, none⟩) 0 []) := VK.lit (K := PrK) wc wc.heap.size (Nat.le_refl _)
  have HAL : Hid (PL (wc.alloc (.cells #[] 47)) A1 (C.take p)) := ((HC2.out.kept hX).upTo p).1
  have HTL : Hid ((C.take p).length = p) := by unfold Hid; rw [List.length_take, HN.out]; omega
  have hs := hX.size
  have hn3 : 0 + p ≤ 1048576 := by omega
  have HBX := Lib.hid hX
  clear hX HC1 HB
  go_upto_region 6 with (with_reducible refine wpList_append_allK (K := PrK) Try.underlying27 prinfo rfl (by decide) (by decide) rfl (.tmp 28) (.tmp 31) rfl wc.heap.size (some ⟨wc.heap.size, 0, none⟩) 0 0 [] rfl rfl HV0.out A1 p c1 (C.take p) rfl HTL.out HAL.out hn3 hs ?_; intro A5 c5 w5 hv5 hb5)
  have HB5 : Hid (Below wc.heap.size wc w5) := HBX.out.trans hb5.out
  have HV5 : Hid (P3 w5 wc.heap.size A5 c5 (C.take p)) := hv5.out
  clear hv5 hb5 hs HBX HV0 HAL hn3
  have hX : Below w5.heap.size w5 (w5.alloc (.cells #[.string key, .string val] 47)) := (Below.refl _ _).alloc (Nat.le_refl _) _
  have hcl : Hid ((w5.alloc (.cells #[.string key, .string val] 47)).heap[w5.heap.size]? = some (.cells (PrK.cs (key, val)).toArray PrK.T (0, 0))) := heap_alloc_new w5 _
  have HTX : Hid (P3 (w5.alloc (.cells #[.string key, .string val] 47)) wc.heap.size A5 c5 (C.take p)) := HV5.out.kept hX
  have hBx : wc.heap.size ≤ (w5.alloc (.cells #[.string key, .string val] 47)).heap.size := Nat.le_trans HB5.out.size hX.size
  have HX2 := Lib.hid (hX.mono HB5.out.size)
  have hm65 : p + 1 ≤ 1048576 := by omega
  clear hX HV5
  go_upto_region 7 with (with_reducible refine wpList_appendK (K := PrK) Try.underlying27 prinfo rfl (by decide) (by decide) rfl (.tmp 33) (.tmp 37) rfl wc.heap.size A5 p c5 (C.take p) rfl HTL.out HTX.out w5.heap.size 1 (key, val) rfl hcl.out hm65 hBx ?_; intro A6 c6 w6 hd6)
  have HB6 : Hid (Below wc.heap.size wc w6) := (HB5.out.trans HX2.out).trans hd6.out.below
  have HV6 : Hid (P3 w6 wc.heap.size A6 c6 (C.take p ++ [(key, val)])) := hd6.out.vo
  have HAD : Hid (PL w6 (cutK 2 A1 c1 p) (C.drop p)) := ((HC2.out.kept HB6.out).cut p).1
  have HL6 : Hid ((C.take p ++ [(key, val)]).length = p + 1) := by unfold Hid; rw [List.length_append, HTL.out]; rfl
  have HDL : Hid ((C.drop p).length = n - p) := by unfold Hid; rw [List.length_drop, HN.out]
  have hs6 := HB6.out.size
  have hn6 : (p + 1) + (n - p) ≤ 1048576 := by omega
  clear hd6 HX2 HTX hcl hBx hm65 HB5
  go_wp2_with (with_reducible refine wpList_append_allK (K := PrK) Try.underlying27 prinfo rfl (by decide) (by decide) rfl (.tmp 39) (.tmp 42) rfl wc.heap.size A6 (p + 1) c6 (C.take p ++ [(key, val)]) rfl HL6.out HV6.out (cutK 2 A1 c1 p) (n - p) (c1 - p) (C.drop p) rfl HDL.out HAD.out hn6 hs6 ?_; intro A7 c7 w7 hv7 hb7)
  have hR : R = C.take p ++ [(key, val)] ++ C.drop p := by rw [HP.out, HW.out.1, HW.out.2]
  have hr : p + 1 + (n - p) = r := by rw [← HRL.out, hR, List.length_append, HL6.out, HDL.out]
  have hv8 : P3 w7 W.heap.size A7 c7 R := by
    rw [hR]
    exact hv7.out.mono HBW.out.size
  subst hr
  go_ret
  exact ⟨⟨A7, c7, rfl, hv8⟩, HBW.out.trans ((HB6.out.trans hb7.out).mono HBW.out.size)⟩
/-- an answer in a row made since B -/
def EvPairs (B : Nat) (X : List Pr) (v : Value) (w : World) : Prop := ∃ A' c', v = .slice A' X.length c' ∧ P3 w B A' c' X
set_option maxRecDepth 100000 in
set_option maxHeartbeats 4000000 in
theorem RApply_row {W : World} {A A' : Option Addr} {c c' : Nat} {L : List Pr} {M : List Mg} (h : PC W A c L) (h' : ML W A' M) (hk : ∀ x, x ∈ L → x.1.size ≤ maxLen) (hm : ∀ m, m ∈ M → m.1.size ≤ maxLen) (hl : L.length + M.length ≤ 400000) : Calls Try.prog 23 #[.slice A L.length c, .slice A' M.length c'] W fun e w' => (∃ A2 c2, e = .returned (.slice A2 (applyP L M).length c2) ∧ PC w' A2 c2 (applyP L M) ∧ (0 < M.length → ∀ y : Addr, A2 = some y → W.heap.size ≤ y.block)) ∧ Below W.heap.size W w' := by
  have cCu := fun (L1 : List Pr) (A1 : Option Addr) (c1 : Nat) (W1 : World) (h1 : PL W1 A1 L1) (h2 : L1.length ≤ 400000) (key : ByteArray) => Lib.hid (RCut_pairs (c := c1) h1 key h2)
  have cPu := fun (L1 : List Pr) (A1 : Option Addr) (c1 : Nat) (W1 : World) (h1 : PL W1 A1 L1) (h2 : L1.length ≤ 400000) (h3 : ∀ x, x ∈ L1 → x.1.size ≤ maxLen) (key val : ByteArray) => Lib.hid (RPut_pairs (c := c1) h1 key val h3 h2)
  have HKY : Hid (∀ k x, x ∈ applyP L (M.take k) → x.1.size ≤ maxLen) := fun k => key_apply hk fun m hx => hm m (List.mem_of_mem_take hx)
  have HLE : Hid (∀ k, (applyP L (M.take k)).length ≤ 400000) := fun k => by
    have := applyP_len (M.take k) L
    rw [List.length_take] at this
    omega
  have HA := Lib.hid h
  have HM := Lib.hid h'
  generalize hn : M.length = n at *
  have HN := Lib.hid hn
  generalize hl0 : L.length = l0 at *
  have HL0 := Lib.hid hl0
  clear h h' hn hk hm hl0
  go_enter Try.func23, Try.ntmps23
  go_wp2_with fail
  go_loopg [0, 5] n (fun gk lv iv wr => ∃ (k j c1 : Nat) (A1 : Option Addr), k ≤ n ∧ gk = n - k ∧ iv = .int .i64 (k : Int) ∧ lv = .slice A1 j c1 ∧ Hid ((applyP L (M.take k)).length = j) ∧ Hid (PC wr A1 c1 (applyP L (M.take k))) ∧ Hid (Below W.heap.size W wr) ∧ Hid (0 < k → ∀ y : Addr, A1 = some y → W.heap.size ≤ y.block))
  case atStart => exact ⟨0, l0, c, A, Nat.zero_le _, rfl, rfl, rfl, HL0.out, HA.out, Below.refl _ _, fun h => absurd h (Nat.lt_irrefl _)⟩
  case round =>
    obtain ⟨k, j, c1, A1, hk, rfl, rfl, rfl, HJ, HC, HB, HF⟩ := hrel
    by_cases hlt : k < n
    · have hkL : k < M.length := by rw [HN.out]; exact hlt
      obtain ⟨x, hxx⟩ : ∃ x, x = M[k] := ⟨_, rfl⟩
      have hx' := nat_len hkL
      rw [← hxx] at hx'
      have HS := Lib.hid (applyP_next (L := L) hx')
      obtain ⟨b, o, e, -, c0, c1', c2'⟩ := RdK.msg (HM.out.kept HB.out) hx'
      subst e
      have hw2 : IntKind.i64.wrap ((k : Int) + 1) = ((k + 1 : Nat) : Int) := by rw [IntKind.wrap_i64]; omega
      clear hxx hx' hkL
      generalize hD : x.2.1 = dl at *
      cases dl with
      | true =>
        have HD : Hid (applyP L (M.take (k + 1)) = cutP (applyP L (M.take k)) x.1) := by
          unfold Hid
          rw [HS.out]
          unfold doP
          rw [if_pos hD]
        have cX := cCu _ A1 c1 wr HC.out.1 (HLE.out k) x.1
        rw [HJ.out, ← HD.out] at cX
        clear HS HD cCu cPu hD
        go_wp2_with (go_at_call 50; refine cX.out.mono ?_; rintro e w2 ⟨⟨A2, c2, rfl, h2⟩, hb⟩)
        go_roundg (n - (k + 1))
        case measure => omega
        case rel => exact ⟨k + 1, _, c2, A2, hlt, rfl, by go_num, rfl, rfl, VK.rc h2, HB.out.trans (hb.mono HB.out.size), fun _ y hy => Nat.le_trans HB.out.size (h2.at_ y hy).1⟩
      | false =>
        have HD : Hid (applyP L (M.take (k + 1)) = putP (applyP L (M.take k)) x.1 x.2.2) := by
          unfold Hid
          rw [HS.out]
          unfold doP
          rw [if_neg (by rw [hD]; exact Bool.false_ne_true)]
        have cX := fun (W1 : World) (hb : Below wr.heap.size wr W1) => cPu _ A1 c1 W1 (HC.out.1.kept hb) (HLE.out k) (HKY.out k) x.1 x.2.2
        rw [HJ.out, ← HD.out] at cX
        clear HS HD cCu cPu hD
        have z0 := fun q : Drift.Tide [] wr [] => Drift.Tide.cell c0 (by simp) q
        have z2 := fun q : Drift.Tide [] wr [] => Drift.Tide.cell c2' (by simp) q
        go_upto_region 6 with fail
        clear c0 c1' c2'
        refine Drift.wp_region_drift [] [(0,[]),(1,[]),(2,[]),(3,[]),(4,[]),(5,[]),(6,[]),(7,[]),(8,[]),(9,[]),(10,[]),(11,[]),(12,[])] [11] [] (by kernel_rfl) (by kernel_rfl) (by simp) ?_
        simp only [Drift.pick, Drift.opsAt, List.getElem?_toArray, List.getElem?_cons_zero, List.getElem?_cons_succ, List.cons_append, List.nil_append, List.filterMap_nil]
        repeat (refine Drift.walk_step (fun K hK => ?_); go_simp; (refine hK _ ?_; clear hK K))
        refine Drift.walk_event rfl Drift.mkwalk_nil (EvPairs W.heap.size (applyP L (M.take (k + 1)))) (fun W2 hb2 _ => ?_) (fun v w5 hv hI _ hTd => ?_)
        · go_simp
          go_at_call 51
          refine (cX W2 hb2).out.mono ?_
          rintro e w' ⟨⟨A2, c2, rfl, h2⟩, hb⟩
          exact ⟨_, rfl, ⟨A2, c2, rfl, h2.mono (Nat.le_trans HB.out.size hb2.size)⟩, Flow.Into.of_below hb⟩
        obtain ⟨A2, c2, rfl, h2⟩ := hv
        have HV := Lib.hid h2
        have HB5 : Hid (Below W.heap.size W w5) := HB.out.trans (hI.below.mono HB.out.size)
        clear h2 hI cX z0 z2
        repeat (refine Drift.walk_step (fun K hK => ?_); go_simp; (refine hK _ ?_; clear hK K))
        refine Drift.walk_nil ?_
        intro w6 hb6 _
        have HV6 := Lib.hid (VK.rc (HV.out.kept hb6))
        have HB6 : Hid (Below W.heap.size W w6) := HB5.out.trans (hb6.mono HB5.out.size)
        have HF6 : Hid (∀ y : Addr, A2 = some y → W.heap.size ≤ y.block) := fun y hy => (HV.out.at_ y hy).1
        clear hb6 hTd HV HB5 HB
        simp only [List.length_cons, List.length_nil, List.drop_succ_cons, List.drop_nil, Nat.zero_add, Nat.reduceAdd]
        go_wp2_with fail
        go_roundg (n - (k + 1))
        case measure => omega
        case rel => exact ⟨k + 1, _, c2, A2, hlt, rfl, by go_num, rfl, rfl, HV6.out, HB6.out, fun _ => HF6.out⟩
    · obtain rfl : k = n := by omega
      rw [List.take_of_length_le (by rw [HN.out]; exact Nat.le_refl _)] at HC HJ
      clear hlt
      go_wp2_with fail
      go_ret
      exact ⟨⟨A1, c1, by rw [HJ.out]; rfl, HC.out, HF.out⟩, HB.out⟩
theorem RApply_any {W : World} {A A' : Option Addr} {c c' : Nat} {L : List Pr} {M : List Mg} (h : PC W A c L) (h' : ML W A' M) (hk : ∀ x, x ∈ L → x.1.size ≤ maxLen) (hm : ∀ m, m ∈ M → m.1.size ≤ maxLen) (hl : L.length + M.length ≤ 400000) : Calls Try.prog 23 #[.slice A L.length c, .slice A' M.length c'] W fun e w' => (∃ A2 c2, e = .returned (.slice A2 (applyP L M).length c2) ∧ PC w' A2 c2 (applyP L M)) ∧ Below W.heap.size W w' := (RApply_row (c := c) (c' := c') h h' hk hm hl).mono fun _ _ ⟨⟨A2, c2, he, hv, _⟩, hb⟩ => ⟨⟨A2, c2, he, hv⟩, hb⟩
end Lf
end Go.Proofs.Ytlabbmfiecbigaa
