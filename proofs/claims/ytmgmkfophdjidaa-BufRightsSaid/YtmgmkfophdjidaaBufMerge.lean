/-
  The code's buf: Merge.
-/
import Derived.Test.YtmgmkfophdjidaaBufSl
namespace Go.Proofs.Ytmgmkfophdjidaa
open Go.RowKit
namespace Mem
/-- append of one struct as an event of a region that draws its order -/
theorem evAt_appendK {α : Type} {K : Kind α} {P : Program} {SS : List Nat} {S : TypeId} {z : Value} {by_ : Nat} (hS : P.underlying S = some (.slice K.T)) (hinfo : (P.info? K.T).map (fun i => (i.zero, i.size, i.bytes)) = some (some z, K.k, by_)) (hz : z.cells.size = K.k) (hby : by_ ≤ 64) (hk : 0 < K.k)
    {w : World} {o : Oper} {a : Act} {V : Value → World → Prop} (s x : Operand)
    (ho : o.op = .call { callee := .builtin .append, args := #[s, x], argTypes := #[S, S] })
    (B : Nat) (A : Option Addr) (n c : Nat) (L : List α) (hs : a.eval s = .slice A n c) (hvn : L.length = n) (h : VK K w B A c L) (xb cx : Nat) (y : α) (hx : a.eval x = .slice (some ⟨xb, 0, none⟩) 1 cx) (hu : w.heap[xb]? = some (.cells (K.cs y).toArray K.T (0, 0))) (hn : n + 1 ≤ 1048576) (hB : B ≤ w.heap.size)
    (hSS : ∀ a, A = some a → a.block ∈ SS) (hh : ∀ A' c' w', AppdK K B w w' A A' c' (L ++ [y]) → V (.slice A' (n + 1) c') w') : Flow.evAt P SS o a w V := by
  subst hvn
  obtain ⟨A', c', w', hrun, hd⟩ := run_appendK hS hinfo hz hby o.type h xb cx y hu hn hk hB
  unfold Flow.evAt execOp
  simp only [ho, resolve, invoke, builtin, Sem.run_bind, Sem.run_pure, Result.andThen_ok, List.map_toArray, List.map_cons, List.map_nil, hs, hx, hrun]
  exact ⟨hh A' c' w' hd, hd.below.os, hd.below.tape, hd.below.output, hd.below.size, fun k hk hn => hd.block k hk fun a ha hak => hn (hak ▸ hSS a ha)⟩
theorem VK.blocks {α : Type} {K : Kind α} {w : World} {B c : Nat} {A : Option Addr} {L : List α} (h : VK K w B A c L) : ∃ S : List Nat, (∀ a, A = some a → a.block ∈ S) ∧ ∀ k, k ∈ S → B ≤ k ∧ k < w.heap.size := by
  cases A with
  | none => exact ⟨[], (fun a ha => by cases ha), (fun k hk => by cases hk)⟩
  | some x =>
    refine ⟨[x.block], (fun a ha => by cases ha; simp), fun k hk => ?_⟩
    obtain rfl : k = x.block := by simpa using hk
    exact h.at_ x rfl
end Mem
namespace Bu
open Mem Lx
theorem run_makeM (n : Nat) (hn : n ≤ 1048576) (w : World) : (Instr.makeSlice 22 (.int .i64 0) (.int .i64 (n : Int))).run Try.prog w = .ok (.slice (some ⟨w.heap.size, 0, none⟩) 0 n) (w.alloc (.cells (madeCells #[.string ⟨#[]⟩, .bool false, .string ⟨#[]⟩] (n * 3)) 28)) := by
  obtain ⟨i, hi, hz, hs, hb⟩ := info_parts mginfo
  have hr := run_make (P := Try.prog) w 22 28 i _ Try.underlying22 hi hz .i64 .i64 0 n (by omega) (by omega) (by rw [hb]; omega) (by omega)
  rw [hr, hs]
  rfl
theorem made3 (w : World) (n : Nat) (hn : n ≤ 1048576) : M3 (w.alloc (.cells (madeCells #[.string ⟨#[]⟩, .bool false, .string ⟨#[]⟩] (n * 3)) 28)) w.heap.size (some ⟨w.heap.size, 0, none⟩) n [] :=
  World.ownsRow_made (base := w.heap.size) (e := 28) (size := 3) w _ n (Nat.le_refl _) (by unfold maxLen; omega) (size_madeCells _ _)
/-- what an append within Merge leaves -/
def EvApM (W : World) (O : List Mg) (j : Nat) (v : Value) (w : World) : Prop := ∃ A' c', v = .slice A' j c' ∧ M3 w W.heap.size A' c' O ∧ Below W.heap.size W w
set_option maxRecDepth 100000 in
set_option maxHeartbeats 4000000 in
theorem Merge_any {W : World} {A A' : Option Addr} {c c' : Nat} {L M : List Mg} (h : MC W A c L) (h' : MC W A' c' M) (_ : ∀ m, m ∈ L → m.1.size ≤ 1000) (_ : ∀ m, m ∈ M → m.1.size ≤ 1000) (hr : Ri L) (hr' : Ri M) (hl : L.length ≤ 1000) (hm : M.length ≤ 1000) : Calls Try.prog 16 #[.slice A L.length c, .slice A' M.length c'] W fun e w' => (∃ A2 c2, e = .returned (.slice A2 (mergeD L M).length c2) ∧ ML w' A2 (mergeD L M) ∧ From W A' A2) ∧ Below W.heap.size W w' := by
  have HH := Lib.hid h
  have HH' := Lib.hid h'
  have HR := Lib.hid hr
  have HR' := Lib.hid hr'
  clear h h' hr hr'
  generalize hn : L.length = n at *
  generalize hm' : M.length = m at *
  obtain ⟨X, hX⟩ : ∃ X, X = mergeD L M := ⟨_, rfl⟩
  have HX := Lib.hid hX
  rw [← hX]
  generalize hN : X.length = N
  have HN := Lib.hid hn
  have HM := Lib.hid hm'
  have HXN := Lib.hid hN
  clear hn hm' hX hN
  have hmk : ∀ w, (Instr.makeSlice 22 (.int .i64 0) (.int .i64 ((n : Int) + (m : Int)))).run Try.prog w = .ok (.slice (some ⟨w.heap.size, 0, none⟩) 0 (n + m)) (w.alloc (.cells (madeCells #[.string ⟨#[]⟩, .bool false, .string ⟨#[]⟩] ((n + m) * 3)) 28)) := fun w => by
    have := run_makeM (n + m) (by omega) w
    rw [Int.natCast_add] at this
    exact this
  go_enter Try.func16, Try.ntmps16
  go_upto_block 0 with fail
  have HV0 := Lib.hid (made3 W (n + m) (by omega))
  have HB0 : Hid (Below W.heap.size W (W.alloc (.cells (madeCells #[.string ⟨#[]⟩, .bool false, .string ⟨#[]⟩] ((n + m) * 3)) 28))) := (Below.refl _ _).alloc (Nat.le_refl _) _
  generalize W.alloc (.cells (madeCells #[.string ⟨#[]⟩, .bool false, .string ⟨#[]⟩] ((n + m) * 3)) 28) = w1 at *
  obtain ⟨g, hg⟩ : ∃ g, g = W.heap.size := ⟨_, rfl⟩
  rw [← hg] at HV0 ⊢
  have HG := Lib.hid hg
  clear hg hmk
  go_cut [0, 1, 5] (fun nv ov bv wx => ∃ (A1 A2 A0 : Option Addr) (i1 i2 j c1 c2 c0 : Nat) (L1 M1 O : List Mg), nv = .slice A1 i1 c1 ∧ ov = .slice A2 i2 c2 ∧ bv = .slice A0 j c0 ∧ i1 + i2 + j ≤ 2000 ∧ Hid (L1.length = i1) ∧ Hid (M1.length = i2) ∧ Hid (O.length = j) ∧ Hid (ML W A1 L1) ∧ Hid (ML W A2 M1) ∧ Hid (O ++ L1 ++ M1 = X) ∧ Hid (M3 wx W.heap.size A0 c0 O) ∧ Hid (Below W.heap.size W wx))
  case first =>
    go_wp2_with fail
    go_loopg [0, 1, 5] (n + m) (fun gk nv ov bv wr => ∃ (A1 A2 A0 : Option Addr) (i1 i2 j c1 c2 c0 : Nat) (L1 M1 O : List Mg), nv = .slice A1 i1 c1 ∧ ov = .slice A2 i2 c2 ∧ bv = .slice A0 j c0 ∧ gk = i1 + i2 ∧ i1 + i2 + j ≤ 2000 ∧ Hid (L1.length = i1) ∧ Hid (M1.length = i2) ∧ Hid (O.length = j) ∧ Hid (MC W A1 c1 L1) ∧ Hid (MC W A2 c2 M1) ∧ Hid (Ri L1) ∧ Hid (Ri M1) ∧ Hid (O ++ mergeD L1 M1 = X) ∧ Hid (M3 wr W.heap.size A0 c0 O) ∧ Hid (Below W.heap.size W wr))
    case atStart => exact ⟨A, A', some ⟨g, 0, none⟩, n, m, 0, c, c', n + m, L, M, [], rfl, rfl, rfl, rfl, by omega, HN, HM, rfl, HH, HH', HR, HR', HX.out.symm, by rw [HG.out] at HV0; rw [HG.out]; exact HV0, HB0⟩
    case round =>
      obtain ⟨A1, A2, A0, i1, i2, j, c1, c2, c0, L1, M1, O, rfl, rfl, rfl, rfl, hj, HL1, HM1, HO, HA1, HA2, HR1, HR2, HE, HV, HB⟩ := hrel
      clear HV0 HB0
      rcases Nat.eq_zero_or_pos i1 with rfl | h1
      · have HE2 : Hid (O ++ L1 ++ M1 = X) := by
          obtain rfl : L1 = [] := List.eq_nil_of_length_eq_zero HL1.out
          have := HE.out
          unfold mergeD at this
          rw [List.foldl_nil] at this
          rw [List.append_nil]
          exact this
        go_wp2_with fail
        go_meet
        exact ⟨A1, A2, A0, 0, i2, j, c1, c2, c0, L1, M1, O, rfl, rfl, rfl, by omega, HL1, HM1, HO, HA1.out.1, HA2.out.1, HE2, HV, HB⟩
      rcases Nat.eq_zero_or_pos i2 with rfl | h2
      · have HE2 : Hid (O ++ L1 ++ M1 = X) := by
          obtain rfl : M1 = [] := List.eq_nil_of_length_eq_zero HM1.out
          have := HE.out
          rw [mergeD_none HR1.out] at this
          rw [List.append_nil]
          exact this
        go_wp2_with fail
        go_meet
        exact ⟨A1, A2, A0, i1, 0, j, c1, c2, c0, L1, M1, O, rfl, rfl, rfl, by omega, HL1, HM1, HO, HA1.out.1, HA2.out.1, HE2, HV, HB⟩
      --BODY
      obtain ⟨x, l, rfl⟩ : ∃ x l, L1 = x :: l := by
        cases L1 with
        | nil => have := HL1.out; rw [List.length_nil] at this; omega
        | cons x l => exact ⟨x, l, rfl⟩
      obtain ⟨y, mm, rfl⟩ : ∃ y mm, M1 = y :: mm := by
        cases M1 with
        | nil => have := HM1.out; rw [List.length_nil] at this; omega
        | cons y mm => exact ⟨y, mm, rfl⟩
      obtain ⟨b, o, e, hbW, -, -, -⟩ := RdK.msg (HA1.out.1) (i := 0) (m := x) rfl
      subst e
      obtain ⟨b', o', e', hbW', -, -, -⟩ := RdK.msg (HA2.out.1) (i := 0) (m := y) rfl
      subst e'
      obtain ⟨bb, oo, e, -, d0, d1, d2⟩ := RdK.msg (HA1.out.1.kept HB.out) (i := 0) (m := x) rfl
      obtain ⟨rfl, rfl⟩ : b = bb ∧ o = oo := by simpa using e
      clear e
      obtain ⟨bb, oo, e, -, e0, e1, e2⟩ := RdK.msg (HA2.out.1.kept HB.out) (i := 0) (m := y) rfl
      obtain ⟨rfl, rfl⟩ : b' = bb ∧ o' = oo := by simpa using e
      clear e
      rw [Nat.zero_mul, Nat.add_zero] at d0 d1 d2 e0 e1 e2
      have r1 : ∀ w, (Instr.slice 22 (.slice (some ⟨b, o, none⟩) i1 c1) (some (.int .i64 1)) none none).run Try.prog w = .ok (.slice (cutM (some ⟨b, o, none⟩) c1 1) (i1 - 1) (c1 - 1)) w := fun w => run_cutM (some ⟨b, o, none⟩) i1 c1 1 h1 w
      have r2 : ∀ w, (Instr.slice 22 (.slice (some ⟨b', o', none⟩) i2 c2) (some (.int .i64 1)) none none).run Try.prog w = .ok (.slice (cutM (some ⟨b', o', none⟩) c2 1) (i2 - 1) (c2 - 1)) w := fun w => run_cutM (some ⟨b', o', none⟩) i2 c2 1 h2 w
      have cC := fun w => Lib.hid (CCmp x.1 y.1 w)
      have z0 := fun q : Drift.Tide [] wr [] => Drift.Tide.cell d0 (by simp) q
      have x0 := fun q : Drift.Tide [] wr [] => Drift.Tide.cell e0 (by simp) q
      clear HR HR' HH HH'
      go_upto_region 3 with fail
      go_cut [6] (fun v wx => v = .int .i64 (cmpB x.1 y.1) ∧ Hid (Below wr.heap.size wr wx))
      case first =>
        clear d0 d1 d2 e0 e1 e2
        refine Drift.wp_region_drift [] [(0,[]),(1,[]),(2,[]),(3,[]),(4,[]),(5,[]),(6,[]),(7,[]),(8,[]),(9,[])] [] [] (by kernel_rfl) (by kernel_rfl) (by simp) ?_
        simp only [Drift.pick, Drift.opsAt, List.getElem?_toArray, List.getElem?_cons_zero, List.getElem?_cons_succ, List.cons_append, List.nil_append, List.filterMap_nil]
        repeat (refine Drift.walk_step (fun K hK => ?_); go_simp; first | (refine hK _ ?_; clear hK K) | (apply Exists.intro; refine ⟨fun q => ?_, hK _ ?_⟩; (go_at_call 24; exact (cC _).out); clear hK K))
        refine Drift.walk_nil ?_
        intro w9 hb9 _
        have HB9 : Hid (Below wr.heap.size wr w9) := hb9
        clear z0 x0 hb9 cC
        simp only [List.length_cons, List.length_nil, List.drop_succ_cons, List.drop_nil, Nat.zero_add, Nat.reduceAdd]
        go_wp2_with fail
        go_meet
        exact ⟨rfl, HB9⟩
      case rest =>
      obtain ⟨rfl, HB9⟩ := hcut
      replace HV := Lib.hid (HV.out.kept HB9.out)
      replace HB := Lib.hid (HB.out.trans (HB9.out.mono HB.out.size))
      clear z0 x0 cC d0 d1 d2 e0 e1 e2 HB9
      obtain ⟨bb, oo, e, -, d0, d1, d2⟩ := RdK.msg (HA1.out.1.kept HB.out) (i := 0) (m := x) rfl
      obtain ⟨rfl, rfl⟩ : b = bb ∧ o = oo := by simpa using e
      clear e
      obtain ⟨bb, oo, e, -, e0, e1, e2⟩ := RdK.msg (HA2.out.1.kept HB.out) (i := 0) (m := y) rfl
      obtain ⟨rfl, rfl⟩ : b' = bb ∧ o' = oo := by simpa using e
      clear e
      rw [Nat.zero_mul, Nat.add_zero] at d0 d1 d2 e0 e1 e2
      clear wr
      obtain ⟨wr, hwr⟩ : ∃ wr, wr = wc := ⟨_, rfl⟩
      subst hwr
      rcases Int.lt_trichotomy (cmpB x.1 y.1) 0 with hz | hz | hz
      · skip
        obtain ⟨S, hS1, hS2⟩ := VK.blocks HV.out
        have hnb : b ∉ S := fun hh => by
          have := (hS2 b hh).1
          omega
        have z0 := fun q : Drift.Tide S wr [] => Drift.Tide.cell d0 hnb q
        have z1 := fun q : Drift.Tide S wr [] => Drift.Tide.cell d1 hnb q
        have z2 := fun q : Drift.Tide S wr [] => Drift.Tide.cell d2 hnb q
        have HS1 := Lib.hid hS1
        have hj2 : j + 1 ≤ 1048576 := by omega
        have HJ2 := Lib.hid hj2
        have HE2 : Hid (O ++ [x] ++ mergeD l (y :: mm) = X) := by
          have := HE.out
          rw [mergeD_lt HR1.out HR2.out hz] at this
          rw [List.append_assoc]
          exact this
        have hz2 : cmpB x.1 y.1 < 0 := hz
        generalize cmpB x.1 y.1 = zz at *
        clear d0 d1 d2 e0 e1 e2 hnb hS1 hj2 hz
        go_upto_region 6 with fail
        refine Drift.wp_region_drift S [(0,[]),(1,[]),(2,[]),(3,[]),(6,[]),(7,[]),(4,[]),(5,[]),(8,[]),(9,[])] [5] [4] (by kernel_rfl) (by kernel_rfl) (fun k hk => (hS2 k hk).2) ?_
        clear hS2
        simp only [Drift.pick, Drift.opsAt, List.getElem?_toArray, List.getElem?_cons_zero, List.getElem?_cons_succ, List.cons_append, List.nil_append, List.filterMap_nil]
        repeat (refine Drift.walk_step (fun K hK => ?_); go_simp; (refine hK _ ?_; clear hK K))
        refine Drift.walk_make rfl Drift.mkwalk_nil (fun b => .slice (some ⟨b, 0, none⟩) 1 1) (.cells #[.string x.1, .bool x.2.1, .string x.2.2] 28) (fun W => by go_simp) (fun b1 hb1 hT1 => ?_)
        refine Drift.walk_event rfl Drift.mkwalk_nil (EvApM W (O ++ [x]) (j + 1)) (fun W2 hk hl2 => ?_) (fun v w5 hv hI _ hTd => ?_)
        · have hV2 := HV.out.kept hk
          refine evAt_appendK (K := MgK) Try.underlying22 mginfo rfl (by decide) (by decide) (.tmp 35) (.tmp 39) rfl W.heap.size A0 j c0 O rfl HO.out hV2 b1 1 x rfl (hl2 (b1, .cells #[.string x.1, .bool x.2.1, .string x.2.2] 28) (by simp)) HJ2.out (Nat.le_trans HB.out.size hk.size) HS1.out fun A' c' w' hd => ?_
          exact ⟨A', c', rfl, hd.vo, (HB.out.trans (hk.mono HB.out.size)).trans hd.below⟩
        obtain ⟨A5, c5, rfl, hv5, hb5⟩ := hv
        have HV5 := Lib.hid hv5
        have HB5 := Lib.hid hb5
        clear hI hv5 hb5
        repeat (refine Drift.walk_step (fun K hK => ?_); go_simp; (refine hK _ ?_; clear hK K))
        refine Drift.walk_nil ?_
        intro w6 hb6 _
        have HV6 := Lib.hid (HV5.out.kept hb6)
        have HB6 : Hid (Below W.heap.size W w6) := HB5.out.trans (hb6.mono HB5.out.size)
        clear hb6 HV5 HB5 hTd z0 z1 z2 hT1
        simp only [List.length_cons, List.length_nil, List.drop_succ_cons, List.drop_nil, Nat.zero_add, Nat.reduceAdd]
        go_wp2_with fail
        go_roundg (i1 - 1 + i2)
        case measure => omega
        case rel => exact ⟨_, _, A5, i1 - 1, i2, j + 1, c1 - 1, c2, c5, l, y :: mm, O ++ [x], rfl, rfl, rfl, rfl, by omega, by have := HL1.out; rw [List.length_cons] at this; unfold Hid; omega, HM1, by unfold Hid; rw [List.length_append, HO.out]; rfl, HA1.out.cut 1, HA2, (List.pairwise_cons.1 HR1.out).2, HR2, HE2, HV6, HB6⟩
      · have HE2 : Hid (O ++ mergeD (x :: l) mm = X) := by
          have := HE.out
          rw [mergeD_eq HR1.out HR2.out (cmpB_zero hz)] at this
          exact this
        generalize cmpB x.1 y.1 = zz at *
        subst hz
        clear d0 d1 d2 e0 e1 e2
        go_wp2_with fail
        go_roundg (i1 + (i2 - 1))
        case measure => omega
        case rel => exact ⟨_, _, A0, i1, i2 - 1, j, c1, c2 - 1, c0, x :: l, mm, O, rfl, rfl, rfl, rfl, by omega, HL1, by have := HM1.out; rw [List.length_cons] at this; unfold Hid; omega, HO, HA1, HA2.out.cut 1, HR1, (List.pairwise_cons.1 HR2.out).2, HE2, HV, HB⟩
      · skip
        obtain ⟨S, hS1, hS2⟩ := VK.blocks HV.out
        have hnb : b' ∉ S := fun hh => by
          have := (hS2 b' hh).1
          omega
        have z0 := fun q : Drift.Tide S wr [] => Drift.Tide.cell e0 hnb q
        have z1 := fun q : Drift.Tide S wr [] => Drift.Tide.cell e1 hnb q
        have z2 := fun q : Drift.Tide S wr [] => Drift.Tide.cell e2 hnb q
        have HS1 := Lib.hid hS1
        have hj2 : j + 1 ≤ 1048576 := by omega
        have HJ2 := Lib.hid hj2
        have HE2 : Hid (O ++ [y] ++ mergeD (x :: l) mm = X) := by
          have := HE.out
          rw [mergeD_gt HR1.out HR2.out (by have := cmpB_neg x.1 y.1; omega)] at this
          rw [List.append_assoc]
          exact this
        have hz2 : 0 < cmpB x.1 y.1 := hz
        generalize cmpB x.1 y.1 = zz at *
        clear d0 d1 d2 e0 e1 e2 hnb hS1 hj2 hz
        go_upto_region 8 with fail
        refine Drift.wp_region_drift S [(0,[]),(1,[]),(2,[]),(3,[]),(6,[]),(7,[]),(4,[]),(5,[]),(8,[]),(9,[])] [5] [4] (by kernel_rfl) (by kernel_rfl) (fun k hk => (hS2 k hk).2) ?_
        clear hS2
        simp only [Drift.pick, Drift.opsAt, List.getElem?_toArray, List.getElem?_cons_zero, List.getElem?_cons_succ, List.cons_append, List.nil_append, List.filterMap_nil]
        repeat (refine Drift.walk_step (fun K hK => ?_); go_simp; (refine hK _ ?_; clear hK K))
        refine Drift.walk_make rfl Drift.mkwalk_nil (fun b => .slice (some ⟨b, 0, none⟩) 1 1) (.cells #[.string y.1, .bool y.2.1, .string y.2.2] 28) (fun W => by go_simp) (fun b1 hb1 hT1 => ?_)
        refine Drift.walk_event rfl Drift.mkwalk_nil (EvApM W (O ++ [y]) (j + 1)) (fun W2 hk hl2 => ?_) (fun v w5 hv hI _ hTd => ?_)
        · have hV2 := HV.out.kept hk
          refine evAt_appendK (K := MgK) Try.underlying22 mginfo rfl (by decide) (by decide) (.tmp 46) (.tmp 50) rfl W.heap.size A0 j c0 O rfl HO.out hV2 b1 1 y rfl (hl2 (b1, .cells #[.string y.1, .bool y.2.1, .string y.2.2] 28) (by simp)) HJ2.out (Nat.le_trans HB.out.size hk.size) HS1.out fun A' c' w' hd => ?_
          exact ⟨A', c', rfl, hd.vo, (HB.out.trans (hk.mono HB.out.size)).trans hd.below⟩
        obtain ⟨A5, c5, rfl, hv5, hb5⟩ := hv
        have HV5 := Lib.hid hv5
        have HB5 := Lib.hid hb5
        clear hI hv5 hb5
        repeat (refine Drift.walk_step (fun K hK => ?_); go_simp; (refine hK _ ?_; clear hK K))
        refine Drift.walk_nil ?_
        intro w6 hb6 _
        have HV6 := Lib.hid (HV5.out.kept hb6)
        have HB6 : Hid (Below W.heap.size W w6) := HB5.out.trans (hb6.mono HB5.out.size)
        clear hb6 HV5 HB5 hTd z0 z1 z2 hT1
        simp only [List.length_cons, List.length_nil, List.drop_succ_cons, List.drop_nil, Nat.zero_add, Nat.reduceAdd]
        go_wp2_with fail
        go_roundg (i1 + (i2 - 1))
        case measure => omega
        case rel => exact ⟨_, _, A5, i1, i2 - 1, j + 1, c1, c2 - 1, c5, x :: l, mm, O ++ [y], rfl, rfl, rfl, rfl, by omega, HL1, by have := HM1.out; rw [List.length_cons] at this; unfold Hid; omega, by unfold Hid; rw [List.length_append, HO.out]; rfl, HA1, HA2.out.cut 1, HR1, (List.pairwise_cons.1 HR2.out).2, HE2, HV6, HB6⟩
      --END
  case rest =>
  clear HV0 HB0 HR HR' HH HH'
  obtain ⟨A1, A2, A0, i1, i2, j, c1, c2, c0, L1, M1, O, rfl, rfl, rfl, hj, HL1, HM1, HO, HA1, HA2, HE, HV, HB⟩ := hcut
  have HAL := Lib.hid (HA1.out.kept HB.out)
  have hn2 : j + i1 ≤ 1048576 := by omega
  have hs2 := HB.out.size
  go_upto_region 10 with (with_reducible refine wpList_append_allK (K := MgK) Try.underlying22 mginfo rfl (by decide) (by decide) rfl (.tmp 54) (.tmp 55) rfl W.heap.size A0 j c0 O rfl HO.out HV.out A1 i1 c1 L1 rfl HL1.out HAL.out hn2 hs2 ?_; intro A5 c5 w5 hv5 hb5)
  have HB5 : Hid (Below W.heap.size W w5) := HB.out.trans hb5.out
  have HAM := Lib.hid (HA2.out.kept HB5.out)
  have HO5 : Hid ((O ++ L1).length = j + i1) := by unfold Hid; rw [List.length_append, HO.out, HL1.out]
  have hn3 : (j + i1) + i2 ≤ 1048576 := by omega
  have hs3 := HB5.out.size
  clear hb5 HAL hs2 hn2 HB
  go_wp2_with (with_reducible refine wpList_append_allK (K := MgK) Try.underlying22 mginfo rfl (by decide) (by decide) rfl (.tmp 57) (.tmp 58) rfl W.heap.size A5 (j + i1) c5 (O ++ L1) rfl HO5.out hv5.out A2 i2 c2 M1 rfl HM1.out HAM.out hn3 hs3 ?_; intro A6 c6 w6 hv6 hb6)
  have hN6 : N = j + i1 + i2 := by rw [← HXN.out, ← HE.out, List.length_append, HO5.out, HM1.out]
  subst hN6
  have hv7 : M3 w6 W.heap.size A6 c6 X := by
    have := hv6.out
    rw [HE.out] at this
    exact this
  go_ret
  exact ⟨⟨A6, c6, rfl, hv7.rd, fun x hx => .inl (hv7.at_ x hx).1⟩, HB5.out.trans hb6.out⟩
end Bu
end Go.Proofs.Ytmgmkfophdjidaa
