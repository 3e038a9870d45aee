/-
  slices.Sort of at most twelve numbers.
-/
import Derived.Test.YtjnbdmimflhhiaaUList
import Derived.Test.YtjnbdmimflhhiaaDrift
import Derived.StillTailTactics
import Derived.Deep.QuietTactic
import Derived.Deep.DeepCutAuto
import Derived.Deep.CutBlock
namespace Go.Proofs.Ytjnbdmimflhhiaa
open Go.RowKit
namespace So
open Mem Po

def Srt (l : List Nat) : Prop := l.Pairwise (· ≤ ·)
/-- at place j the number x is on its way down: what is ahead of place i is in order, but for x -/
def Ins (L l : List Nat) (i j : Nat) : Prop := ∃ A x B C, L = A ++ x :: (B ++ C) ∧ A.length = j ∧ j + B.length = i ∧ Srt (A ++ B) ∧ (∀ b, b ∈ B → x < b) ∧ L.Perm l
theorem ins_start {L l : List Nat} {i : Nat} (hi : i < L.length) (hs : Srt (L.take i)) (hp : L.Perm l) : Ins L l i i := by
  refine ⟨L.take i, L[i], [], L.drop (i + 1), ?_, by simp; omega, by simp, by simpa using hs, by simp, hp⟩
  simp
theorem srt_app {A B : List Nat} : Srt (A ++ B) ↔ Srt A ∧ Srt B ∧ ∀ a, a ∈ A → ∀ b, b ∈ B → a ≤ b := List.pairwise_append
theorem ins_zero {L l : List Nat} {i : Nat} (h : Ins L l i 0) : Srt (L.take (i + 1)) ∧ L.Perm l := by
  obtain ⟨A, x, B, C, rfl, hA, hi, hs, hx, hp⟩ := h
  obtain rfl : A = [] := List.eq_nil_of_length_eq_zero hA
  refine ⟨?_, hp⟩
  have e : ([] ++ x :: (B ++ C)).take (i + 1) = x :: B := by
    have hi : i = B.length := by omega
    simp [hi]
  rw [e]
  unfold Srt at hs ⊢
  rw [List.pairwise_cons]
  exact ⟨fun b hb => Nat.le_of_lt (hx b hb), by simpa using hs⟩
/-- the two neighbours -/
theorem ins_pair {L l : List Nat} {i k : Nat} (h : Ins L l i (k + 1)) : ∃ x y, L[k + 1]? = some x ∧ L[k]? = some y ∧ (y ≤ x → Srt (L.take (i + 1)) ∧ L.Perm l) ∧ (x < y → Ins ((L.set (k + 1) y).set k x) l i k) := by
  obtain ⟨A, x, B, C, rfl, hA, hi, hs, hx, hp⟩ := h
  have hne : A ≠ [] := by rintro rfl; simp at hA
  obtain ⟨A', y, rfl⟩ : ∃ A' y, A = A' ++ [y] := ⟨A.dropLast, A.getLast hne, (List.dropLast_concat_getLast hne).symm⟩
  have hk : A'.length = k := by simpa using hA
  subst hk
  refine ⟨x, y, by simp, by simp, fun hyx => ⟨?_, hp⟩, fun hxy => ?_⟩
  · have e : ((A' ++ [y]) ++ x :: (B ++ C)).take (i + 1) = (A' ++ [y]) ++ x :: B := by
      have e1 : (A' ++ [y]) ++ x :: (B ++ C) = ((A' ++ [y]) ++ x :: B) ++ C := by simp
      rw [e1, List.take_left' (by simp; omega)]
    rw [e]
    obtain ⟨h1, h2, h3⟩ := srt_app.1 hs
    refine srt_app.2 ⟨h1, ?_, fun a ha b hb => ?_⟩
    · unfold Srt at h2 ⊢
      rw [List.pairwise_cons]
      exact ⟨fun b hb => Nat.le_of_lt (hx b hb), h2⟩
    · rcases List.mem_cons.1 hb with rfl | hb
      · obtain ⟨g1, _, g3⟩ := srt_app.1 h1
        rcases List.mem_append.1 ha with ha | ha
        · exact Nat.le_trans (g3 a ha y (by simp)) hyx
        · obtain rfl : a = y := by simpa using ha
          exact hyx
      · exact h3 a ha b hb
  · have e : ((((A' ++ [y]) ++ x :: (B ++ C)).set (A'.length + 1) y).set A'.length x) = A' ++ x :: ((y :: B) ++ C) := by
      simp
    rw [e]
    refine ⟨A', x, y :: B, C, rfl, rfl, by simp; omega, by simpa using hs, fun b hb => ?_, ?_⟩
    · rcases List.mem_cons.1 hb with rfl | hb
      · exact hxy
      · exact hx b hb
    · refine List.Perm.trans ?_ hp
      simp only [List.append_assoc, List.cons_append]
      exact List.Perm.append_left A' (List.Perm.swap _ _ _)
set_option maxRecDepth 100000 in
theorem isNaN_any (x : Int) (w : World) : Calls Try.prog 110 #[.int .u32 x] w fun e w' => e = .returned (.bool false) ∧ w = w' := by
  go_enter Try.func110, Try.ntmps110
  go_wp2
  go_ret
  exact ⟨by simp, rfl⟩
set_option maxRecDepth 100000 in
theorem Less_any (x y : Int) (w : World) : Calls Try.prog 100 #[.int .u32 x, .int .u32 y] w fun e w' => e = .returned (.bool (decide (x < y))) ∧ w = w' := by
  have cN := fun x => Lib.hid (isNaN_any x w)
  go_enter Try.func100, Try.ntmps100
  go_wp2_with (go_at_call 110; refine (cN _).out.mono ?_; rintro e w' ⟨rfl, rfl⟩)
  all_goals go_ret
  all_goals exact ⟨by simp_all, rfl⟩
theorem below_drw (w : World) : Below w.heap.size w { w with drawn := w.drawn + 1 } := ⟨rfl, rfl, rfl, Nat.le_refl _, fun _ _ => rfl⟩
/-- between two rounds: what is ahead of place k is in order -/
structure OS (w wr : World) (g c : Nat) (l L : List Nat) (n k : Nat) : Prop where
  ow : Ow 23 wr g c (L.map u32V)
  so : Srt (L.take k)
  pm : L.Perm l
  hi : Flow.Into [g] w wr
  le : L.length = n
/-- within a round -/
structure IS (w wr : World) (g c : Nat) (l L : List Nat) (n i j : Nat) : Prop where
  ow : Ow 23 wr g c (L.map u32V)
  ins : Ins L l i j
  hi : Flow.Into [g] w wr
  le : L.length = n
section
variable {w wr w' : World} {g c n i j k : Nat} {l L : List Nat}
theorem IS.drawn (h : IS w wr g c l L n i j) : IS w { wr with drawn := wr.drawn + 1 } g c l L n i j := ⟨h.ow.kept (below_drw wr), h.ins, h.hi.trans (Flow.Into.of_below (below_drw wr)), h.le⟩
theorem below_dn (w : World) (m : Nat) : Below w.heap.size w (w.drewN m) := ⟨rfl, rfl, rfl, Nat.le_refl _, fun _ _ => rfl⟩
theorem IS.drew (h : IS w wr g c l L n i j) (m : Nat) : IS w (wr.drewN m) g c l L n i j := ⟨h.ow.kept (below_dn wr m), h.ins, h.hi.trans (Flow.Into.of_below (below_dn wr m)), h.le⟩
theorem OS.drew (h : OS w wr g c l L n i) (m : Nat) : OS w (wr.drewN m) g c l L n i := ⟨h.ow.kept (below_dn wr m), h.so, h.pm, h.hi.trans (Flow.Into.of_below (below_dn wr m)), h.le⟩
theorem OS.is (h : OS w wr g c l L n i) (hi : i < n) : IS w wr g c l L n i i := ⟨h.ow, ins_start (by rw [h.le]; exact hi) h.so h.pm, h.hi, h.le⟩
theorem IS.cell (h : IS w wr g c l L n i j) {a x : Nat} (hx : L[a]? = some x) : wr.cell? ⟨g, a, none⟩ = some (.int .u32 (x : Int)) := by
  obtain ⟨h1, h2⟩ := List.getElem?_eq_some_iff.1 hx
  rw [h.ow.cell (by simpa using h1)]
  simp [u32V, h2]
theorem IS.swap (h : IS w wr g c l L n i (k + 1)) {x y : Nat} (hs : Ins ((L.set (k + 1) y).set k x) l i k) : IS w ((wr.setCell ⟨g, k + 1, none⟩ (.int .u32 (y : Int))).setCell ⟨g, k, none⟩ (.int .u32 (x : Int))) g c l ((L.set (k + 1) y).set k x) n i k := by
  obtain ⟨o1, i1⟩ := h.ow.set (k + 1) (.int .u32 (y : Int))
  obtain ⟨o2, i2⟩ := o1.set k (.int .u32 (x : Int))
  refine ⟨?_, hs, (h.hi.trans i1).trans i2, by simpa using h.le⟩
  have e : ((L.map u32V).set (k + 1) (.int .u32 (y : Int))).set k (.int .u32 (x : Int)) = ((L.set (k + 1) y).set k x).map u32V := by
    rw [List.map_set, List.map_set]; rfl
  rw [← e]
  exact o2
end
set_option maxRecDepth 100000 in
theorem insert_any {w : World} {g c n : Nat} {l : List Nat} (h : Ow 23 w g c (l.map u32V)) (hl : l.length = n) (h1 : 1 ≤ n) (hn : n ≤ 1000) :
    Calls Try.prog 94 #[.slice (some ⟨g, 0, none⟩) n c, .int .i64 0, .int .i64 (n : Int)] w fun e w' => e = .returned (.tuple #[]) ∧ ∃ L, OS w w' g c l L n n := by
  have cL := fun x y w => Lib.hid (Less_any x y w)
  have H0 : Hid (OS w w g c l l n 1) := by
    refine ⟨h, ?_, List.Perm.refl _, Flow.Into.refl _ _, hl⟩
    cases l with
    | nil => simp [Srt]
    | cons x r => simp [Srt]
  clear h hl
  go_enter Try.func94, Try.ntmps94
  go_wp2_with fail
  go_loopg [6] (n - 1) (fun gk iv wr => ∃ (k : Nat) (L : List Nat), 1 ≤ k ∧ k ≤ n ∧ gk = n - k ∧ iv = .int .i64 (k : Int) ∧ Hid (OS w wr g c l L n k))
  case atStart => exact ⟨1, l, Nat.le_refl _, h1, rfl, rfl, H0⟩
  case round =>
    obtain ⟨k, L, k0, k1, rfl, rfl, HO⟩ := hrel
    clear H0
    by_cases hk : k < n
    · go_upto_block 1 with fail
      go_cut [6] (fun iv wx => iv = .int .i64 (k : Int) ∧ Hid (∃ L, OS w wx g c l L n (k + 1)))
      case first =>
        obtain ⟨wo, rfl⟩ : ∃ wo : World, wo = wr := ⟨_, rfl⟩
        have HI := Lib.hid (HO.out.is hk)
        clear HO
        go_wp2_with fail
        go_loopg [7] k (fun gk jv wx => ∃ (j : Nat) (L : List Nat), j ≤ k ∧ gk = j ∧ jv = .int .i64 (j : Int) ∧ Hid (IS w wx g c l L n k j))
        case atStart => exact ⟨k, L, Nat.le_refl _, rfl, rfl, HI⟩
        case round =>
          obtain ⟨_, L, hj, rfl, rfl, HS⟩ := hrel
          clear HI
          by_cases h0 : gk = 0
          · subst h0
            obtain ⟨z1, z2⟩ := ins_zero HS.out.ins
            have HZ : Hid (OS w wr g c l L n (k + 1)) := ⟨HS.out.ow, z1, z2, HS.out.hi, HS.out.le⟩
            clear z1 z2 HS hj
            go_upto_region 4 with fail
            go_quiet (fail)
            go_wp2_with fail
            go_meet
            exact ⟨rfl, L, HZ.out.drew _⟩
          · obtain ⟨k', hk'⟩ : ∃ k', gk = k' + 1 := ⟨gk - 1, by omega⟩
            have hins := HS.out.ins
            rw [hk'] at hins
            obtain ⟨x, y, hx, hy, hge, hlt⟩ := ins_pair hins
            rw [← hk'] at hx hlt
            have d1 := HS.out.cell hx
            have d2 := HS.out.cell hy
            have hb := (List.getElem?_eq_some_iff.1 hx).1
            rw [HS.out.le] at hb
            have hw1 : IntKind.i64.wrap ((gk : Int) - 1) = (k' : Int) := by rw [IntKind.wrap_i64]; omega
            have hg0 : 0 < gk := by omega
            have hk1 : k' < n := by omega
            have HK := Lib.hid hk'
            clear h0 hk' hins
            by_cases hxy : x < y
            · have hd : decide ((x : Int) < (y : Int)) = true := by simp; omega
              have cL' := fun w => Lib.hid (Less_any x y w)
              rw [hd] at cL'
              have HI := Lib.hid (hlt hxy)
              clear hge hlt
              go_upto_region 4 with fail
              go_quiet ((go_at_call 100; exact Calls.quiet_of_same ((cL' _).out.mono fun e w' ⟨he, hw⟩ => ⟨he, hw.symm⟩)))
              go_upto_region 6 with fail
              have HSQ := Lib.hid (HS.out.drew nq)
              clear HS d1 d2 cL' hd
              generalize wr.drewN nq = wq at *
              have e1 := HSQ.out.cell hx
              have e2 := HSQ.out.cell hy
              refine Drift.wp_region_drift_late [] [(0,[]),(1,[]),(2,[]),(3,[]),(4,[]),(5,[]),(6,[]),(7,[]),(8,[]),(9,[]),(10,[]),(11,[]),(12,[]),(13,[])] [] [] [2, 3, 4, 10, 11, 12] (by kernel_rfl) (by kernel_rfl) (by simp) ?_
              simp only [Drift.pick, Drift.opsAt, List.getElem?_toArray, List.getElem?_cons_zero, List.getElem?_cons_succ, List.cons_append, List.nil_append, List.filterMap_nil]
              have d1 := fun q : Drift.Tide [] wq [] => Drift.Tide.cell e1 (by simp) q
              have d2 := fun q : Drift.Tide [] wq [] => Drift.Tide.cell e2 (by simp) q
              clear e1 e2
              repeat (refine Drift.walk_step (fun K hK => ?_); go_simp; (refine hK _ ?_; clear hK K))
              refine Drift.walk_clear rfl (.slice (some ⟨g, 0, none⟩) n c) (fun W => by go_simp) ?_
              refine Drift.walk_clear rfl (.int .i64 gk) (fun W => by go_simp) ?_
              refine Drift.walk_clear rfl (.int .i64 k') (fun W => by go_simp) ?_
              repeat (refine Drift.walk_step (fun K hK => ?_); go_simp; (refine hK _ ?_; clear hK K))
              refine Drift.walk_clear rfl (.slice (some ⟨g, 0, none⟩) n c) (fun W => by go_simp) ?_
              refine Drift.walk_clear rfl (.int .i64 gk) (fun W => by go_simp) ?_
              refine Drift.walk_clear rfl (.pointer (some ⟨g, gk, none⟩)) (fun W => by go_simp) ?_
              repeat (refine Drift.walk_step (fun K hK => ?_); go_simp; (refine hK _ ?_; clear hK K))
              refine Drift.walk_nil ?_
              intro w6 hb6 _
              clear d1 d2
              have h6 : IS w w6 g c l L n k gk := ⟨HSQ.out.ow.kept hb6, HSQ.out.ins, HSQ.out.hi.trans (Flow.Into.of_below hb6), HSQ.out.le⟩
              have e1 := h6.cell hx
              have e2 := h6.cell hy
              have f1 := h6.ow.free gk
              have f2 := h6.ow.free k'
              have h7 : IS w ((w6.setCell ⟨g, gk, none⟩ (.int .u32 (y : Int))).setCell ⟨g, k', none⟩ (.int .u32 (x : Int))) g c l ((L.set gk y).set k' x) n k k' := by
                have hk' := HK.out
                subst hk'
                exact h6.swap HI.out
              have H7 := Lib.hid h7
              have hn1 : (g, gk) ≠ (g, k') := by
                have := HK.out
                intro e
                simp at e
                omega
              have hne : gk ≠ k' := by have := HK.out; omega
              have hne' : k' ≠ gk := by omega
              clear h6 h7 hb6 HSQ hn1
              simp only [List.length_cons, List.length_nil, List.drop_succ_cons, List.drop_zero, Nat.zero_add, Nat.reduceAdd]
              go_wp2_with fail
              rw [Flow.Nrm_normal]
              clear e1 e2 f1 f2
              generalize (w6.setCell ⟨g, gk, none⟩ (.int .u32 (y : Int))).setCell ⟨g, k', none⟩ (.int .u32 (x : Int)) = w7 at *
              go_wp2_with fail
              go_roundg k'
              case measure => have := HK.out; omega
              case rel => exact ⟨k', _, (by have := HK.out; omega), rfl, (by go_num), H7⟩
            · have hd : decide ((x : Int) < (y : Int)) = false := by simp; omega
              have cL' := fun w => Lib.hid (Less_any x y w)
              rw [hd] at cL'
              obtain ⟨z1, z2⟩ := hge (by omega)
              have HZ : Hid (OS w wr g c l L n (k + 1)) := ⟨HS.out.ow, z1, z2, HS.out.hi, HS.out.le⟩
              clear z1 z2 HS hge hlt hxy
              go_upto_region 4 with fail
              go_quiet ((go_at_call 100; exact Calls.quiet_of_same ((cL' _).out.mono fun e w' ⟨he, hw⟩ => ⟨he, hw.symm⟩)))
              go_wp2_with fail
              go_meet
              exact ⟨rfl, L, HZ.out.drew _⟩
      case rest =>
      obtain ⟨rfl, HC⟩ := hcut
      obtain ⟨L', HO'⟩ := HC.out
      have HO2 := Lib.hid HO'
      clear HC HO' HO
      have hw1 : IntKind.i64.wrap ((k : Int) + 1) = ((k + 1 : Nat) : Int) := by rw [IntKind.wrap_i64]; omega
      go_wp2_with fail
      go_roundg (n - (k + 1))
      case measure => omega
      case rel => exact ⟨k + 1, L', by omega, by omega, rfl, by go_num, HO2⟩
    · obtain rfl : k = n := by omega
      go_wp2_with fail
      go_end0
      exact ⟨rfl, L, HO.out⟩
set_option maxRecDepth 100000 in
theorem insert_nil {w : World} (c : Nat) : Calls Try.prog 94 #[.slice none 0 c, .int .i64 0, .int .i64 0] w fun e w' => e = .returned (.tuple #[]) ∧ w = w' := by
  go_enter Try.func94, Try.ntmps94
  go_wp2_with fail
  go_loopg [6] 0 (fun gk iv wr => gk = 0 ∧ iv = .int .i64 1 ∧ w = wr)
  case atStart => exact ⟨rfl, rfl, rfl⟩
  case round =>
    obtain ⟨rfl, rfl, rfl⟩ := hrel
    go_wp2_with fail
    go_end0
    exact ⟨rfl, rfl⟩
end So
end Go.Proofs.Ytjnbdmimflhhiaa
