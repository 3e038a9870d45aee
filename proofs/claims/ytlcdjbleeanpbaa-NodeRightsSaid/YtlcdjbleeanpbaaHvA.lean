/-
  Hvy HvyC HvyD HvyS HvyM, in one text. Written by merge.py.
-/
import Derived.Test.YtlcdjbleeanpbaaRowC
import Derived.Test.YtlcdjbleeanpbaaBox3
import Derived.Test.YtlcdjbleeanpbaaNodeK2
import Derived.Test.YtlcdjbleeanpbaaHeapP
import Derived.StillTailTactics
import Derived.Deep.QuietTactic
import Derived.Test.YtlcdjbleeanpbaaRowE
import Derived.Deep.DeepCutAuto
import Derived.Deep.CutBlock
import Derived.Test.YtlcdjbleeanpbaaHeapN

namespace Go.Proofs.Ytlcdjbleeanpbaa
open Go.RowKit
namespace No
open Mem Lx Bu Lf Fa Hp
/-- a kid with its load -/
def WtK (f : Nat → Nat) : Kind Nat := ⟨72, 2, fun k => [.int .i64 (k : Int), .int .i64 (f k : Int)], fun _ => rfl, fun m u hu => by
  simp only [List.mem_cons, List.not_mem_nil, or_false] at hu
  rcases hu with rfl | rfl <;> rfl⟩
theorem wtinfo : (Try.prog.info? 72).map (fun i => (i.zero, i.size, i.bytes)) = some (some (.agg #[.int .i64 0, .int .i64 0]), 2, 16) := by kernel_rfl
section
variable {f : Nat → Nat} {w w' : World} {A : Option Addr} {B c g i j : Nat} {L : List Nat} {x y : Nat}
theorem wt_cells (h : RdK (WtK f) w A L) (hx : L[i]? = some x) : ∃ b o, A = some ⟨b, o, none⟩ ∧ w.cell? ⟨b, o + i * 2, none⟩ = some (.int .i64 (x : Int)) ∧ w.cell? ⟨b, o + i * 2 + 1, none⟩ = some (.int .i64 (f x : Int)) := by
  obtain ⟨b, o, e, hl, hc⟩ := h (Nat.lt_of_le_of_lt (Nat.zero_le _) (List.getElem?_eq_some_iff.1 hx).1)
  have h0 := hc i x hx 0 (.int .i64 (x : Int)) rfl
  have h1 := hc i x hx 1 (.int .i64 (f x : Int)) rfl
  exact ⟨b, o, e, by simpa [WtK] using h0, by simpa [WtK, Nat.add_assoc] using h1⟩
theorem wt_own (h : VK (WtK f) w B A c L) (hx : L[i]? = some x) : ∃ g, A = some ⟨g, 0, none⟩ ∧ w.cell? ⟨g, i * 2, none⟩ = some (.int .i64 (x : Int)) ∧ w.cell? ⟨g, i * 2 + 1, none⟩ = some (.int .i64 (f x : Int)) := by
  obtain ⟨g, e, hc⟩ := h.cell hx
  exact ⟨g, e, hc 0 _ rfl, hc 1 _ rfl⟩
/-- a kid laid at place p -/
def stW (f : Nat → Nat) (w : World) (g p x : Nat) : World := (w.setCell ⟨g, p * 2, none⟩ (.int .i64 (x : Int))).setCell ⟨g, p * 2 + 1, none⟩ (.int .i64 (f x : Int))
theorem wt_flat {L : List Nat} {p x : Nat} (hp : p < L.length) : ((L.flatMap (WtK f).cs).set (p * 2) (.int .i64 (x : Int))).set (p * 2 + 1) (.int .i64 (f x : Int)) = (L.set p x).flatMap (WtK f).cs := by
  induction L generalizing p with
  | nil => simp at hp
  | cons y l ih =>
    cases p with
    | zero => simp [WtK]
    | succ p =>
      have h := ih (p := p) (by simpa using hp)
      have e : ∀ (q : Nat) (v : Value) (T : List Value), ((WtK f).cs y ++ T).set (p * 2 + 2 + q) v = (WtK f).cs y ++ T.set (p * 2 + q) v := fun q v T => by
        have hl : ((WtK f).cs y).length = 2 := rfl
        rw [List.set_append_right _ _ (by omega), hl]
        congr 2
        omega
      rw [List.flatMap_cons, List.set_cons_succ, List.flatMap_cons, ← h, show (p + 1) * 2 = p * 2 + 2 + 0 by omega, e 0, show p * 2 + 2 + 0 + 1 = p * 2 + 2 + 1 by omega, e 1, Nat.add_zero]
theorem wt_set (h : VK (WtK f) w B (some ⟨g, 0, none⟩) c L) {p : Nat} (hp : p < L.length) (x : Nat) : VK (WtK f) (stW f w g p x) B (some ⟨g, 0, none⟩) c (L.set p x) := by
  have h1 := (World.ownsRow.stored h (p * 2) (.int .i64 (x : Int))).1
  have h2 := (World.ownsRow.stored h1 (p * 2 + 1) (.int .i64 (f x : Int))).1
  rw [wt_flat hp] at h2
  unfold VK
  rw [List.length_set]
  exact h2
theorem into_set1 {g k : Nat} {S : List Nat} (w : World) (v : Value) (hg : g ∈ S) : Flow.Into S w (w.setCell ⟨g, k, none⟩ v) := ⟨rfl, rfl, rfl, by simp [World.setCell], fun i _ hn => Below.heap_setCell _ _ _ _ (fun e => hn (by rw [show i = g from e]; exact hg))⟩
theorem into_stW (w : World) (g p x : Nat) : Flow.Into [g] w (stW f w g p x) := (into_set1 w _ (by simp)).trans (into_set1 _ _ (by simp))
theorem swp_set {i j x y : Nat} (hx : L[i]? = some x) (hy : L[j]? = some y) : (L.set i y).set j x = swp L i j := by
  unfold swp
  rw [gt_some hx, gt_some hy]
end
/-- the heap in box b, its row of the call's own -/
structure Hv (f : Nat → Nat) (B b : Nat) (w : World) (A : Option Addr) (c : Nat) (L : List Nat) : Prop where
  box : w.heap[b]? = some (.cells #[.slice A L.length c] 86 (0, 0))
  row : VK (WtK f) w B A c L
  off : ∀ a, A = some a → a.block ≠ b
  bB : B ≤ b
section
variable {f : Nat → Nat} {w w' : World} {A : Option Addr} {B b c g i j : Nat} {L : List Nat} {x y : Nat}
theorem Hv.lt (h : Hv f B b w A c L) : b < w.heap.size := (Array.getElem?_eq_some_iff.1 h.box).1
theorem Hv.kept (h : Hv f B b w A c L) (hb : Below w.heap.size w w') : Hv f B b w' A c L := ⟨kept3 h.box hb, h.row.kept hb, h.off, h.bB⟩
theorem Hv.cell (h : Hv f B b w A c L) : w.cell? ⟨b, 0, none⟩ = some (.slice A L.length c) := by simp [World.cell?, h.box]
theorem Hv.free (h : Hv f B b w A c L) : w.frozen? ⟨b, 0, none⟩ = false := by simp [World.frozen?, h.box]
end
theorem hv_load {w : World} {b : Nat} {v : Value} (h : w.cell? ⟨b, 0, none⟩ = some v) : (loadVar 86 ⟨b, 0, none⟩).run Try.prog w = .ok v w := by
  have e : (loadVar 86 ⟨b, 0, none⟩).run Try.prog w = (load ⟨b, 0, none⟩).run Try.prog w := by kernel_rfl
  rw [e]
  simp [go_sem, h]
theorem hm_go {w : World} {b : Nat} {v : Value} (h : w.cell? ⟨b, 0, none⟩ = some v) (d : Nat) (nm : String) (F : FuncId) (sg : TypeId) (hi : (Try.prog.info? 68).map (fun i => i.methods.find? (·.name == nm)) = some (some ⟨nm, sg, #[], some (F, false)⟩)) : (method (d + 1) 68 (.pointer (some ⟨b, 0, none⟩)) nm).run Try.prog w = .ok (F, v) w := by
  cases hq : Try.prog.info? 68 with
  | none => rw [hq] at hi; cases hi
  | some i =>
    rw [hq] at hi
    have hm : i.methods.find? (fun x => x.name == nm) = _ := Option.some.inj hi
    have hr : ∀ w, (typeInfo 68).run Try.prog w = .ok i w := fun w => by simp [typeInfo, hq]
    have hu : ∀ w, (underlying 68).run Try.prog w = .ok (.pointer 86) w := fun _ => by kernel_rfl
    have hl := hv_load h
    have hw : ∀ (ts : Array TypeId) (t : TypeId) (s : String) (a : Addr), Builtin.ssaWrapNilChk_ ts t #[.pointer (some a), strVal "", strVal s] = pure (.pointer (some a)) := fun _ _ _ _ => rfl
    unfold method
    rw [Sem.run_bind, hr]
    simp only [Result.andThen_ok, hm, follow, Sem.run_bind, Sem.run_pure]
    simp [receiverAt, hu, Place.get, hw, asAddr, hl, Sem.run_bind]
theorem hm_len {w : World} {b : Nat} {v : Value} (h : w.cell? ⟨b, 0, none⟩ = some v) (d : Nat) : (method (d + 1) 68 (.pointer (some ⟨b, 0, none⟩)) "Len").run Try.prog w = .ok (46, v) w := hm_go h d "Len" _ 70 (by kernel_rfl)
theorem hm_less {w : World} {b : Nat} {v : Value} (h : w.cell? ⟨b, 0, none⟩ = some v) (d : Nat) : (method (d + 1) 68 (.pointer (some ⟨b, 0, none⟩)) "Less").run Try.prog w = .ok (112, v) w := hm_go h d "Less" _ 103 (by kernel_rfl)
theorem hm_swap {w : World} {b : Nat} {v : Value} (h : w.cell? ⟨b, 0, none⟩ = some v) (d : Nat) : (method (d + 1) 68 (.pointer (some ⟨b, 0, none⟩)) "Swap").run Try.prog w = .ok (115, v) w := hm_go h d "Swap" _ 97 (by kernel_rfl)
theorem hm_pop (x : Value) (d : Nat) (w : World) : (method (d + 1) 68 x "Pop").run Try.prog w = .ok (113, x) w := by kernel_rfl
theorem hm_push (x : Value) (d : Nat) (w : World) : (method (d + 1) 68 x "Push").run Try.prog w = .ok (114, x) w := by kernel_rfl
end No
end Go.Proofs.Ytlcdjbleeanpbaa

namespace Go.Proofs.Ytlcdjbleeanpbaa
open Go.RowKit
namespace No
open Mem Lx Bu Lf Fa Hp
theorem below_dnH (w : World) (m : Nat) : Below w.heap.size w (w.drewN m) := ⟨rfl, rfl, rfl, Nat.le_refl _, fun _ _ => rfl⟩
theorem HLen_any (A : Option Addr) (n c : Nat) (w : World) : Calls Try.prog 46 #[.slice A n c] w fun e w' => e = .returned (.int .i64 (n : Int)) ∧ w = w' := by
  go_enter Try.func46, Try.ntmps46
  go_wp2_with fail
  go_ret
  exact ⟨rfl, rfl⟩
section
variable {f : Nat → Nat} {w : World} {A : Option Addr} {B b c g i j : Nat} {L : List Nat} {x y : Nat}
set_option maxRecDepth 100000 in
theorem HLess_any (h : RdK (WtK f) w A L) (hx : L[i]? = some x) (hy : L[j]? = some y) : Calls Try.prog 112 #[.slice A L.length c, .int .i64 (i : Int), .int .i64 (j : Int)] w fun e w' => e = .returned (.bool (aheadN f x y)) ∧ Below w.heap.size w w' := by
  obtain ⟨b, o, e, c0, c1⟩ := wt_cells h hx
  subst e
  obtain ⟨b', o', e', d0, d1⟩ := wt_cells h hy
  obtain ⟨rfl, rfl⟩ : b = b' ∧ o = o' := by simpa using e'
  have hi := (List.getElem?_eq_some_iff.1 hx).1
  have hj := (List.getElem?_eq_some_iff.1 hy).1
  have hr : aheadN f x y = (decide (f y < f x) || (decide (f x = f y) && decide (x < y))) := rfl
  rw [hr]
  generalize L.length = n at *
  generalize f x = p at *
  generalize f y = q at *
  clear h hx hy hr e'
  by_cases hpq : p = q
  · subst hpq
    have hr : (decide (p < p) || (decide (p = p) && decide (x < y))) = decide (x < y) := by simp
    rw [hr]
    clear hr
    go_enter Try.func112, Try.ntmps112
    go_upto_region 1 with fail
    go_quiet (fail)
    go_upto_region 3 with fail
    have c0' : (w.drewN nq).cell? ⟨b, o + i * 2, none⟩ = _ := c0
    have d0' : (w.drewN nq).cell? ⟨b, o + j * 2, none⟩ = _ := d0
    go_quiet (fail)
    go_wp2_with fail
    go_ret
    exact ⟨rfl, bel3 (below_dnH _ _) (below_dnH _ _)⟩
  · have hne : ¬ ((p : Int) = (q : Int)) := by omega
    have hr : (decide (q < p) || (decide (p = q) && decide (x < y))) = decide (q < p) := by simp [hpq]
    rw [hr]
    clear hr hpq
    go_enter Try.func112, Try.ntmps112
    go_upto_region 1 with fail
    go_quiet (fail)
    go_upto_region 2 with fail
    have c0' : (w.drewN nq).cell? ⟨b, o + i * 2 + 1, none⟩ = _ := c1
    have d0' : (w.drewN nq).cell? ⟨b, o + j * 2 + 1, none⟩ = _ := d1
    go_quiet (fail)
    go_wp2_with fail
    go_ret
    exact ⟨rfl, bel3 (below_dnH _ _) (below_dnH _ _)⟩
set_option maxRecDepth 100000 in
theorem HSwap_any (h : VK (WtK f) w B A c L) (hx : L[i]? = some x) (hy : L[j]? = some y) : Calls Try.prog 115 #[.slice A L.length c, .int .i64 (i : Int), .int .i64 (j : Int)] w fun e w' => e = .returned (.tuple #[]) ∧ ∃ g, A = some ⟨g, 0, none⟩ ∧ VK (WtK f) w' B A c (swp L i j) ∧ Flow.Into [g] w w' := by
  obtain ⟨g, e, c0, c1⟩ := wt_own h hx
  subst e
  obtain ⟨g', e', d0, d1⟩ := wt_own h hy
  obtain rfl : g = g' := by simpa using e'
  have hi := (List.getElem?_eq_some_iff.1 hx).1
  have hj := (List.getElem?_eq_some_iff.1 hy).1
  have HV := Lib.hid h
  have HX := Lib.hid hx
  have HY := Lib.hid hy
  have HN : Hid (∃ n, n = L.length) := ⟨_, rfl⟩
  obtain ⟨n, hn⟩ := HN.out
  rw [← hn] at hi hj ⊢
  have x0 := fun t : Drift.Tide [] w [] => Drift.Tide.cell c0 (by simp) t
  have x1 := fun t : Drift.Tide [] w [] => Drift.Tide.cell c1 (by simp) t
  have y0 := fun t : Drift.Tide [] w [] => Drift.Tide.cell d0 (by simp) t
  have y1 := fun t : Drift.Tide [] w [] => Drift.Tide.cell d1 (by simp) t
  clear h hx hy hn e' c0 c1 d0 d1 HN
  go_enter Try.func115, Try.ntmps115
  refine Drift.wp_region_drift_late [] [(0,[]),(1,[]),(2,[]),(3,[]),(4,[]),(5,[]),(6,[]),(7,[]),(8,[]),(9,[]),(10,[]),(11,[]),(12,[])] [] [] [2, 3] (by kernel_rfl) (by kernel_rfl) (by simp) ?_
  simp only [Drift.pick, Drift.opsAt, List.getElem?_toArray, List.getElem?_cons_zero, List.getElem?_cons_succ, List.cons_append, List.nil_append, List.filterMap_nil]
  repeat (refine Drift.walk_step (fun K hK => ?_); go_simp; (refine hK _ ?_; clear hK K))
  refine Drift.walk_clear rfl (.slice (some ⟨g, 0, none⟩) n c) (fun W => by go_simp) ?_
  refine Drift.walk_clear rfl (.int .i64 j) (fun W => by go_simp) ?_
  repeat (refine Drift.walk_step (fun K hK => ?_); go_simp; (refine hK _ ?_; clear hK K))
  refine Drift.walk_nil ?_
  intro w6 hb6 _
  clear x0 x1 y0 y1
  have h6 := HV.out.kept hb6
  have f0 := fun k => World.ownsRow.frozenAt h6 k
  obtain ⟨g', e', c0, c1⟩ := wt_own h6 HX.out
  obtain rfl : g = g' := by simpa using e'
  obtain ⟨g', e'', d0, d1⟩ := wt_own h6 HY.out
  obtain rfl : g = g' := by simpa using e''
  have h7 : VK (WtK f) (stW f (stW f w6 g i y) g j x) B (some ⟨g, 0, none⟩) c (swp L i j) := by
    rw [← swp_set HX.out HY.out]
    exact wt_set (wt_set h6 (List.getElem?_eq_some_iff.1 HX.out).1 y) (by rw [List.length_set]; exact (List.getElem?_eq_some_iff.1 HY.out).1) x
  have hi7 : Flow.Into [g] w (stW f (stW f w6 g i y) g j x) := (Flow.Into.of_below hb6).trans ((into_stW _ _ _ _).trans (into_stW _ _ _ _))
  have H7 := Lib.hid h7
  have HI7 := Lib.hid hi7
  clear h6 h7 hi7 hb6 HV e' e''
  unfold stW at H7 HI7
  simp only [List.length_cons, List.length_nil, List.drop_succ_cons, List.drop_zero, Nat.zero_add, Nat.reduceAdd]
  by_cases hij : i = j
  · subst hij
    obtain rfl : x = y := by have := HX.out; have := HY.out; simp_all
    go_wp2_with fail
    rw [Flow.Nrm_normal]
    generalize (((w6.setCell ⟨g, i * 2, none⟩ (.int .i64 (x : Int))).setCell ⟨g, i * 2 + 1, none⟩ (.int .i64 (f x : Int))).setCell ⟨g, i * 2, none⟩ (.int .i64 (x : Int))).setCell ⟨g, i * 2 + 1, none⟩ (.int .i64 (f x : Int)) = w7 at *
    clear c0 c1 d0 d1 f0
    go_wp2_with fail
    go_end0
    exact ⟨rfl, g, rfl, H7.out, HI7.out⟩
  · have hji : ¬ j = i := fun e => hij e.symm
    have q1 : ¬ i * 2 + 1 = j * 2 := by omega
    have q2 : ¬ j * 2 + 1 = i * 2 := by omega
    have q3 : ¬ i * 2 = j * 2 + 1 := by omega
    have q4 : ¬ j * 2 = i * 2 + 1 := by omega
    go_wp2_with fail
    rw [Flow.Nrm_normal]
    generalize (((w6.setCell ⟨g, i * 2, none⟩ (.int .i64 (y : Int))).setCell ⟨g, i * 2 + 1, none⟩ (.int .i64 (f y : Int))).setCell ⟨g, j * 2, none⟩ (.int .i64 (x : Int))).setCell ⟨g, j * 2 + 1, none⟩ (.int .i64 (f x : Int)) = w7 at *
    clear c0 c1 d0 d1 f0
    go_wp2_with fail
    go_end0
    exact ⟨rfl, g, rfl, H7.out, HI7.out⟩
theorem Hv.store {v : Value} {n : Nat} {A' : Option Addr} {c' : Nat} {L' : List Nat} (hbox : w.heap[b]? = some (.cells #[v] 86 (0, 0))) (hv : VK (WtK f) w B A' c' L') (hn : L'.length = n) (hoff : ∀ a, A' = some a → a.block ≠ b) (hB : B ≤ b) : Hv f B b (w.setCell ⟨b, 0, none⟩ (.slice A' n c')) A' c' L' := by
  subst hn
  refine ⟨?_, hv.keep fun a ha => set_other _ (hoff a ha), hoff, hB⟩
  simp [World.setCell, Array.getElem?_modify, hbox]
/-- the block of its row -/
def rowS (A : Option Addr) : List Nat := A.toList.map (·.block)
theorem rowS_in {A : Option Addr} {a : Addr} (h : A = some a) : a.block ∈ rowS A := by subst h; simp [rowS]
theorem rowS_of {A : Option Addr} {k : Nat} (h : k ∈ rowS A) : ∃ a, A = some a ∧ a.block = k := by
  cases A with
  | none => simp [rowS] at h
  | some a => exact ⟨a, rfl, by simpa [rowS, eq_comm] using h⟩
theorem Hv.blocks (h : Hv f B b w A c L) : ∀ k, k ∈ rowS A → k < w.heap.size ∧ k ≠ b := fun k hk => by
  obtain ⟨a, ha, rfl⟩ := rowS_of hk
  exact ⟨(h.row.at_ a ha).2, h.off a ha⟩
/-- what an append to the heap's row leaves -/
def EvH (f : Nat → Nat) (W : World) (B b : Nat) (A : Option Addr) (u : Value) (L : List Nat) (n : Nat) (v : Value) (w5 : World) : Prop := ∃ A' c', v = .slice A' n c' ∧ VK (WtK f) w5 B A' c' L ∧ Flow.Into (b :: rowS A) W w5 ∧ (∀ a, A' = some a → a.block ≠ b) ∧ w5.heap[b]? = some (.cells #[u] 86 (0, 0)) ∧ ∀ a', A' = some a' → (∃ a, A = some a ∧ a'.block = a.block) ∨ W.heap.size ≤ a'.block
theorem as_wt (a b : Int) (w : World) : (Instr.typeAssert (.iface 72 (.agg #[.int .i64 a, .int .i64 b])) 20 72 true).run Try.prog w = .ok (.tuple #[.agg #[.int .i64 a, .int .i64 b], .bool true]) w := by kernel_rfl
set_option maxRecDepth 100000 in
set_option maxHeartbeats 2000000 in
theorem HPush_any (h : Hv f B b w A c L) (x : Nat) (hl : L.length ≤ 1000) (hB : B ≤ w.heap.size) : Calls Try.prog 114 #[.pointer (some ⟨b, 0, none⟩), .iface 72 (.agg #[.int .i64 (x : Int), .int .i64 (f x : Int)])] w fun e w' => e = .returned (.tuple #[]) ∧ (∃ A' c', Hv f B b w' A' c' (L ++ [x]) ∧ ∀ a', A' = some a' → (∃ a, A = some a ∧ a'.block = a.block) ∨ w.heap.size ≤ a'.block) ∧ Flow.Into (b :: rowS A) w w' := by
  go_enter Try.func114, Try.ntmps114
  have hta := fun w => as_wt (x : Int) (f x : Int) w
  have hb0 := h.lt
  have hb1 : Below w.heap.size w (w.alloc (.cells #[.int .i64 (x : Int), .int .i64 (f x : Int)] 72)) := (Below.refl _ _).alloc (Nat.le_refl _) _
  have hx1 := heap_alloc_new w (.cells #[.int .i64 (x : Int), .int .i64 (f x : Int)] 72)
  have h1 := h.kept hb1
  have HB1 : Hid (Below w.heap.size w (w.alloc (.cells #[.int .i64 (x : Int), .int .i64 (f x : Int)] 72))) := hb1
  have HBs : Hid (B ≤ (w.alloc (.cells #[.int .i64 (x : Int), .int .i64 (f x : Int)] 72)).heap.size) := Nat.le_trans hB hb1.size
  obtain ⟨n, hn⟩ : ∃ n, n = L.length := ⟨_, rfl⟩
  have HN : Hid (L.length = n) := hn.symm
  have hl1 : n + 1 ≤ 1048576 := by omega
  have hbB := h.bB
  have hS2 := h.blocks
  obtain ⟨S, hS⟩ : ∃ S, S = rowS A := ⟨_, rfl⟩
  have hS1 : ∀ a, A = some a → a.block ∈ S := fun a ha => by rw [hS]; exact rowS_in ha
  rw [← hS] at hS2
  have HSS := Lib.hid hS
  have hsz := hb1.size
  clear h hl hB hb1
  go_upto_region 1 with fail
  generalize w.alloc (.cells #[.int .i64 (x : Int), .int .i64 (f x : Int)] 72) = w1 at *
  obtain ⟨g, hg⟩ : ∃ g, g = w.heap.size := ⟨_, rfl⟩
  rw [← hg] at hx1 hb0
  simp only [← hg]
  have z0 : w1.cell? ⟨g, 0, none⟩ = some (.int .i64 (x : Int)) := by simp [World.cell?, hx1]
  have z1 : w1.cell? ⟨g, 1, none⟩ = some (.int .i64 (f x : Int)) := by simp [World.cell?, hx1]
  have zb := h1.cell
  rw [← hn] at zb
  have hbS : b ∉ S := fun hh => (hS2 b hh).2 rfl
  have hgS : g ∉ S := fun hh => by
    have := (hS2 g hh).1
    omega
  have hS3 : ∀ k, k ∈ S → k < w1.heap.size := fun k hk => Nat.lt_of_lt_of_le (hS2 k hk).1 hsz
  have HS1 := Lib.hid hS1
  have H1 := Lib.hid h1
  have y0 := fun q : Drift.Tide S w1 [] => Drift.Tide.cell z0 hgS q
  have y1 := fun q : Drift.Tide S w1 [] => Drift.Tide.cell z1 hgS q
  have yb := fun q : Drift.Tide S w1 [] => Drift.Tide.cell zb hbS q
  have HL1 := Lib.hid hl1
  have HBb := Lib.hid hbB
  clear z0 z1 zb hS2 hsz h1 hx1 hb0 hn hl1 hbB hS1 hbS hgS hg hS
  go_upto_region 2 with fail
  refine Drift.wp_region_drift S [(0,[]),(1,[]),(2,[]),(3,[]),(4,[]),(5,[]),(6,[])] [6] [5] (by kernel_rfl) (by kernel_rfl) hS3 ?_
  clear hS3
  simp only [Drift.pick, Drift.opsAt, List.getElem?_toArray, List.getElem?_cons_zero, List.getElem?_cons_succ, List.cons_append, List.nil_append, List.filterMap_nil]
  repeat (refine Drift.walk_step (fun K hK => ?_); go_simp; (refine hK _ ?_; clear hK K))
  refine Drift.walk_make rfl Drift.mkwalk_nil (fun b => .slice (some ⟨b, 0, none⟩) 1 1) (.cells #[.int .i64 (x : Int), .int .i64 (f x : Int)] 72) (fun W => by go_simp) (fun b1 hb1 hT1 => ?_)
  refine Drift.walk_event rfl Drift.mkwalk_nil (EvH f w B b A (.slice A n c) (L ++ [x]) (n + 1)) (fun W2 hk hl2 => ?_) (fun v w5 hv hI _ hTd => ?_)
  · have hV2 := H1.out.kept hk
    refine evAt_appendK (K := WtK f) Try.underlying86 wtinfo rfl (by decide) (show 0 < 2 by decide) (.tmp 15) (.tmp 17) rfl B A n c L rfl HN.out hV2.row b1 1 x rfl (hl2 (b1, .cells #[.int .i64 (x : Int), .int .i64 (f x : Int)] 72) (by simp)) HL1.out (Nat.le_trans HBs.out hk.size) HS1.out fun A' c' w' hd => ?_
    have hbl := hV2.lt
    have hkb : w'.heap[b]? = some (.cells #[.slice A n c] 86 (0, 0)) := by
      rw [hd.block b hbl hV2.off, hV2.box, HN.out]
    have hin : Flow.Into (b :: rowS A) W2 w' := ⟨hd.below.os, hd.below.tape, hd.below.output, hd.below.size, fun k hk hn => hd.block k hk fun a ha e => hn (List.mem_cons_of_mem _ (e ▸ rowS_in ha))⟩
    refine ⟨A', c', rfl, hd.vo, (Flow.Into.of_below HB1.out).trans ((Flow.Into.of_below hk).trans hin), fun a ha e => ?_, hkb, fun a' ha' => ?_⟩
    · rcases hd.row a ha with ⟨a0, h0, h2⟩ | h2
      · exact hV2.off a0 h0 (by rw [← h2, e])
      · rw [e] at h2
        omega
    · rcases hd.row a' ha' with h2 | h2
      · exact .inl h2
      · refine .inr ?_
        rw [h2]
        exact Nat.le_trans HB1.out.size hk.size
  obtain ⟨A5, c5, rfl, hv5, hb5, ho5, hx5, hr5⟩ := hv
  have HR5 := Lib.hid hr5
  have HV5 := Lib.hid hv5
  have HB5 := Lib.hid hb5
  have HX5 := Lib.hid hx5
  have HO5 := Lib.hid ho5
  clear hI hv5 hb5 hx5 ho5 hTd hr5
  refine Drift.walk_nil ?_
  intro w6 hb6 _
  have hx6 := kept3 HX5.out hb6
  have zb : w6.cell? ⟨b, 0, none⟩ = some (.slice A n c) := by simp [World.cell?, hx6]
  have zf : w6.frozen? ⟨b, 0, none⟩ = false := by simp [World.frozen?, hx6]
  have HH : Hid (Hv f B b (w6.setCell ⟨b, 0, none⟩ (.slice A5 (n + 1) c5)) A5 c5 (L ++ [x])) := Hv.store hx6 (HV5.out.kept hb6) (by rw [List.length_append, HN.out]; rfl) HO5.out HBb.out
  have HB7 : Hid (Flow.Into (b :: rowS A) w (w6.setCell ⟨b, 0, none⟩ (.slice A5 (n + 1) c5))) := (HB5.out.trans (Flow.Into.of_below hb6)).trans (into_set1 _ _ (by simp))
  clear hb6 HV5 HB5 HX5 HO5 y0 y1 yb hT1 hx6
  simp only [List.length_cons, List.length_nil, List.drop_succ_cons, List.drop_zero, Nat.zero_add, Nat.reduceAdd]
  go_wp2_with fail
  go_end0
  exact ⟨rfl, ⟨A5, c5, HH.out, HR5.out⟩, HB7.out⟩
end
end No
end Go.Proofs.Ytlcdjbleeanpbaa

namespace Go.Proofs.Ytlcdjbleeanpbaa
open Go.RowKit
namespace Mem
/-- its front: the same row, as fewer -/
theorem VK.upTo {α : Type} {K : Kind α} {w : World} {B c : Nat} {A : Option Addr} {L : List α} (h : VK K w B A c L) (m : Nat) (hm : m ≤ L.length) : VK K w B A c (L.take m) := by
  have hl : (L.take m).length = m := by simp; omega
  have e : (L.flatMap K.cs).take (m * K.k) = (L.take m).flatMap K.cs := by
    have e2 : L.flatMap K.cs = (L.take m).flatMap K.cs ++ (L.drop m).flatMap K.cs := by rw [← List.flatMap_append, List.take_append_drop]
    rw [e2, List.take_left' (by rw [K.all_len, hl])]
  obtain ⟨h1, h2⟩ := h
  unfold VK World.ownsRow
  rw [hl]
  refine ⟨by rw [K.all_len, hl], ?_⟩
  rcases h2 with ⟨he, h0⟩ | ⟨g, cap, cur, he, hB, hh, hn, hc, hs, ht⟩
  · obtain rfl : m = 0 := by omega
    refine .inl ⟨?_, rfl⟩
    simp only [Value.slice.injEq] at he ⊢
    exact ⟨he.1, trivial, he.2.2⟩
  · refine .inr ⟨g, cap, cur, ?_, hB, hh, by omega, hc, hs, ?_⟩
    · simp only [Value.slice.injEq] at he ⊢
      exact ⟨he.1, trivial, he.2.2⟩
    · rw [← e, ← ht, List.take_take, Nat.min_eq_left (Nat.mul_le_mul_right _ hm)]
end Mem
namespace No
open Mem Lx Bu Lf Fa Hp
section
variable {f : Nat → Nat} {w : World} {A : Option Addr} {B b c g i j n : Nat} {L : List Nat} {x y : Nat}
set_option maxRecDepth 100000 in
set_option maxHeartbeats 2000000 in
theorem HPop_any (h : Hv f B b w A c L) (hn : L.length = n + 1) (hx : L[n]? = some x) (hl : n ≤ 1000) : Calls Try.prog 113 #[.pointer (some ⟨b, 0, none⟩)] w fun e w' => e = .returned (.iface 72 (.agg #[.int .i64 (x : Int), .int .i64 (f x : Int)])) ∧ Hv f B b w' A c L.dropLast ∧ Flow.Into [b] w w' := by
  obtain ⟨g, e, c0, c1⟩ := wt_own h.row hx
  subst e
  have hw1 : IntKind.i64.wrap (((n + 1 : Nat) : Int) - 1) = (n : Int) := by rw [IntKind.wrap_i64]; omega
  have zb := h.cell
  rw [hn] at zb
  have hnc : n ≤ c := by have := h.row.rc.2; omega
  obtain ⟨N, hN⟩ : ∃ N, N = n + 1 := ⟨_, rfl⟩
  rw [← hN] at zb hw1
  have hnN : n < N := by omega
  have hk : Below w.heap.size w (w.alloc (.cells #[.int .i64 (x : Int), .int .i64 (f x : Int)] 72)) := (Below.refl _ _).alloc (Nat.le_refl _) _
  have hx1 := heap_alloc_new w (.cells #[.int .i64 (x : Int), .int .i64 (f x : Int)] 72)
  have h1 := h.kept hk
  have HB1 : Hid (Flow.Into [b] w (w.alloc (.cells #[.int .i64 (x : Int), .int .i64 (f x : Int)] 72))) := Flow.Into.of_below hk
  have hbl := h.lt
  have HN : Hid (L.length = N) := by rw [hN]; exact hn
  have HD : Hid (L.take n = L.dropLast) := by rw [List.dropLast_eq_take, hn]; rfl
  have HNN := Lib.hid hN
  have hbB := h.bB
  have hsl := fun (A : Option Addr) (w : World) => run_upToK (P := Try.prog) Try.underlying86 wtinfo A N c n hnc w
  clear h hk hn hx hN
  go_enter Try.func113, Try.ntmps113
  go_upto_region 3 with fail
  generalize w.alloc (.cells #[.int .i64 (x : Int), .int .i64 (f x : Int)] 72) = w1 at *
  obtain ⟨q, hq⟩ : ∃ q, q = w.heap.size := ⟨_, rfl⟩
  rw [← hq] at hx1 hbl
  simp only [← hq]
  have zb1 := h1.cell
  rw [HN.out] at zb1
  have zf1 := h1.free
  have h2 : Hv f B b (w1.setCell ⟨b, 0, none⟩ (.slice (some ⟨g, 0, none⟩) n c)) (some ⟨g, 0, none⟩) c (L.take n) := by
    have hu := h1.row.upTo n (by have := HN.out; have := HNN.out; omega)
    exact Hv.store h1.box hu (by rw [List.length_take]; have := HN.out; have := HNN.out; omega) h1.off hbB
  rw [HD.out] at h2
  have H2 := Lib.hid h2
  have hqb : q ≠ b := by omega
  have hx2 : (w1.setCell ⟨b, 0, none⟩ (.slice (some ⟨g, 0, none⟩) n c)).heap[q]? = _ := (set_other _ hqb).trans hx1
  have HB2 : Hid (Flow.Into [b] w (w1.setCell ⟨b, 0, none⟩ (.slice (some ⟨g, 0, none⟩) n c))) := HB1.out.trans (into_set1 _ _ (by simp))
  clear h1 h2 hq hx1 hbl hqb c0 c1 zb
  go_upto_region 4 with fail
  generalize w1.setCell ⟨b, 0, none⟩ (.slice (some ⟨g, 0, none⟩) n c) = w2 at *
  have z0 : w2.cell? ⟨q, 0, none⟩ = some (.int .i64 (x : Int)) := by simp [World.cell?, hx2]
  have z1 : w2.cell? ⟨q, 1, none⟩ = some (.int .i64 (f x : Int)) := by simp [World.cell?, hx2]
  clear zb1 zf1 hx2 hsl
  go_wp2_with fail
  go_ret
  exact ⟨rfl, H2.out, HB2.out⟩
end
end No
end Go.Proofs.Ytlcdjbleeanpbaa

namespace Go.Proofs.Ytlcdjbleeanpbaa
open Go.RowKit
namespace Hp
section
variable {α : Type} [Inhabited α]
/-- the same as a heap but at place j; and what is below j is not less than what is above it -/
structure Up (lt : α → α → Bool) (l : List α) (n j : Nat) : Prop where
  most : ∀ k, 0 < k → k < n → k ≠ j → lt (gt l k) (gt l ((k - 1) / 2)) = false
  over : 0 < j → ∀ k, 0 < k → k < n → (k - 1) / 2 = j → lt (gt l k) (gt l ((j - 1) / 2)) = false
variable {lt : α → α → Bool} {l : List α} {n j : Nat}
theorem gt_app {x : α} {k : Nat} (hk : k < l.length) : gt (l ++ [x]) k = gt l k := by
  unfold gt
  rw [List.getD_eq_getElem?_getD, List.getD_eq_getElem?_getD, List.getElem?_append_left hk]
theorem Up.start {x : α} (h : HpF lt l l.length 0) : Up lt (l ++ [x]) (l.length + 1) l.length := ⟨fun k h1 h2 h3 => by
  rw [gt_app (by omega), gt_app (by omega)]
  exact h k h1 (by omega) (Nat.zero_le _), fun h0 k h1 h2 h3 => by omega⟩
theorem Up.stop (h : Up lt l n j) (hj : j = 0 ∨ lt (gt l j) (gt l ((j - 1) / 2)) = false) : HpF lt l n 0 := fun k h1 h2 _ => by
  by_cases e : k = j
  · subst e
    rcases hj with hj | hj
    · omega
    · exact hj
  · exact h.most k h1 h2 e
theorem Up.step (ho : Ord lt) (h : Up lt l n j) (hn : n ≤ l.length) {i : Nat} (h0 : 0 < j) (hj : j < n) (hi : (j - 1) / 2 = i) (hlt : lt (gt l j) (gt l i) = true) : Up lt (swp l i j) n i := by
  have hij : i < j := by omega
  have G := gt_swp (l := l) (i := i) (j := j) (by omega) (by omega)
  have has := ho.asym _ _ hlt
  refine ⟨fun k h1 h2 h3 => ?_, fun h4 k h1 h2 h3 => ?_⟩
  · by_cases e : k = j
    · subst e
      rw [G, G, if_pos rfl, hi, if_neg (by omega), if_pos rfl]
      exact has
    · have hm := h.most k h1 h2 e
      by_cases e2 : (k - 1) / 2 = i
      · rw [e2] at hm
        rw [G, G, if_neg e, if_neg h3, e2, if_neg (by omega), if_pos rfl]
        exact ho.trans _ _ _ has hm
      · by_cases e3 : (k - 1) / 2 = j
        · rw [G, G, if_neg e, if_neg h3, if_pos e3, ← hi]
          exact h.over h0 k h1 h2 e3
        · rw [G, G, if_neg e, if_neg h3, if_neg e3, if_neg e2]
          exact hm
  · have hp := h.most i h4 (by omega) (by omega)
    rw [G ((i - 1) / 2), if_neg (by omega), if_neg (by omega)]
    by_cases e : k = j
    · rw [e, G, if_pos rfl]
      exact hp
    · rw [G, if_neg e, if_neg (by omega)]
      have hm := h.most k h1 h2 e
      rw [h3] at hm
      exact ho.trans _ _ _ hp hm
end
end Hp
namespace No
open Mem Lx Bu Lf Fa Hp
/-- the heap of kids L in box b: since W just the blocks of S were turned, the box and its row among them -/
def HS (f : Nat → Nat) (W : World) (S : List Nat) (b : Nat) (w : World) (L : List Nat) : Prop := (∃ A c, Hv f 0 b w A c L ∧ ∀ a, A = some a → a.block ∈ S ∨ W.heap.size ≤ a.block) ∧ Flow.Into S W w ∧ b ∈ S
/-- what is turned, but not in the blocks of S or in new ones -/
theorem into_of {S T : List Nat} {W w w' : World} (h : Flow.Into S W w) (k : Flow.Into T w w') (hT : ∀ y, y ∈ T → y ∈ S ∨ W.heap.size ≤ y) : Flow.Into S W w' :=
  ⟨k.os.trans h.os, k.tape.trans h.tape, k.output.trans h.output, Nat.le_trans h.size k.size, fun i hi hn => (k.block i (Nat.lt_of_lt_of_le hi h.size) fun hh => by
    rcases hT i hh with h2 | h2
    · exact hn h2
    · omega).trans (h.block i hi hn)⟩
section
variable {f : Nat → Nat} {W w w' : World} {b i j n x : Nat} {S L : List Nat}
theorem gt_get (h : i < L.length) : L[i]? = some (gt L i) := by rw [gt_eq h, List.getElem?_eq_getElem h]
theorem HS.kept (h : HS f W S b w L) (hb : Below w.heap.size w w') : HS f W S b w' L := by
  obtain ⟨⟨A, c, hv, ha⟩, hi, hs⟩ := h
  exact ⟨⟨A, c, hv.kept hb, ha⟩, hi.trans (Flow.Into.of_below hb), hs⟩
theorem HS.cell (h : HS f W S b w L) : ∃ A c, w.cell? ⟨b, 0, none⟩ = some (.slice A L.length c) := by
  obtain ⟨⟨A, c, hv, ha⟩, hi, hs⟩ := h
  exact ⟨A, c, hv.cell⟩
theorem HS.len (h : HS f W S b w L) : ∃ sv, (∀ d, (method (d + 1) 68 (.pointer (some ⟨b, 0, none⟩)) "Len").run Try.prog w = .ok (46, sv) w) ∧ Hid (Calls Try.prog 46 #[sv] w fun e w' => e = .returned (.int .i64 (L.length : Int)) ∧ HS f W S b w' L) := by
  have h' := h
  obtain ⟨⟨A, c, hv, _⟩, hb, hB⟩ := h'
  exact ⟨_, hm_len hv.cell, (HLen_any A L.length c w).mono fun e w' ⟨he, hw⟩ => ⟨he, hw ▸ h⟩⟩
theorem HS.less (h : HS f W S b w L) (hi : i < L.length) (hj : j < L.length) : ∃ sv, (∀ d, (method (d + 1) 68 (.pointer (some ⟨b, 0, none⟩)) "Less").run Try.prog w = .ok (112, sv) w) ∧ Hid (Calls Try.prog 112 #[sv, .int .i64 (i : Int), .int .i64 (j : Int)] w fun e w' => e = .returned (.bool (aheadN f (gt L i) (gt L j))) ∧ HS f W S b w' L) := by
  have h' := h
  obtain ⟨⟨A, c, hv, _⟩, hb, hB⟩ := h'
  exact ⟨_, hm_less hv.cell, (HLess_any hv.row.rd (gt_get hi) (gt_get hj)).mono fun e w' ⟨he, hw⟩ => ⟨he, h.kept hw⟩⟩
theorem HS.swap (h : HS f W S b w L) (hi : i < L.length) (hj : j < L.length) : ∃ sv, (∀ d, (method (d + 1) 68 (.pointer (some ⟨b, 0, none⟩)) "Swap").run Try.prog w = .ok (115, sv) w) ∧ Hid (Calls Try.prog 115 #[sv, .int .i64 (i : Int), .int .i64 (j : Int)] w fun e w' => e = .returned (.tuple #[]) ∧ HS f W S b w' (swp L i j)) := by
  obtain ⟨⟨A, c, hv, ha⟩, hb, hs⟩ := h
  refine ⟨_, hm_swap hv.cell, (HSwap_any hv.row (gt_get hi) (gt_get hj)).mono fun e w' ⟨he, g, eA, hr, hin⟩ => ⟨he, ⟨A, c, ⟨?_, hr, hv.off, hv.bB⟩, ha⟩, into_of hb hin (fun y hy => ?_), hs⟩⟩
  · have hne : b ∉ [g] := by
      have := hv.off _ eA
      simp only [List.mem_singleton]
      exact fun e => this e.symm
    rw [swp_len]
    exact (hin.block b hv.lt hne).trans hv.box
  · obtain rfl : y = g := by simpa using hy
    exact ha _ eA
theorem HS.pop (h : HS f W S b w L) (hn : L.length = n + 1) (hl : n ≤ 1000) : Hid (Calls Try.prog 113 #[.pointer (some ⟨b, 0, none⟩)] w fun e w' => e = .returned (.iface 72 (.agg #[.int .i64 ((gt L n : Nat) : Int), .int .i64 (f (gt L n) : Int)])) ∧ HS f W S b w' L.dropLast) := by
  obtain ⟨⟨A, c, hv, ha⟩, hb, hs⟩ := h
  exact (HPop_any hv hn (gt_get (by omega)) hl).mono fun e w' ⟨he, h1, h2⟩ => ⟨he, ⟨A, c, h1, ha⟩, into_of hb h2 (fun y hy => .inl (by
    obtain rfl : y = b := by simpa using hy
    exact hs)), hs⟩
theorem HS.push (h : HS f W S b w L) (x : Nat) (hl : L.length ≤ 1000) : Hid (Calls Try.prog 114 #[.pointer (some ⟨b, 0, none⟩), .iface 72 (.agg #[.int .i64 (x : Int), .int .i64 (f x : Int)])] w fun e w' => e = .returned (.tuple #[]) ∧ HS f W S b w' (L ++ [x])) := by
  obtain ⟨⟨A, c, hv, ha⟩, hb, hs⟩ := h
  refine (HPush_any hv x hl (Nat.zero_le _)).mono fun e w' ⟨he, ⟨A', c', h1, h2⟩, h3⟩ => ⟨he, ⟨A', c', h1, fun a' ha' => ?_⟩, into_of hb h3 (fun y hy => ?_), hs⟩
  · rcases h2 a' ha' with ⟨a, e1, e2⟩ | h4
    · rw [e2]
      exact ha a e1
    · exact .inr (Nat.le_trans hb.size h4)
  · rcases List.mem_cons.1 hy with rfl | hy
    · exact .inl hs
    · obtain ⟨a, e1, rfl⟩ := rowS_of hy
      exact ha a e1
end
end No
end Go.Proofs.Ytlcdjbleeanpbaa

namespace Go.Proofs.Ytlcdjbleeanpbaa
open Go.RowKit
namespace No
open Mem Lx Bu Lf Fa Hp
section
variable {f : Nat → Nat} {W w : World} {b n j x : Nat} {S L : List Nat}
set_option maxRecDepth 100000 in
set_option maxHeartbeats 4000000 in
theorem up_any (h : HS f W S b w L) (hn : L.length = n) (hj : j < n) (hn1 : n ≤ 1000) (hu : Up (aheadN f) L n j) : Calls Try.prog 71 #[.iface 68 (.pointer (some ⟨b, 0, none⟩)), .int .i64 (j : Int)] w fun e w' => e = .returned (.tuple #[]) ∧ ∃ L', HS f W S b w' L' ∧ HpF (aheadN f) L' n 0 ∧ L'.Perm L := by
  have H0 : Hid (HS f W S b w L ∧ Up (aheadN f) L n j ∧ L.Perm L) := ⟨h, hu, List.Perm.refl _⟩
  have HN := Lib.hid hn
  clear h hu hn
  go_enter Try.func71, Try.ntmps71
  go_wp2_with fail
  go_loopg [1] (j + 1) (fun gk jv wr => ∃ (k : Nat) (L' : List Nat), k ≤ j ∧ gk = k + 1 ∧ jv = .int .i64 (k : Int) ∧ Hid (HS f W S b wr L' ∧ Up (aheadN f) L' n k ∧ L'.Perm L))
  case atStart => exact ⟨j, L, Nat.le_refl _, rfl, rfl, H0⟩
  case round =>
    obtain ⟨k, L', hk, rfl, rfl, HI⟩ := hrel
    clear H0
    have HLN : Hid (L'.length = n) := by
      have := HI.out.2.2.length_eq
      have := HN.out
      unfold Hid
      omega
    rcases Nat.eq_zero_or_pos k with h0 | h0
    · subst h0
      have HR : Hid (∃ L', HS f W S b wr L' ∧ HpF (aheadN f) L' n 0 ∧ L'.Perm L) := ⟨L', HI.out.1, HI.out.2.1.stop (.inl rfl), HI.out.2.2⟩
      clear HI
      have e1 : (-1 : Int).tdiv 2 = 0 := by decide
      go_wp2_with fail
      go_end0
      exact ⟨rfl, HR.out⟩
    · obtain ⟨i, hi⟩ : ∃ i, i = (k - 1) / 2 := ⟨_, rfl⟩
      obtain ⟨m, hm⟩ : ∃ m, k = m + 1 := ⟨k - 1, by omega⟩
      have hik : i < k := by omega
      have hw1 : IntKind.i64.wrap ((k : Int) - 1) = (m : Int) := by rw [IntKind.wrap_i64]; omega
      have hw2 : (m : Int).tdiv 2 = (i : Int) := by rw [Int.tdiv_eq_ediv_of_nonneg (by omega)]; omega
      have hw3 : IntKind.i64.wrap (i : Int) = (i : Int) := by rw [IntKind.wrap_i64]; omega
      have hd : ((i : Int) == (k : Int)) = false := by simp; omega
      have hkL : k < L'.length := by rw [HLN.out]; omega
      have hiL : i < L'.length := by omega
      have HKI : Hid (0 < k ∧ k < n ∧ (k - 1) / 2 = i) := ⟨h0, by omega, hi.symm⟩
      obtain ⟨sv, im, cX⟩ := HI.out.1.less hkL hiL
      clear hi hm h0
      by_cases hz : aheadN f (gt L' k) (gt L' i) = true
      · rw [hz] at cX
        have HI2 : Hid (Up (aheadN f) (swp L' i k) n i ∧ (swp L' i k).Perm L) := ⟨HI.out.2.1.step (ahead_ord f) (by rw [HLN.out]; exact Nat.le_refl _) HKI.out.1 HKI.out.2.1 HKI.out.2.2 hz, (swp_perm hiL hkL).trans HI.out.2.2⟩
        clear hz HI
        go_upto_region 2 with (go_at_call 112; refine cX.out.mono ?_; rintro e w2 ⟨rfl, hb⟩)
        obtain ⟨sv2, im2, cY⟩ := hb.swap hiL hkL
        clear im cX hb sv
        go_wp2_with (go_at_call 115; refine cY.out.mono ?_; rintro e w3 ⟨rfl, hb2⟩)
        go_roundg (i + 1)
        case measure => omega
        case rel => exact ⟨i, swp L' i k, by omega, rfl, rfl, hb2, HI2.out.1, HI2.out.2⟩
      · have hz2 : aheadN f (gt L' k) (gt L' i) = false := by simpa using hz
        rw [hz2] at cX
        have HR : Hid (HpF (aheadN f) L' n 0 ∧ L'.Perm L) := ⟨HI.out.2.1.stop (.inr (by rw [HKI.out.2.2]; exact hz2)), HI.out.2.2⟩
        clear hz hz2 HI
        go_wp2_with (go_at_call 112; refine cX.out.mono ?_; rintro e w2 ⟨rfl, hb⟩)
        go_end0
        exact ⟨rfl, L', hb, HR.out.1, HR.out.2⟩
set_option maxRecDepth 100000 in
set_option maxHeartbeats 4000000 in
theorem HeapPush_any (h : HS f W S b w L) (x : Nat) (hn1 : L.length ≤ 999) (hp : HpF (aheadN f) L L.length 0) : Calls Try.prog 64 #[.iface 68 (.pointer (some ⟨b, 0, none⟩)), .iface 72 (.agg #[.int .i64 (x : Int), .int .i64 (f x : Int)])] w fun e w' => e = .returned (.tuple #[]) ∧ ∃ L', HS f W S b w' L' ∧ HpF (aheadN f) L' L'.length 0 ∧ L'.Perm (L ++ [x]) := by
  obtain ⟨n, hn⟩ : ∃ n, n = L.length := ⟨_, rfl⟩
  have cP := h.push x (by omega)
  have cU : ∀ w', HS f W S b w' (L ++ [x]) → Hid (Calls Try.prog 71 #[.iface 68 (.pointer (some ⟨b, 0, none⟩)), .int .i64 (n : Int)] w' fun e w' => e = .returned (.tuple #[]) ∧ ∃ L', HS f W S b w' L' ∧ HpF (aheadN f) L' (n + 1) 0 ∧ L'.Perm (L ++ [x])) := fun w' h' => up_any h' (by simp [hn]) (by omega) (by omega) (by rw [hn]; exact Up.start hp)
  have HE : Hid (∀ L' : List Nat, L'.Perm (L ++ [x]) → L'.length = n + 1) := fun L' hp => by rw [hp.length_eq]; simp [hn]
  have i1 := fun d w => hm_push (.pointer (some ⟨b, 0, none⟩)) d w
  have hw1 : IntKind.i64.wrap (((n + 1 : Nat) : Int) - 1) = (n : Int) := by rw [IntKind.wrap_i64]; omega
  have HL : Hid ((L ++ [x]).length = n + 1) := by unfold Hid; simp [hn]
  obtain ⟨N, hN⟩ : ∃ N, N = n + 1 := ⟨_, rfl⟩
  rw [← hN] at hw1 HL
  clear h hp hn1 hn
  go_enter Try.func64, Try.ntmps64
  go_upto_region 1 with (go_at_call 114; refine cP.out.mono ?_; rintro e w2 ⟨rfl, hb⟩)
  obtain ⟨sv, im, cX⟩ := hb.len
  rw [HL.out] at cX
  clear cP i1 hb hN
  go_wp2_with (first | (go_at_call 46; refine cX.out.mono ?_; rintro e w3 ⟨rfl, hb3⟩) | (go_at_call 71; refine (cU _ hb3).out.mono ?_; rintro e w4 ⟨rfl, L', h1, h2, h3⟩))
  go_end0
  exact ⟨rfl, L', h1, by rw [HE.out L' h3]; exact h2, h3⟩
set_option maxRecDepth 100000 in
set_option maxHeartbeats 4000000 in
theorem down_any (h : HS f W S b w L) {n k : Nat} (hn : n ≤ L.length) (hl : L.length ≤ 1000) (hkn : k ≤ 1000) (hp : HpF (aheadN f) L n (k + 1)) : Calls Try.prog 72 #[.iface 68 (.pointer (some ⟨b, 0, none⟩)), .int .i64 (k : Int), .int .i64 (n : Int)] w fun e w' => ∃ (t : Bool) (L' : List Nat), e = .returned (.bool t) ∧ HS f W S b w' L' ∧ HpF (aheadN f) L' n k ∧ L'.Perm L ∧ ∀ i, n ≤ i → gt L' i = gt L i := by
  have HS0 := Lib.hid h
  have HF := Lib.hid hp.sf
  have HLE := Lib.hid hn
  have HLL := Lib.hid hl
  have ho := Lib.hid (ahead_ord f)
  have hn1 : n ≤ 1000 := Nat.le_trans hn hl
  clear h hp hn hl
  go_enter Try.func72, Try.ntmps72
  go_upto_block 0 with fail
  go_cut [7] (fun iv wx => ∃ (i : Nat) (l' : List Nat), iv = .int .i64 (i : Int) ∧ Hid (HS f W S b wx l' ∧ HpF (aheadN f) l' n k ∧ l'.Perm L ∧ ∀ i, n ≤ i → gt l' i = gt L i))
  case first =>
    go_wp2_with fail
    go_loopg [7] (1001 - k) (fun gk iv wr => ∃ (i : Nat) (l' : List Nat), i ≤ 1000 ∧ gk = 1001 - i ∧ iv = .int .i64 (i : Int) ∧ Hid (HS f W S b wr l' ∧ Sf (aheadN f) l' n k i ∧ l'.Perm L ∧ ∀ i, n ≤ i → gt l' i = gt L i))
    case atStart => exact ⟨k, L, hkn, rfl, rfl, HS0.out, HF.out, List.Perm.refl _, fun _ _ => rfl⟩
    case round =>
      obtain ⟨i, l', hi, rfl, rfl, HI⟩ := hrel
      clear HS0 HF
      obtain ⟨a, ha⟩ : ∃ a, a = 2 * i := ⟨_, rfl⟩
      obtain ⟨j1, hj1⟩ : ∃ j1, j1 = a + 1 := ⟨_, rfl⟩
      obtain ⟨j2, hj2⟩ : ∃ j2, j2 = j1 + 1 := ⟨_, rfl⟩
      have hw1 : IntKind.i64.wrap (2 * (i : Int)) = (a : Int) := by rw [IntKind.wrap_i64]; omega
      have hw2 : IntKind.i64.wrap ((a : Int) + 1) = (j1 : Int) := by rw [IntKind.wrap_i64]; omega
      have hw3 : IntKind.i64.wrap ((j1 : Int) + 1) = (j2 : Int) := by rw [IntKind.wrap_i64]; omega
      have HLN : Hid (l'.length = L.length) := HI.out.2.2.1.length_eq
      have HA := Lib.hid (show j1 = 2 * i + 1 by omega)
      have HA2 := Lib.hid (show j2 = 2 * i + 2 by omega)
      clear ha hj1 hj2
      by_cases h1 : j1 < n
      case neg =>
        have hd : (n : Int) ≤ (j1 : Int) := by omega
        have HR : Hid (HS f W S b wr l' ∧ HpF (aheadN f) l' n k ∧ l'.Perm L ∧ ∀ i, n ≤ i → gt l' i = gt L i) := ⟨HI.out.1, HI.out.2.1.stop fun j h2 h3 h4 => by
          have := HA.out
          omega, HI.out.2.2.1, HI.out.2.2.2⟩
        clear h1
        go_wp2_with fail
        go_meet
        exact ⟨i, l', rfl, HR⟩
      have hd1 : decide ((n : Int) ≤ (j1 : Int)) = false := by simp; omega
      have hd2 : decide ((j1 : Int) < 0) = false := by simp
      have hjl1 : j1 < l'.length := by rw [HLN.out]; exact Nat.lt_of_lt_of_le h1 HLE.out
      have hil : i < l'.length := by have := HA.out; omega
      go_upto_region 6 with fail
      clear hd1 hd2
      go_cut [33] (fun tv wx => ∃ t : Bool, tv = .bool t ∧ Hid (t = true ↔ j2 < n ∧ aheadN f (gt l' j2) (gt l' j1) = true) ∧ Hid (HS f W S b wx l'))
      case first =>
        by_cases h2 : j2 < n
        · have hjl2 : j2 < l'.length := by rw [HLN.out]; exact Nat.lt_of_lt_of_le h2 HLE.out
          obtain ⟨t, ht⟩ : ∃ t, t = aheadN f (gt l' j2) (gt l' j1) := ⟨_, rfl⟩
          have HT : Hid (t = true ↔ j2 < n ∧ aheadN f (gt l' j2) (gt l' j1) = true) := by
            rw [ht]
            exact ⟨fun h => ⟨h2, h⟩, fun h => h.2⟩
          obtain ⟨sv, im, cX⟩ := HI.out.1.less hjl2 hjl1
          rw [← ht] at cX
          clear ht
          go_wp2_with (go_at_call 112; refine cX.out.mono ?_; rintro e w2 ⟨rfl, hb⟩)
          go_meet
          exact ⟨t, rfl, HT, hb⟩
        · have hd2 : n ≤ j2 := by omega
          have HT : Hid (false = true ↔ j2 < n ∧ aheadN f (gt l' j2) (gt l' j1) = true) := ⟨(fun h => by cases h), fun h => absurd h.1 h2⟩
          have HSt := Lib.hid HI.out.1
          clear h2
          go_wp2_with fail
          go_meet
          exact ⟨false, rfl, HT, HSt⟩
      case rest =>
      obtain ⟨t, rfl, HT, HSt⟩ := hcut
      go_upto_if 33 with fail
      go_cut [9] (fun jv wx => ∃ j : Nat, jv = .int .i64 (j : Int) ∧ Hid (0 < j ∧ j < n ∧ (j - 1) / 2 = i ∧ ∀ c, 0 < c → c < n → (c - 1) / 2 = i → aheadN f (gt l' c) (gt l' j) = false) ∧ Hid (HS f W S b wx l'))
      case first =>
        have hself : aheadN f (gt l' j1) (gt l' j1) = false := ahead_self f _
        cases t with
        | true =>
          obtain ⟨h2, h3⟩ := HT.out.1 rfl
          have HJ : Hid (0 < j2 ∧ j2 < n ∧ (j2 - 1) / 2 = i ∧ ∀ c, 0 < c → c < n → (c - 1) / 2 = i → aheadN f (gt l' c) (gt l' j2) = false) := ⟨by have := HA2.out; omega, h2, by have := HA2.out; omega, fun c h4 h5 h6 => by
            rcases (show c = j1 ∨ c = j2 by have := HA.out; have := HA2.out; omega) with e | e
            · rw [e]
              exact ho.out.asym _ _ h3
            · rw [e]
              exact ahead_self f _⟩
          clear h2 h3 hself HT
          go_wp2_with fail
          go_meet
          exact ⟨j2, rfl, HJ, HSt⟩
        | false =>
          have HJ : Hid (0 < j1 ∧ j1 < n ∧ (j1 - 1) / 2 = i ∧ ∀ c, 0 < c → c < n → (c - 1) / 2 = i → aheadN f (gt l' c) (gt l' j1) = false) := ⟨by have := HA.out; omega, h1, by have := HA.out; omega, fun c h4 h5 h6 => by
            rcases (show c = j1 ∨ c = j2 by have := HA.out; have := HA2.out; omega) with e | e
            · rw [e]
              exact hself
            · rw [e]
              exact Bool.eq_false_iff.2 fun e2 => by
                have := HT.out.2 ⟨by rw [← e]; exact h5, e2⟩
                cases this⟩
          clear hself HT
          go_wp2_with fail
          go_meet
          exact ⟨j1, rfl, HJ, HSt⟩
      case rest =>
      clear HSt HT
      obtain ⟨j, rfl, HJ, HSt⟩ := hcut
      have hjl : j < l'.length := by rw [HLN.out]; exact Nat.lt_of_lt_of_le HJ.out.2.1 HLE.out
      obtain ⟨sv, im, cX⟩ := HSt.out.less hjl hil
      by_cases hz : aheadN f (gt l' j) (gt l' i) = true
      · have HI2 : Hid (Sf (aheadN f) (swp l' i j) n k j ∧ (swp l' i j).Perm L ∧ ∀ c, n ≤ c → gt (swp l' i j) c = gt L c) := ⟨HI.out.2.1.step ho.out (by rw [HLN.out]; exact HLE.out) HJ.out.1 HJ.out.2.1 HJ.out.2.2.1 hz HJ.out.2.2.2, (swp_perm hil hjl).trans HI.out.2.2.1, fun c hc => by
          rw [gt_swp hil hjl, if_neg (by have := HJ.out.2.1; omega), if_neg (by have := HJ.out.2.1; have := HJ.out.2.2.1; have := HA.out; omega)]
          exact HI.out.2.2.2 c hc⟩
        have hjj : j ≤ 1000 := by have := HJ.out.2.1; omega
        have hij : i < j := by have := HJ.out.1; have := HJ.out.2.2.1; omega
        rw [hz] at cX
        clear hz HI HSt HJ h1 hw1 hw2 hw3
        go_upto_region 9 with (go_at_call 112; refine cX.out.mono ?_; rintro e w2 ⟨rfl, hb⟩)
        obtain ⟨sv2, im2, cY⟩ := hb.swap hil hjl
        clear im cX hb sv
        go_wp2_with (go_at_call 115; refine cY.out.mono ?_; rintro e w3 ⟨rfl, hb2⟩)
        go_roundg (1001 - j)
        case measure => omega
        case rel => exact ⟨j, swp l' i j, hjj, rfl, rfl, hb2, HI2.out⟩
      · have hz2 : aheadN f (gt l' j) (gt l' i) = false := by simpa using hz
        have HR : Hid (HpF (aheadN f) l' n k ∧ l'.Perm L ∧ ∀ i, n ≤ i → gt l' i = gt L i) := ⟨HI.out.2.1.stop fun c h2 h3 h4 => ho.out.trans _ _ _ hz2 (HJ.out.2.2.2 c h2 h3 h4), HI.out.2.2.1, HI.out.2.2.2⟩
        rw [hz2] at cX
        clear hz hz2 HI HSt HJ h1 hw1 hw2 hw3
        go_wp2_with (go_at_call 112; refine cX.out.mono ?_; rintro e w2 ⟨rfl, hb⟩)
        go_meet
        exact ⟨i, l', rfl, hb, HR.out⟩
  case rest =>
  obtain ⟨i, l', rfl, HR⟩ := hcut
  clear HS0 HF
  go_wp2_with fail
  go_ret
  exact ⟨_, l', rfl, HR.out⟩
set_option maxRecDepth 100000 in
set_option maxHeartbeats 4000000 in
theorem HeapPop_any (h : HS f W S b w L) {n : Nat} (hl : L.length = n + 1) (hn : n ≤ 999) (hp : HpF (aheadN f) L L.length 0) : Calls Try.prog 65 #[.iface 68 (.pointer (some ⟨b, 0, none⟩))] w fun e w' => e = .returned (.iface 72 (.agg #[.int .i64 ((gt L 0 : Nat) : Int), .int .i64 (f (gt L 0) : Int)])) ∧ ∃ L', HS f W S b w' L' ∧ Took (aheadN f) L (gt L 0) L' := by
  obtain ⟨sv, im, cL⟩ := h.len
  rw [hl] at cL
  have cD : ∀ w, HS f W S b w (swp L 0 n) → Hid (Calls Try.prog 72 #[.iface 68 (.pointer (some ⟨b, 0, none⟩)), .int .i64 0, .int .i64 (n : Int)] w fun e w' => ∃ (t : Bool) (l2 : List Nat), e = .returned (.bool t) ∧ HS f W S b w' l2 ∧ l2.length = n + 1 ∧ gt l2 n = gt L 0 ∧ Took (aheadN f) L (gt L 0) l2.dropLast) := fun w h1 =>
    (down_any (k := 0) h1 (by rw [swp_len]; omega) (by rw [swp_len]; omega) (by omega) (HpF.swap_top (by rw [← hl]; exact hp) (by omega))).mono fun e w' ⟨t, l2, e1, e2, e3, e4, e5⟩ => by
      have ht := took (ahead_ord f) (ahead_self f) (by rw [← hl]; exact hp) hl e3 e4 e5
      exact ⟨t, l2, e1, e2, by rw [e4.length_eq, swp_len, hl], ht.1, ht.2⟩
  have i3 := fun d w => hm_pop (.pointer (some ⟨b, 0, none⟩)) d w
  have hw1 : IntKind.i64.wrap (((n + 1 : Nat) : Int) - 1) = (n : Int) := by rw [IntKind.wrap_i64]; omega
  have HL := Lib.hid hl
  have HT0 := Lib.hid hp
  obtain ⟨N1, hN1⟩ : ∃ N1, N1 = n + 1 := ⟨_, rfl⟩
  rw [← hN1] at cL hw1
  have hn2 : n ≤ 1000 := by omega
  clear h hp hl hN1
  go_enter Try.func65, Try.ntmps65
  go_upto_region 2 with (go_at_call 46; refine cL.out.mono ?_; rintro e w2 ⟨rfl, hb⟩)
  obtain ⟨sv2, im2, cS⟩ := hb.swap (i := 0) (j := n) (by rw [HL.out]; omega) (by rw [HL.out]; omega)
  clear im cL hb sv
  go_upto_region 3 with (go_at_call 115; refine cS.out.mono ?_; rintro e w3 ⟨rfl, hb2⟩)
  clear im2 cS sv2
  go_upto_region 4 with (go_at_call 72; refine (cD _ hb2).out.mono ?_; rintro e w4 ⟨t, l2, rfl, h1, h2, h3, h4⟩)
  have HT := Lib.hid h4
  have cX := h1.pop h2 hn2
  rw [h3] at cX
  clear h1 h2 h3 h4 cD hw1 hb2
  go_wp2_with (go_at_call 113; refine cX.out.mono ?_; rintro e w5 ⟨rfl, hb3⟩)
  go_ret
  exact ⟨rfl, l2.dropLast, hb3, HT.out⟩
end
end No
end Go.Proofs.Ytlcdjbleeanpbaa
