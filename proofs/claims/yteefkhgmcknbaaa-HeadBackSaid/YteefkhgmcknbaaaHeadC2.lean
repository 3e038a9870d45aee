/-
  The code's head: numbersOf, headOf, readNumbers. Written by scripts/headc2.py.
-/
import Derived.Test.YteefkhgmcknbaaaHeadC1
import Derived.Test.YteefkhgmcknbaaaWordRead2
import Derived.Test.YteefkhgmcknbaaaCodeD0
import Derived.Test.YteefkhgmcknbaaaRdG
namespace Go.Proofs.Yteefkhgmcknbaaa
open Go.RowKit
namespace No
open Mem Bu
open Wd (be val be_length val_be isW St takeS numS zerosS textS Only Rd)
/-- numbers as an array's cells -/
def numCs (L : List Nat) : Array Value := (L.map fun (n : Nat) => Value.int .u32 (n : Int)).toArray
set_option maxRecDepth 100000 in
set_option maxHeartbeats 4000000 in
theorem NumbersOf_any (h : Hdr) (ho : HdOk h) (W : World) : Calls Try.prog 14 #[.agg (hdCs h)] W fun e w' => e = .returned (.agg (numCs (hNums h))) ∧ Below W.heap.size W w' := by
  have hs := nums_small ho
  obtain ⟨⟨e0, e1, e2, e3, e4, e5, e6, e7⟩, e9⟩ := hd_nums ho
  have hv : numCs (hNums h) = #[.int .u32 h.c.blocks, .int .u32 h.c.bytes, .int .u32 h.c.frames, .int .u32 h.c.fan, .int .u32 h.c.buffer, .int .u32 h.c.leaf, .int .u32 h.c.key, .int .u32 h.c.val, .int .u32 (h.root : Int), .int .u32 h.ht] := by
    unfold numCs hNums
    simp only [List.map_cons, List.map_nil]
    rw [e0, e1, e2, e3, e4, e5, e6, e7, e9]
  have hw : ∀ (x : Int) (n : Nat), n ∈ hNums h → (n : Int) = x → IntKind.u32.wrap x = x := fun x n hn he => by
    have := hs n hn
    rw [IntKind.wrap_u32]
    omega
  rw [hv]
  have k0 := hw _ _ (by simp [hNums]) e0
  have k1 := hw _ _ (by simp [hNums]) e1
  have k2 := hw _ _ (by simp [hNums]) e2
  have k3 := hw _ _ (by simp [hNums]) e3
  have k4 := hw _ _ (by simp [hNums]) e4
  have k5 := hw _ _ (by simp [hNums]) e5
  have k6 := hw _ _ (by simp [hNums]) e6
  have k7 := hw _ _ (by simp [hNums]) e7
  have k9 := hw _ _ (by simp [hNums]) e9
  clear ho hs hv hw e0 e1 e2 e3 e4 e5 e6 e7 e9
  obtain ⟨⟨cB, cY, cF, cN, cU, cL, cKy, cV⟩, r, t⟩ := h
  unfold hdCs
  simp only at k0 k1 k2 k3 k4 k5 k6 k7 k9 ⊢
  go_enter Try.func14, Try.ntmps14
  go_upto_region 1 with fail
  obtain ⟨h1, h2, hb⟩ := two_new W (.cells #[.int .i64 cB, .int .i64 cY, .int .i64 cF, .int .i64 cN, .int .i64 cU, .int .i64 cL, .int .i64 cKy, .int .i64 cV, .int .u32 (r : Int), .int .i64 t] 26) (.cells #[.int .u32 0, .int .u32 0, .int .u32 0, .int .u32 0, .int .u32 0, .int .u32 0, .int .u32 0, .int .u32 0, .int .u32 0, .int .u32 0] 45)
  have hsz : ((W.alloc (.cells #[.int .i64 cB, .int .i64 cY, .int .i64 cF, .int .i64 cN, .int .i64 cU, .int .i64 cL, .int .i64 cKy, .int .i64 cV, .int .u32 (r : Int), .int .i64 t] 26)).alloc (.cells #[.int .u32 0, .int .u32 0, .int .u32 0, .int .u32 0, .int .u32 0, .int .u32 0, .int .u32 0, .int .u32 0, .int .u32 0, .int .u32 0] 45)).heap.size = W.heap.size + 2 := by simp
  generalize (W.alloc (.cells #[.int .i64 cB, .int .i64 cY, .int .i64 cF, .int .i64 cN, .int .i64 cU, .int .i64 cL, .int .i64 cKy, .int .i64 cV, .int .u32 (r : Int), .int .i64 t] 26)).alloc (.cells #[.int .u32 0, .int .u32 0, .int .u32 0, .int .u32 0, .int .u32 0, .int .u32 0, .int .u32 0, .int .u32 0, .int .u32 0, .int .u32 0] 45) = w1 at *
  obtain ⟨g, hg⟩ : ∃ g, g = W.heap.size := ⟨_, rfl⟩
  have HWG : Hid (W.heap.size ≤ g + 1) := by unfold Hid; omega
  have hwg : W.heap.size ≤ w1.heap.size := by omega
  rw [← hg] at h1 h2 hsz
  simp only [← hg]
  have h3 := heap_alloc_new w1 (.cells #[.int .i64 cB, .int .i64 cY, .int .i64 cF, .int .i64 cN, .int .i64 cU, .int .i64 cL, .int .i64 cKy, .int .i64 cV] 23)
  have hb3 : Below w1.heap.size w1 (w1.alloc (.cells #[.int .i64 cB, .int .i64 cY, .int .i64 cF, .int .i64 cN, .int .i64 cU, .int .i64 cL, .int .i64 cKy, .int .i64 cV] 23)) := (Below.refl _ _).alloc (Nat.le_refl _) _
  have H1 := Lib.hid (kept3 h1 hb3)
  have H2 := Lib.hid (kept3 h2 hb3)
  have HB := Lib.hid (hb.trans (hb3.mono hwg))
  rw [hsz] at h3
  obtain ⟨g0, g1, g2, g3, g4, g5, g6, g7, g8, g9⟩ := box10 h1
  clear hb hb3 hg h1 h2 hwg
  go_upto_region 2 with fail
  generalize w1.alloc (.cells #[.int .i64 cB, .int .i64 cY, .int .i64 cF, .int .i64 cN, .int .i64 cU, .int .i64 cL, .int .i64 cKy, .int .i64 cV] 23) = w2 at *
  clear g0 g1 g2 g3 g4 g5 g6 g7 g8 g9
  obtain ⟨-, -, -, -, -, -, -, -, g8, g9⟩ := box10 H1.out
  obtain ⟨d0, d1, d2, d3, d4, d5, d6, d7⟩ := Cf.box8 h3
  obtain ⟨y0, y1, y2, y3, y4, y5, y6, y7, y8, y9⟩ := box10 H2.out
  have fz := free10 H2.out
  have HU := Lib.hid (set10_at H2.out (.int .u32 cB) (.int .u32 cY) (.int .u32 cF) (.int .u32 cN) (.int .u32 cU) (.int .u32 cL) (.int .u32 cKy) (.int .u32 cV) (.int .u32 (r : Int)) (.int .u32 t))
  have HBW := Lib.hid (below_set10 HB.out HWG.out (.int .u32 cB) (.int .u32 cY) (.int .u32 cF) (.int .u32 cN) (.int .u32 cU) (.int .u32 cL) (.int .u32 cKy) (.int .u32 cV) (.int .u32 (r : Int)) (.int .u32 t))
  unfold set10 at HU HBW
  clear H1 H2 HB hsz h3
  go_wp2_with fail
  generalize (((((((((w2.setCell ⟨g + 1, 0, none⟩ (.int .u32 cB)).setCell ⟨g + 1, 1, none⟩ (.int .u32 cY)).setCell ⟨g + 1, 2, none⟩ (.int .u32 cF)).setCell ⟨g + 1, 3, none⟩ (.int .u32 cN)).setCell ⟨g + 1, 4, none⟩ (.int .u32 cU)).setCell ⟨g + 1, 5, none⟩ (.int .u32 cL)).setCell ⟨g + 1, 6, none⟩ (.int .u32 cKy)).setCell ⟨g + 1, 7, none⟩ (.int .u32 cV)).setCell ⟨g + 1, 8, none⟩ (.int .u32 (r : Int))).setCell ⟨g + 1, 9, none⟩ (.int .u32 t) = w91 at *
  clear y0 y1 y2 y3 y4 y5 y6 y7 y8 y9 fz g8 g9 d0 d1 d2 d3 d4 d5 d6 d7
  obtain ⟨y0, y1, y2, y3, y4, y5, y6, y7, y8, y9⟩ := box10 HU.out
  exact bodyPost_ret (v := .agg #[.int .u32 cB, .int .u32 cY, .int .u32 cF, .int .u32 cN, .int .u32 cU, .int .u32 cL, .int .u32 cKy, .int .u32 cV, .int .u32 (r : Int), .int .u32 t]) (by simp [results, Try.results14, go_sem, y0, y1, y2, y3, y4, y5, y6, y7, y8, y9]) rfl ⟨rfl, HBW.out⟩
/-- the head that ten numbers say -/
def hdOf (L : List Nat) : Hdr := ⟨⟨L.getD 0 0, L.getD 1 0, L.getD 2 0, L.getD 3 0, L.getD 4 0, L.getD 5 0, L.getD 6 0, L.getD 7 0⟩, L.getD 8 0, L.getD 9 0⟩
theorem ten_of {L : List Nat} (h : L.length = 10) : ∃ x0 x1 x2 x3 x4 x5 x6 x7 x8 x9, L = [x0, x1, x2, x3, x4, x5, x6, x7, x8, x9] := by
  match L, h with
  | [x0, x1, x2, x3, x4, x5, x6, x7, x8, x9], _ => exact ⟨_, _, _, _, _, _, _, _, _, _, rfl⟩
set_option maxRecDepth 100000 in
set_option maxHeartbeats 4000000 in
theorem HeadOf_any (L : List Nat) (hL : L.length = 10) (hs : ∀ x ∈ L, x < 4294967296) (W : World) : Calls Try.prog 23 #[.agg (numCs L)] W fun e w' => e = .returned (.agg (hdCs (hdOf L))) ∧ Below W.heap.size W w' := by
  obtain ⟨x0, x1, x2, x3, x4, x5, x6, x7, x8, x9, rfl⟩ := ten_of hL
  have hw : ∀ x : Nat, x < 4294967296 → IntKind.i64.wrap (x : Int) = (x : Int) := fun x hx => by
    rw [IntKind.wrap_i64]
    omega
  unfold numCs hdCs hdOf
  simp only [List.map_cons, List.map_nil, List.getD_cons_zero, List.getD_cons_succ]
  have k0 := hw x0 (hs x0 (by simp))
  have k1 := hw x1 (hs x1 (by simp))
  have k2 := hw x2 (hs x2 (by simp))
  have k3 := hw x3 (hs x3 (by simp))
  have k4 := hw x4 (hs x4 (by simp))
  have k5 := hw x5 (hs x5 (by simp))
  have k6 := hw x6 (hs x6 (by simp))
  have k7 := hw x7 (hs x7 (by simp))
  have k8 := hw x8 (hs x8 (by simp))
  have k9 := hw x9 (hs x9 (by simp))
  clear hL hs hw
  go_enter Try.func23, Try.ntmps23
  go_upto_region 1 with fail
  obtain ⟨h1, h2, hb⟩ := two_new W (.cells #[.int .u32 (x0 : Int), .int .u32 (x1 : Int), .int .u32 (x2 : Int), .int .u32 (x3 : Int), .int .u32 (x4 : Int), .int .u32 (x5 : Int), .int .u32 (x6 : Int), .int .u32 (x7 : Int), .int .u32 (x8 : Int), .int .u32 (x9 : Int)] 45) (.cells #[.int .i64 0, .int .i64 0, .int .i64 0, .int .i64 0, .int .i64 0, .int .i64 0, .int .i64 0, .int .i64 0, .int .u32 0, .int .i64 0] 26)
  generalize (W.alloc (.cells #[.int .u32 (x0 : Int), .int .u32 (x1 : Int), .int .u32 (x2 : Int), .int .u32 (x3 : Int), .int .u32 (x4 : Int), .int .u32 (x5 : Int), .int .u32 (x6 : Int), .int .u32 (x7 : Int), .int .u32 (x8 : Int), .int .u32 (x9 : Int)] 45)).alloc (.cells #[.int .i64 0, .int .i64 0, .int .i64 0, .int .i64 0, .int .i64 0, .int .i64 0, .int .i64 0, .int .i64 0, .int .u32 0, .int .i64 0] 26) = w1 at *
  obtain ⟨g, hg⟩ : ∃ g, g = W.heap.size := ⟨_, rfl⟩
  have HWG : Hid (W.heap.size ≤ g + 1) := by unfold Hid; omega
  rw [← hg] at h1 h2
  simp only [← hg]
  obtain ⟨g0, g1, g2, g3, g4, g5, g6, g7, g8, g9⟩ := box10 h1
  obtain ⟨y0, y1, y2, y3, y4, y5, y6, y7, y8, y9⟩ := box10 h2
  have fz := free10 h2
  have HU := Lib.hid (set10_at h2 (.int .i64 (x0 : Int)) (.int .i64 (x1 : Int)) (.int .i64 (x2 : Int)) (.int .i64 (x3 : Int)) (.int .i64 (x4 : Int)) (.int .i64 (x5 : Int)) (.int .i64 (x6 : Int)) (.int .i64 (x7 : Int)) (.int .u32 (x8 : Int)) (.int .i64 (x9 : Int)))
  have HBW := Lib.hid (below_set10 hb HWG.out (.int .i64 (x0 : Int)) (.int .i64 (x1 : Int)) (.int .i64 (x2 : Int)) (.int .i64 (x3 : Int)) (.int .i64 (x4 : Int)) (.int .i64 (x5 : Int)) (.int .i64 (x6 : Int)) (.int .i64 (x7 : Int)) (.int .u32 (x8 : Int)) (.int .i64 (x9 : Int)))
  unfold set10 at HU HBW
  clear hb h1 h2 hg
  go_wp2_with fail
  generalize (((((((((w1.setCell ⟨g + 1, 0, none⟩ (.int .i64 (x0 : Int))).setCell ⟨g + 1, 1, none⟩ (.int .i64 (x1 : Int))).setCell ⟨g + 1, 2, none⟩ (.int .i64 (x2 : Int))).setCell ⟨g + 1, 3, none⟩ (.int .i64 (x3 : Int))).setCell ⟨g + 1, 4, none⟩ (.int .i64 (x4 : Int))).setCell ⟨g + 1, 5, none⟩ (.int .i64 (x5 : Int))).setCell ⟨g + 1, 6, none⟩ (.int .i64 (x6 : Int))).setCell ⟨g + 1, 7, none⟩ (.int .i64 (x7 : Int))).setCell ⟨g + 1, 8, none⟩ (.int .u32 (x8 : Int))).setCell ⟨g + 1, 9, none⟩ (.int .i64 (x9 : Int)) = w91 at *
  clear y0 y1 y2 y3 y4 y5 y6 y7 y8 y9 fz g0 g1 g2 g3 g4 g5 g6 g7 g8 g9
  obtain ⟨y0, y1, y2, y3, y4, y5, y6, y7, y8, y9⟩ := box10 HU.out
  exact bodyPost_ret (v := .agg #[.int .i64 (x0 : Int), .int .i64 (x1 : Int), .int .i64 (x2 : Int), .int .i64 (x3 : Int), .int .i64 (x4 : Int), .int .i64 (x5 : Int), .int .i64 (x6 : Int), .int .i64 (x7 : Int), .int .u32 (x8 : Int), .int .i64 (x9 : Int)]) (by simp [results, Try.results23, go_sem, y0, y1, y2, y3, y4, y5, y6, y7, y8, y9]) rfl ⟨rfl, HBW.out⟩
theorem into_set10 {w : World} {b : Nat} {v0 v1 v2 v3 v4 v5 v6 v7 v8 v9 : Value} : Flow.Into [b] w (set10 w b v0 v1 v2 v3 v4 v5 v6 v7 v8 v9) := by
  unfold set10
  exact Wd.only_set (Wd.only_set (Wd.only_set (Wd.only_set (Wd.only_set (Wd.only_set (Wd.only_set (Wd.only_set (Wd.only_set (Wd.only_set (Flow.Into.refl _ _) _ _) _ _) _ _) _ _) _ _) _ _) _ _) _ _) _ _) _ _
/-- what readNumbers keeps: the array that is filled, the result's box, the reader -/
structure Nb (W : World) (g q : Nat) (C : Array Value) (s : St) (w : World) : Prop where
  x : w.heap[g]? = some (.cells #[.int .u32 0, .int .u32 0, .int .u32 0, .int .u32 0, .int .u32 0, .int .u32 0, .int .u32 0, .int .u32 0, .int .u32 0, .int .u32 0] 45 (0, 0))
  y : w.heap[g + 1]? = some (.cells C 45 (0, 0))
  rd : Rd 73 w q s
  only : Only q W w
  ge : W.heap.size ≤ g
section
variable {W w w' : World} {g q : Nat} {C : Array Value} {s s' : St}
theorem Nb.size (h : Nb W g q C s w) : g + 1 < w.heap.size := (Array.getElem?_eq_some_iff.1 h.y).1
theorem Nb.only_ (h : Nb W g q C s w) (ho : Only q w w') (hr : Rd 73 w' q s') : Nb W g q C s' w' :=
  ⟨box_only h.x ho (rd_ne h.rd h.x (by decide)), box_only h.y ho (rd_ne h.rd h.y (by decide)), hr, h.only.trans ho, h.ge⟩
theorem Nb.set (h : Nb W g q C s w) (i : Nat) (v : Value) : Nb W g q (C.setIfInBounds i v) s (w.setCell ⟨g + 1, i, none⟩ v) := by
  have hi : Flow.Into [g + 1] w (w.setCell ⟨g + 1, i, none⟩ v) := Wd.only_set (Flow.Into.refl _ _) _ _
  refine ⟨?_, ?_, rd_fill h.rd hi (rd_ne h.rd h.y (by decide)) h.y (by decide), ⟨hi.os.trans h.only.os, hi.tape.trans h.only.tape, hi.output.trans h.only.output, Nat.le_trans h.only.size hi.size, fun k hk hn => (hi.block k (Nat.lt_of_lt_of_le hk h.only.size) ?_).trans (h.only.block k hk hn)⟩, h.ge⟩
  · exact (hi.block g (by have := h.size; omega) (by simp)).trans h.x
  · simp [World.setCell, Array.getElem?_modify, h.y]
  · have := h.ge
    simp only [List.mem_singleton]
    omega
end
/-- the array when so many are read -/
def nbCs (L : List Nat) (k : Nat) : Array Value := ((L.map fun (n : Nat) => Value.int .u32 (n : Int)) ++ List.replicate (10 - k) (Value.int .u32 0)).toArray
theorem nb_set {L : List Nat} {k : Nat} (hL : L.length = k) (hk : k < 10) (x : Nat) : (nbCs L k).setIfInBounds k (.int .u32 (x : Int)) = nbCs (L ++ [x]) (k + 1) := by
  unfold nbCs
  apply Array.ext'
  rw [Array.toList_setIfInBounds, List.toList_toArray, List.toList_toArray, List.set_append_right _ _ (by simp [hL])]
  obtain ⟨d, hd⟩ : ∃ d, 10 - k = d + 1 := ⟨10 - k - 1, by omega⟩
  have h2 : 10 - (k + 1) = d := by omega
  rw [hd, h2, List.replicate_succ, List.length_map, hL, Nat.sub_self, List.set_cons_zero]
  simp
theorem nb_cell {W w : World} {g q k : Nat} {L : List Nat} {s : St} (h : Nb W g q (nbCs L k) s w) (hL : L.length = k) (hk : k < 10) : w.cell? ⟨g + 1, k, none⟩ = some (.int .u32 0) ∧ w.frozen? ⟨g + 1, k, none⟩ = false := by
  obtain ⟨d, hd⟩ : ∃ d, 10 - k = d + 1 := ⟨10 - k - 1, by omega⟩
  refine ⟨?_, free10 h.y k⟩
  simp only [World.cell?, h.y, Option.isSome_none, Bool.false_eq_true, if_false]
  unfold nbCs
  rw [hd, List.getElem?_toArray, List.getElem?_append_right (by simp [hL])]
  simp [hL, List.replicate_succ]
/-- the ten numbers that a reader has at its front -/
def rdN (s : St) : St × Nat := numS s 4
set_option maxRecDepth 100000 in
set_option maxHeartbeats 4000000 in
theorem ReadNumbers_any {W : World} {q : Nat} {s : St} (h : Rd 73 W q s) : Calls Try.prog 24 #[.pointer (some ⟨q, 0, none⟩)] W fun e w' => e = .returned (.agg (numCs (rdS rdN 10 s).2)) ∧ Rd 73 w' q (rdS rdN 10 s).1 ∧ Only q W w' := by
  have hlq := h.lt
  have cN := fun w s h => Lib.hid (Wd.Num_any q s 4 w h)
  have HRD := Lib.hid h
  clear h
  go_enter Try.func24, Try.ntmps24
  go_upto_region 2 with fail
  obtain ⟨h1, h2, hb⟩ := two_new W (.cells #[.int .u32 0, .int .u32 0, .int .u32 0, .int .u32 0, .int .u32 0, .int .u32 0, .int .u32 0, .int .u32 0, .int .u32 0, .int .u32 0] 45) (.cells #[.int .u32 0, .int .u32 0, .int .u32 0, .int .u32 0, .int .u32 0, .int .u32 0, .int .u32 0, .int .u32 0, .int .u32 0, .int .u32 0] 45)
  have HNB : Hid (Nb W W.heap.size q (nbCs [] 0) s ((W.alloc (.cells #[.int .u32 0, .int .u32 0, .int .u32 0, .int .u32 0, .int .u32 0, .int .u32 0, .int .u32 0, .int .u32 0, .int .u32 0, .int .u32 0] 45)).alloc (.cells #[.int .u32 0, .int .u32 0, .int .u32 0, .int .u32 0, .int .u32 0, .int .u32 0, .int .u32 0, .int .u32 0, .int .u32 0, .int .u32 0] 45))) := ⟨h1, h2, HRD.out.keep hb, Wd.Only.of_below hb, Nat.le_refl _⟩
  generalize (W.alloc (.cells #[.int .u32 0, .int .u32 0, .int .u32 0, .int .u32 0, .int .u32 0, .int .u32 0, .int .u32 0, .int .u32 0, .int .u32 0, .int .u32 0] 45)).alloc (.cells #[.int .u32 0, .int .u32 0, .int .u32 0, .int .u32 0, .int .u32 0, .int .u32 0, .int .u32 0, .int .u32 0, .int .u32 0, .int .u32 0] 45) = w1 at *
  obtain ⟨g, hg⟩ : ∃ g, g = W.heap.size := ⟨_, rfl⟩
  rw [← hg] at HNB
  simp only [← hg]
  clear h1 h2 hb hg HRD hlq
  go_wp2_with fail
  go_loopg [5] 10 (fun gk iv wr => ∃ k : Nat, k ≤ 10 ∧ gk = 10 - k ∧ iv = .int .i64 (k : Int) ∧ Hid (Nb W g q (nbCs (rdS rdN k s).2 k) (rdS rdN k s).1 wr))
  case atStart => exact ⟨0, by omega, rfl, rfl, HNB⟩
  case round =>
    obtain ⟨k, hk, rfl, rfl, HN⟩ := hrel
    by_cases hlt : k < 10
    · have hki : (k : Int) < 10 := by omega
      have hll := rdS_len (f := rdN) k s
      have hnx : rdS rdN (k + 1) s = ((numS (rdS rdN k s).1 4).1, (rdS rdN k s).2 ++ [(numS (rdS rdN k s).1 4).2]) := rfl
      have hxl := num_lt (rdS rdN k s).1 (w := 4) rfl (Nat.le_refl _)
      have HNX := Lib.hid hnx
      have cM := (cN wr _ HN.out.rd).out
      generalize (rdS rdN k s).2 = l at *
      generalize (rdS rdN k s).1 = s1 at *
      generalize numS s1 (4 : Nat) = p at *
      obtain ⟨s2, x⟩ := p
      simp only at hxl HNX
      simp only at cM
      have hxw : IntKind.u32.wrap (x : Int) = (x : Int) := by rw [IntKind.wrap_u32]; omega
      have CM := Lib.hid cM
      have HLL := Lib.hid hll
      clear hnx hxl cM cN hll
      go_wp2_with (go_at_call 26; refine CM.out.mono ?_; rintro e w2 ⟨rfl, hr, ho⟩; have HN2 := Lib.hid (HN.out.only_ ho hr); obtain ⟨hc, hf⟩ := nb_cell HN2.out HLL.out hlt; have HN3 := Lib.hid (HN2.out.set k (.int .u32 (x : Int))); clear hr ho)
      go_roundg (10 - (k + 1))
      case measure => omega
      case rel =>
        refine ⟨k + 1, hlt, rfl, by go_num, ?_⟩
        unfold Hid
        rw [HNX.out, ← nb_set HLL.out hlt]
        exact HN3.out
    · obtain rfl : k = 10 := by omega
      have hll := rdS_len (f := rdN) 10 s
      generalize hl9 : (rdS rdN 10 s).2 = l at *
      generalize hs9 : (rdS rdN 10 s).1 = s1 at *
      have HS9 := Lib.hid hs9
      have HL9 := Lib.hid hl9
      clear hs9 hl9
      obtain ⟨x0, x1, x2, x3, x4, x5, x6, x7, x8, x9, rfl⟩ := ten_of hll
      have hx := HN.out.x
      have hy : wr.heap[g + 1]? = some (.cells #[.int .u32 (x0 : Int), .int .u32 (x1 : Int), .int .u32 (x2 : Int), .int .u32 (x3 : Int), .int .u32 (x4 : Int), .int .u32 (x5 : Int), .int .u32 (x6 : Int), .int .u32 (x7 : Int), .int .u32 (x8 : Int), .int .u32 (x9 : Int)] 45 (0, 0)) := HN.out.y
      obtain ⟨g0, g1, g2, g3, g4, g5, g6, g7, g8, g9⟩ := box10 hy
      obtain ⟨y0, y1, y2, y3, y4, y5, y6, y7, y8, y9⟩ := box10 hx
      have fz := free10 hx
      have HU := Lib.hid (set10_at hx (.int .u32 (x0 : Int)) (.int .u32 (x1 : Int)) (.int .u32 (x2 : Int)) (.int .u32 (x3 : Int)) (.int .u32 (x4 : Int)) (.int .u32 (x5 : Int)) (.int .u32 (x6 : Int)) (.int .u32 (x7 : Int)) (.int .u32 (x8 : Int)) (.int .u32 (x9 : Int)))
      have hi : Flow.Into [g] wr (set10 wr g (.int .u32 (x0 : Int)) (.int .u32 (x1 : Int)) (.int .u32 (x2 : Int)) (.int .u32 (x3 : Int)) (.int .u32 (x4 : Int)) (.int .u32 (x5 : Int)) (.int .u32 (x6 : Int)) (.int .u32 (x7 : Int)) (.int .u32 (x8 : Int)) (.int .u32 (x9 : Int))) := into_set10
      have HR := Lib.hid (rd_fill HN.out.rd hi (rd_ne HN.out.rd hx (by decide)) hx (by decide))
      have HO : Hid (Only q W (set10 wr g (.int .u32 (x0 : Int)) (.int .u32 (x1 : Int)) (.int .u32 (x2 : Int)) (.int .u32 (x3 : Int)) (.int .u32 (x4 : Int)) (.int .u32 (x5 : Int)) (.int .u32 (x6 : Int)) (.int .u32 (x7 : Int)) (.int .u32 (x8 : Int)) (.int .u32 (x9 : Int)))) := ⟨hi.os.trans HN.out.only.os, hi.tape.trans HN.out.only.tape, hi.output.trans HN.out.only.output, Nat.le_trans HN.out.only.size hi.size, fun k hk hn => (hi.block k (Nat.lt_of_lt_of_le hk HN.out.only.size) (by have := HN.out.ge; simp only [List.mem_singleton]; omega)).trans (HN.out.only.block k hk hn)⟩
      unfold set10 at HU HR HO
      clear hi HN hx hy hll cN HNB
      go_wp2_with fail
      generalize (((((((((wr.setCell ⟨g, 0, none⟩ (.int .u32 (x0 : Int))).setCell ⟨g, 1, none⟩ (.int .u32 (x1 : Int))).setCell ⟨g, 2, none⟩ (.int .u32 (x2 : Int))).setCell ⟨g, 3, none⟩ (.int .u32 (x3 : Int))).setCell ⟨g, 4, none⟩ (.int .u32 (x4 : Int))).setCell ⟨g, 5, none⟩ (.int .u32 (x5 : Int))).setCell ⟨g, 6, none⟩ (.int .u32 (x6 : Int))).setCell ⟨g, 7, none⟩ (.int .u32 (x7 : Int))).setCell ⟨g, 8, none⟩ (.int .u32 (x8 : Int))).setCell ⟨g, 9, none⟩ (.int .u32 (x9 : Int)) = w91 at *
      clear y0 y1 y2 y3 y4 y5 y6 y7 y8 y9 fz g0 g1 g2 g3 g4 g5 g6 g7 g8 g9
      obtain ⟨y0, y1, y2, y3, y4, y5, y6, y7, y8, y9⟩ := box10 HU.out
      rw [HL9.out, HS9.out]
      exact bodyPost_ret (v := .agg #[.int .u32 (x0 : Int), .int .u32 (x1 : Int), .int .u32 (x2 : Int), .int .u32 (x3 : Int), .int .u32 (x4 : Int), .int .u32 (x5 : Int), .int .u32 (x6 : Int), .int .u32 (x7 : Int), .int .u32 (x8 : Int), .int .u32 (x9 : Int)]) (by simp [results, Try.results24, go_sem, y0, y1, y2, y3, y4, y5, y6, y7, y8, y9]) rfl ⟨rfl, HR.out, HO.out⟩
end No
end Go.Proofs.Yteefkhgmcknbaaa
