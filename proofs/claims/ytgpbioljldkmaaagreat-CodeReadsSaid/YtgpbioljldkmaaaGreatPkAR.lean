/-
  CodeR1, CodeR2, CodeR3. Put together by pack.py.
-/
import Derived.Test.YtgpbioljldkmaaaGreatPkAH
import Derived.Test.YtgpbioljldkmaaaGreatPkAB
import Derived.Test.YtgpbioljldkmaaaGreatPqNodeR3
import Derived.Test.YtgpbioljldkmaaaGreatPkAI
import Derived.Test.YtgpbioljldkmaaaGreatPqConfR
import Derived.Laws.Concat
import Derived.Test.YtgpbioljldkmaaaGreatPqDrift

namespace Go.Proofs.YtgpbioljldkmaaaGreat
open Go.RowKit
namespace No
open Mem Lx Bu Lf Fa
open Wd (be val be_length val_be isW)
theorem strOf_app (a b : List UInt8) : strOf a ++ strOf b = strOf (a ++ b) := by
  unfold strOf
  apply ByteArray.ext
  simp [ByteArray.data_append]
set_option maxHeartbeats 1000000 in
theorem RNum_any (n : Int) (w v : Nat) (hn : n = w) (hw : isW n = true) (hv : v < 9223372036854775808) (W : World) : Calls Tryz.prog 44 #[.int .i64 n, .int .i64 (v : Int)] W fun e w' => e = .returned (.string (strOf (be w v))) ∧ Below W.heap.size W w' := by
  have cB := fun W => Lib.hid (Wd.RBytes_any n v W (by omega))
  have hp : Wd.putL [] n v = be w v := by
    subst hn
    simp [Wd.putL, hw]
  rw [hp] at cB
  have hu : IntKind.u64.wrap (v : Int) = (v : Int) := by
    rw [IntKind.wrap_u64]
    omega
  clear hp hw hv hn
  go_enter Tryz.func44, Tryz.ntmps44
  go_wp2_with (go_at_call 48; refine (cB _).out.mono ?_; rintro e w2 ⟨A, c, rfl, hbl, hb⟩; have HB := Lib.hid hb; have rt := run_text_n (P := Tryz.prog) Tryz.underlying33 Tryz.underlying5 Tryz.underlying9 hbl (n := w) (be_length w v) c; clear hb)
  go_ret
  exact ⟨rfl, HB.out⟩
set_option maxHeartbeats 1000000 in
theorem RZeros_any (n : Int) (h0 : 0 ≤ n) (h1 : n ≤ 1000000) (W : World) : Calls Tryz.prog 45 #[.int .i64 n] W fun e w' => e = .returned (.string (strOf (zs n))) ∧ Below W.heap.size W w' := by
  obtain ⟨m, rfl⟩ : ∃ m : Nat, n = m := ⟨n.toNat, by omega⟩
  have hmk := Wd.run_makeBytes m (by omega) W
  have hrow := Row.new 5 W (List.replicate m 0)
  have HB : Hid (Below W.heap.size W (W.alloc (.cells (bytesV (List.replicate m 0)).toArray 5))) := (Below.refl _ _).alloc (Nat.le_refl _) _
  have rt := run_text_n (P := Tryz.prog) Tryz.underlying33 Tryz.underlying5 Tryz.underlying9 hrow.bl (n := m) (by simp) m
  have HZ : Hid (strOf (zs (m : Int)) = strOf (List.replicate m 0)) := rfl
  rw [HZ.out]
  clear hrow h0 h1 HZ
  generalize strOf (List.replicate m 0) = s at *
  generalize W.alloc (.cells (bytesV (List.replicate m 0)).toArray 5) = w1 at *
  go_enter Tryz.func45, Tryz.ntmps45
  go_wp2_with fail
  go_ret
  exact ⟨rfl, HB.out⟩
/-- texts put together -/
theorem cat_any (a b : List UInt8) (h : a.length + b.length ≤ 10000000) (w : World) : (Op.stringOp .add (strOf a) (strOf b)).run Tryz.prog w = .ok (.string (strOf (a ++ b))) w := by
  rw [run_string_add_sum w _ _ (by rw [strOf_size, strOf_size]; omega), strOf_app]
set_option maxHeartbeats 1000000 in
theorem RSlot_any (s : List UInt8) (most : Int) (h0 : (s.length : Int) ≤ most) (h1 : most ≤ 1000000) (W : World) : Calls Tryz.prog 47 #[.string (strOf s), .int .i64 most] W fun e w' => e = .returned (.string (strOf (slotL s most))) ∧ Below W.heap.size W w' := by
  have cZ := fun W => Lib.hid (RZeros_any (most - s.length) (by omega) (by omega) W)
  have hw : IntKind.i64.wrap (most - ((strOf s).size : Int)) = most - s.length := by
    rw [IntKind.wrap_i64, strOf_size]
    omega
  have hc : ∀ w, (Op.stringOp .add (strOf s) (strOf (zs (most - s.length)))).run Tryz.prog w = .ok (.string (strOf (slotL s most))) w := fun w => cat_any s (zs (most - s.length)) (by rw [zs_len]; omega) w
  clear h0 h1
  generalize most - (s.length : Int) = k at *
  generalize strOf (slotL s most) = r at *
  generalize strOf s = t at *
  generalize strOf (zs k) = u at *
  go_enter Tryz.func47, Tryz.ntmps47
  go_wp2_with (go_at_call 45; refine (cZ _).out.mono ?_; rintro e w2 ⟨rfl, hb⟩; have HB := Lib.hid hb; clear hb)
  go_ret
  exact ⟨rfl, HB.out⟩
end No
end Go.Proofs.YtgpbioljldkmaaaGreat

namespace Go.Proofs.YtgpbioljldkmaaaGreat
open Go.RowKit
namespace No
open Mem Lx Bu Lf Fa
open Wd (be val be_length val_be isW)
set_option maxRecDepth 100000 in
set_option maxHeartbeats 4000000 in
theorem RPair_any (c : Cfg) (key v : ByteArray) (hk : (key.size : Int) ≤ c.key) (hv : (v.size : Int) ≤ c.val) (h1 : c.key ≤ 1000000) (h2 : c.val ≤ 1000000) (W : World) : Calls Tryz.prog 46 #[.agg (cfCs c), .string key, .string v] W fun e w' => e = .returned (.string (strOf (pairL c key v))) ∧ Below W.heap.size W w' := by
  have c1 := fun W => Lib.hid (RNum_any 1 1 key.size rfl rfl (by omega) W)
  have c2 := fun W => Lib.hid (RNum_any 2 2 v.size rfl rfl (by omega) W)
  have c3 := fun W => Lib.hid (RSlot_any (txt key) c.key hk h1 W)
  have c4 := fun W => Lib.hid (RSlot_any (txt v) c.val hv h2 W)
  rw [strOf_txt] at c3 c4
  have l3 := slotL_len (l := txt key) (most := c.key) hk
  have l4 := slotL_len (l := txt v) (most := c.val) hv
  have e1 := cat_any (be 1 key.size) (be 2 v.size) (by rw [be_length, be_length]; decide)
  have e2 := cat_any (be 1 key.size ++ be 2 v.size) (slotL (txt key) c.key) (by rw [List.length_append, be_length, be_length, l3]; omega)
  have e3 := cat_any (be 1 key.size ++ be 2 v.size ++ slotL (txt key) c.key) (slotL (txt v) c.val) (by rw [List.length_append, List.length_append, be_length, be_length, l3, l4]; omega)
  have HE : Hid (be 1 key.size ++ be 2 v.size ++ slotL (txt key) c.key ++ slotL (txt v) c.val = pairL c key v) := by
    unfold Hid pairL
    simp only [List.append_assoc]
  rw [HE.out] at e3
  clear HE hk hv h1 h2 l3 l4
  obtain ⟨cB, cY, cF, cN, cU, cL, cKy, cV⟩ := c
  unfold cfCs
  simp only at *
  generalize strOf (pairL ⟨cB, cY, cF, cN, cU, cL, cKy, cV⟩ key v) = R at *
  generalize strOf (be 1 key.size ++ be 2 v.size ++ slotL (txt key) cKy) = r2 at *
  generalize strOf (be 1 key.size ++ be 2 v.size) = r1 at *
  generalize strOf (be 1 key.size) = n1 at *
  generalize strOf (be 2 v.size) = n2 at *
  generalize strOf (slotL (txt key) cKy) = s1 at *
  generalize strOf (slotL (txt v) cV) = s2 at *
  go_enter Tryz.func46, Tryz.ntmps46
  go_upto_region 1 with fail
  have hx := heap_alloc_new W (.cells #[.int .i64 cB, .int .i64 cY, .int .i64 cF, .int .i64 cN, .int .i64 cU, .int .i64 cL, .int .i64 cKy, .int .i64 cV] 23)
  have HB : Hid (Below W.heap.size W (W.alloc (.cells #[.int .i64 cB, .int .i64 cY, .int .i64 cF, .int .i64 cN, .int .i64 cU, .int .i64 cL, .int .i64 cKy, .int .i64 cV] 23))) := (Below.refl _ _).alloc (Nat.le_refl _) _
  generalize W.alloc (.cells #[.int .i64 cB, .int .i64 cY, .int .i64 cF, .int .i64 cN, .int .i64 cU, .int .i64 cL, .int .i64 cKy, .int .i64 cV] 23) = w1 at *
  obtain ⟨g, hg⟩ : ∃ g, g = W.heap.size := ⟨_, rfl⟩
  simp only [← hg] at hx ⊢
  clear hg
  obtain ⟨g0, g1, g2, g3, g4, g5, g6, g7⟩ := box8 hx
  have t6 := fun q : Drift.Tide [] w1 [] => Drift.Tide.cell g6 (by simp) q
  have t7 := fun q : Drift.Tide [] w1 [] => Drift.Tide.cell g7 (by simp) q
  clear hx g0 g1 g2 g3 g4 g5 g6 g7
  refine Drift.wp_region_drift [] [(0,[]),(1,[]),(2,[]),(3,[]),(4,[]),(5,[]),(6,[]),(7,[]),(8,[]),(9,[]),(10,[]),(11,[]),(12,[]),(13,[]),(14,[]),(15,[]),(16,[]),(17,[])] [] [] (by kernel_rfl) (by kernel_rfl) (by simp) ?_
  simp only [Drift.pick, Drift.opsAt, List.getElem?_toArray, List.getElem?_cons_zero, List.getElem?_cons_succ, List.cons_append, List.nil_append, List.filterMap_nil]
  iterate 2 (refine Drift.walk_step (fun K hK => ?_); go_simp; (refine hK _ ?_; clear hK K))
  refine Drift.walk_step (fun K hK => ?_); go_simp; (apply Exists.intro; refine ⟨fun q => ?_, hK _ ?_⟩; (go_at_call 44; exact (c1 _).out); clear hK K)
  iterate 2 (refine Drift.walk_step (fun K hK => ?_); go_simp; (refine hK _ ?_; clear hK K))
  refine Drift.walk_step (fun K hK => ?_); go_simp; (apply Exists.intro; refine ⟨fun q => ?_, hK _ ?_⟩; (go_at_call 44; exact (c2 _).out); clear hK K)
  iterate 4 (refine Drift.walk_step (fun K hK => ?_); go_simp; (refine hK _ ?_; clear hK K))
  refine Drift.walk_step (fun K hK => ?_); go_simp; (apply Exists.intro; refine ⟨fun q => ?_, hK _ ?_⟩; (go_at_call 47; exact (c3 _).out); clear hK K)
  iterate 4 (refine Drift.walk_step (fun K hK => ?_); go_simp; (refine hK _ ?_; clear hK K))
  refine Drift.walk_step (fun K hK => ?_); go_simp; (apply Exists.intro; refine ⟨fun q => ?_, hK _ ?_⟩; (go_at_call 47; exact (c4 _).out); clear hK K)
  iterate 2 (refine Drift.walk_step (fun K hK => ?_); go_simp; (refine hK _ ?_; clear hK K))
  refine Drift.walk_nil ?_
  intro w2 hb2 _
  have HB2 := Lib.hid (HB.out.trans (hb2.mono HB.out.size))
  clear t6 t7 hb2 c1 c2 c3 c4 e1 e2 e3
  simp only [List.length_cons, List.length_nil, List.drop_succ_cons, List.drop_nil, Nat.zero_add, Nat.reduceAdd]
  go_wp2_with fail
  go_ret
  exact ⟨rfl, HB2.out⟩
set_option maxHeartbeats 1000000 in
theorem RAll_any (W : World) : Calls Tryz.prog 28 #[] W fun e w' => e = .returned (.agg #[.string ⟨#[]⟩, .string ⟨#[]⟩, .bool true]) ∧ Below W.heap.size W w' := by
  go_enter Tryz.func28, Tryz.ntmps28
  go_wp2_with fail
  exact bodyPost_ret (v := .agg #[.string ⟨#[]⟩, .string ⟨#[]⟩, .bool true]) (by simp [results, Tryz.results28, go_sem]) rfl ⟨rfl, (Below.refl _ _).alloc (Nat.le_refl _) _⟩
set_option maxRecDepth 100000 in
set_option maxHeartbeats 4000000 in
theorem CRight_any (c : Cfg) {n : Nd} {a : At} {W : World} (h : NdIn W n a) (hz : Sz n) (hkid : ∀ k, k ∈ n.kids → k < 4294967296) (r : Bool) (hr : r = true ↔ RightA c n) : Calls Tryz.prog 14 #[.agg (cfCs c), .agg (ndCs n a)] W fun e w' => e = .returned (.bool r) ∧ Below W.heap.size W w' := by
  obtain ⟨q, hq⟩ := bool_of (Cf.Right c.blocks c.bytes c.frames c.fan c.buffer c.leaf c.key c.val)
  have cQ : ∀ w, Hid (Calls Tryz.prog 18 #[.agg (cfCs c)] w fun e w' => e = .returned (.bool q) ∧ Below w.heap.size w w') := fun w => by
    cases q with
    | true => exact Cf.RRight_yes c.blocks c.bytes c.frames c.fan c.buffer c.leaf c.key c.val w (hq.1 rfl)
    | false => exact Cf.RRight_no c.blocks c.bytes c.frames c.fan c.buffer c.leaf c.key c.val w (fun h => by cases hq.2 h)
  obtain ⟨t, ht⟩ := bool_of (RightN c ⟨#[]⟩ ⟨#[]⟩ true n)
  have cR : ∀ w, Below W.heap.size W w → Hid (Calls Tryz.prog 27 #[.agg (cfCs c), .agg #[.string ⟨#[]⟩, .string ⟨#[]⟩, .bool true], .agg (ndCs n a)] w fun e w' => e = .returned (.bool t) ∧ Below w.heap.size w w') := fun w hb => (RRight_sz c ⟨#[]⟩ ⟨#[]⟩ true (h.kept hb) hz hkid (Nat.zero_le _)).mono fun e w' ⟨⟨v, he, hv⟩, hb⟩ => ⟨by rw [he, bool_one hv ht], hb⟩
  have cA := fun w => Lib.hid (RAll_any w)
  have HE : Hid (r = (q && t)) := by
    unfold Hid
    rw [Bool.eq_iff_iff, hr]
    unfold RightA
    simp only [Bool.and_eq_true, hq, ht]
  clear h hz hkid hr hq ht
  obtain ⟨cB, cY, cF, cN, cU, cL, cKy, cV⟩ := c
  obtain ⟨lv, K, P, B, Q⟩ := n
  obtain ⟨kA, kc, pA, pc, bA, bc, qA, qc⟩ := a
  unfold cfCs ndCs at *
  simp only at *
  generalize K.length = kn at *
  generalize P.length = pn at *
  generalize B.length = bn at *
  generalize Q.length = qn at *
  go_enter Tryz.func14, Tryz.ntmps14
  go_upto_region 1 with fail
  have h2 := two_new W (.cells #[.int .i64 cB, .int .i64 cY, .int .i64 cF, .int .i64 cN, .int .i64 cU, .int .i64 cL, .int .i64 cKy, .int .i64 cV] 23) (.cells #[.int .i64 lv, .slice kA kn kc, .slice pA pn pc, .slice bA bn bc, .slice qA qn qc] 29)
  generalize (W.alloc (.cells #[.int .i64 cB, .int .i64 cY, .int .i64 cF, .int .i64 cN, .int .i64 cU, .int .i64 cL, .int .i64 cKy, .int .i64 cV] 23)).alloc (.cells #[.int .i64 lv, .slice kA kn kc, .slice pA pn pc, .slice bA bn bc, .slice qA qn qc] 29) = w1 at *
  obtain ⟨g, hg⟩ : ∃ g, g = W.heap.size := ⟨_, rfl⟩
  obtain ⟨hx, hy, hb⟩ := h2
  rw [← hg] at hx hy
  simp only [← hg]
  clear hg
  have HB := Lib.hid hb
  obtain ⟨g0, g1, g2, g3, g4, g5, g6, g7⟩ := box8 hx
  obtain ⟨d0, d1, d2, d3, d4⟩ := box5 hy
  have tg0 := fun q : Drift.Tide [] w1 [] => Drift.Tide.cell g0 (by simp) q
  have tg1 := fun q : Drift.Tide [] w1 [] => Drift.Tide.cell g1 (by simp) q
  have tg2 := fun q : Drift.Tide [] w1 [] => Drift.Tide.cell g2 (by simp) q
  have tg3 := fun q : Drift.Tide [] w1 [] => Drift.Tide.cell g3 (by simp) q
  have tg4 := fun q : Drift.Tide [] w1 [] => Drift.Tide.cell g4 (by simp) q
  have tg5 := fun q : Drift.Tide [] w1 [] => Drift.Tide.cell g5 (by simp) q
  have tg6 := fun q : Drift.Tide [] w1 [] => Drift.Tide.cell g6 (by simp) q
  have tg7 := fun q : Drift.Tide [] w1 [] => Drift.Tide.cell g7 (by simp) q
  have td0 := fun q : Drift.Tide [] w1 [] => Drift.Tide.cell d0 (by simp) q
  have td1 := fun q : Drift.Tide [] w1 [] => Drift.Tide.cell d1 (by simp) q
  have td2 := fun q : Drift.Tide [] w1 [] => Drift.Tide.cell d2 (by simp) q
  have td3 := fun q : Drift.Tide [] w1 [] => Drift.Tide.cell d3 (by simp) q
  have td4 := fun q : Drift.Tide [] w1 [] => Drift.Tide.cell d4 (by simp) q
  clear hx hy hb g0 g1 g2 g3 g4 g5 g6 g7 d0 d1 d2 d3 d4
  cases q with
  | false =>
    clear cR cA
    refine Drift.wp_region_drift [] [(0,[]),(1,[]),(2,[]),(3,[]),(4,[]),(5,[]),(6,[]),(7,[]),(8,[])] [] [] (by kernel_rfl) (by kernel_rfl) (by simp) ?_
    simp only [Drift.pick, Drift.opsAt, List.getElem?_toArray, List.getElem?_cons_zero, List.getElem?_cons_succ, List.cons_append, List.nil_append, List.filterMap_nil]
    repeat (refine Drift.walk_step (fun K hK => ?_); go_simp; first | (refine hK _ ?_; clear hK K) | (apply Exists.intro; refine ⟨fun q => ?_, hK _ ?_⟩; (go_at_call 18; exact (cQ _).out); clear hK K))
    refine Drift.walk_nil ?_
    intro w2 hb2 _
    have HB2 := Lib.hid (HB.out.trans (hb2.mono HB.out.size))
    clear hb2 tg0 tg1 tg2 tg3 tg4 tg5 tg6 tg7 td0 td1 td2 td3 td4 cQ
    simp only [List.length_cons, List.length_nil, List.drop_succ_cons, List.drop_nil, Nat.zero_add, Nat.reduceAdd]
    go_wp2_with fail
    go_ret
    exact ⟨by rw [HE.out]; rfl, HB2.out⟩
  | true =>
    refine Drift.wp_region_drift [] [(0,[]),(1,[]),(2,[]),(3,[]),(4,[]),(5,[]),(6,[]),(7,[]),(8,[])] [] [] (by kernel_rfl) (by kernel_rfl) (by simp) ?_
    simp only [Drift.pick, Drift.opsAt, List.getElem?_toArray, List.getElem?_cons_zero, List.getElem?_cons_succ, List.cons_append, List.nil_append, List.filterMap_nil]
    repeat (refine Drift.walk_step (fun K hK => ?_); go_simp; first | (refine hK _ ?_; clear hK K) | (apply Exists.intro; refine ⟨fun q => ?_, hK _ ?_⟩; (first | (go_at_call 18; exact (cQ _).out) | (go_at_call 28; exact (cA _).out) | (go_at_call 27; exact (cR _ (HB.out.trans (q.into.below.mono HB.out.size))).out)); clear hK K))
    refine Drift.walk_nil ?_
    intro w2 hb2 _
    have HB2 := Lib.hid (HB.out.trans (hb2.mono HB.out.size))
    clear hb2 tg0 tg1 tg2 tg3 tg4 tg5 tg6 tg7 td0 td1 td2 td3 td4 cQ cA cR
    simp only [List.length_cons, List.length_nil, List.drop_succ_cons, List.drop_nil, Nat.zero_add, Nat.reduceAdd]
    go_wp2_with fail
    go_ret
    exact ⟨by rw [HE.out]; rfl, HB2.out⟩
end No
end Go.Proofs.YtgpbioljldkmaaaGreat

namespace Go.Proofs.YtgpbioljldkmaaaGreat
open Go.RowKit
namespace No
open Mem Lx Bu Lf Fa
open Wd (be val be_length val_be isW)
/-- two boxes: settings and a node -/
structure Bx2 (W : World) (g : Nat) (X Y : Obj) (w : World) : Prop where
  below : Below W.heap.size W w
  x : w.heap[g]? = some X
  y : w.heap[g + 1]? = some Y
theorem Bx2.kept {W w w' : World} {g : Nat} {X Y : Obj} (h : Bx2 W g X Y w) (hb : Below w.heap.size w w') : Bx2 W g X Y w' := ⟨h.below.trans (hb.mono h.below.size), kept3 h.x hb, kept3 h.y hb⟩
theorem Bx2.new (W : World) (X Y : Obj) : Bx2 W W.heap.size X Y ((W.alloc X).alloc Y) := ⟨(two_new W X Y).2.2, (two_new W X Y).1, (two_new W X Y).2.1⟩
/-- so many chunks behind what was -/
def runF {α : Type} (A : List UInt8) (f : α → List UInt8) (L : List α) (k : Nat) : List UInt8 := A ++ (L.take k).flatMap f
section
variable {α : Type} {A : List UInt8} {f : α → List UInt8} {L : List α} {S k : Nat} {x : α}
theorem runF_zero : runF A f L 0 = A := by simp [runF]
theorem runF_succ (hx : L[k]? = some x) : runF A f L k ++ f x = runF A f L (k + 1) := by
  obtain ⟨hk, rfl⟩ := List.getElem?_eq_some_iff.1 hx
  unfold runF
  rw [List.take_succ_eq_append_getElem hk, List.flatMap_append, List.append_assoc]
  simp
theorem runF_all (hk : k = L.length) : runF A f L k = A ++ L.flatMap f := by
  subst hk
  simp [runF]
theorem runF_len (hS : ∀ x ∈ L, (f x).length = S) (hk : k ≤ L.length) : (runF A f L k).length = A.length + k * S := by
  unfold runF
  rw [List.length_append, chunk_len fun x hx => hS x (List.mem_of_mem_take hx), List.length_take, Nat.min_eq_left hk]
theorem mul_in2 {a s A C : Nat} (h1 : a ≤ A) (h2 : s ≤ C) : a * s ≤ A * C := Nat.mul_le_mul h1 h2
end
set_option maxRecDepth 100000 in
set_option maxHeartbeats 16000000 in
theorem RBlock_leaf (c : Cfg) {n : Nd} {a : At} {W : World} (h : NdIn W n a) (hr : RightA c n) (h0 : n.lv = 0) : Calls Tryz.prog 19 #[.agg (cfCs c), .agg (ndCs n a)] W fun e w' => e = .returned (.string (strOf (blockL c n))) ∧ Below W.heap.size W w' := by
  obtain ⟨FF, BB, LL, KK, VV, hs⟩ := set_ok hr.1
  have ho := hr.2.1 h0
  obtain ⟨hl1, hl2⟩ := leaf_len hs ho
  have hc : ∀ x ∈ n.prs, (pairL c x.1 x.2).length = 3 + KK + VV := fun x hx => by
    obtain ⟨h1, -, h3⟩ := ho.each x hx
    rw [pairL_len (keyB_le h1).2 h3, hs.key, hs.val]
    rfl
  have hk := hs.key
  have hv := hs.val
  have hk2 := hs.k
  have hv2 := hs.v
  have hL := hs.l
  have hb1 := hs.bytes
  have hout := hs.out
  have hle := (block_cand hr).1
  obtain ⟨A, hA⟩ : ∃ A : List UInt8, A = [1, 0] ++ be 2 n.prs.length ++ zs 4 := ⟨_, rfl⟩
  have hAl : A.length = 8 := by
    rw [hA]
    simp [zs_len]
  have eb : blockL c n = slotL (A ++ n.prs.flatMap fun x => pairL c x.1 x.2) c.bytes := by
    unfold blockL bodyL
    rw [if_pos h0]
    unfold leafL
    rw [hA]
    simp only [List.append_assoc]
  have hbl : ((A ++ n.prs.flatMap fun x => pairL c x.1 x.2).length : Int) ≤ c.bytes := by
    rw [List.length_append, chunk_len hc, hAl]
    have hm := mul_up (s := 3 + KK + VV) hl2
    generalize n.prs.length * (3 + KK + VV) = X at *
    generalize LL * (3 + KK + VV) = Y at *
    omega
  have c1 := fun W => Lib.hid (RNum_any 2 2 n.prs.length rfl rfl (by omega) W)
  have c2 := fun W => Lib.hid (RZeros_any 4 (by decide) (by decide) W)
  have c3 := fun W => Lib.hid (RSlot_any (A ++ n.prs.flatMap fun x => pairL c x.1 x.2) c.bytes hbl (by omega) W)
  have c4 : ∀ x, x ∈ n.prs → ∀ W, Hid (Calls Tryz.prog 46 #[.agg (cfCs c), .string x.1, .string x.2] W fun e w' => e = .returned (.string (strOf (pairL c x.1 x.2))) ∧ Below W.heap.size W w') := fun x hx W => by
    obtain ⟨h1, -, h3⟩ := ho.each x hx
    exact RPair_any c x.1 x.2 (keyB_le h1).2 h3 (by omega) (by omega) W
  have e1 : ∀ w, (Op.stringOp .add ⟨#[1, 0]⟩ (strOf (be 2 n.prs.length))).run Tryz.prog w = .ok (.string (strOf ([1, 0] ++ be 2 n.prs.length))) w := cat_any [1, 0] (be 2 n.prs.length) (by rw [be_length]; decide)
  have e2 := cat_any ([1, 0] ++ be 2 n.prs.length) (zs 4) (by rw [List.length_append, be_length, zs_len]; decide)
  rw [← hA] at e2
  have HCAT : Hid (∀ (k : Nat) (x : Pr), n.prs[k]? = some x → ∀ w, (Op.stringOp .add (strOf (runF A (fun x => pairL c x.1 x.2) n.prs k)) (strOf (pairL c x.1 x.2))).run Tryz.prog w = .ok (.string (strOf (runF A (fun x => pairL c x.1 x.2) n.prs (k + 1)))) w) := fun k x hx w => by
    have hkl := (List.getElem?_eq_some_iff.1 hx).1
    have := cat_any (runF A (fun x => pairL c x.1 x.2) n.prs k) (pairL c x.1 x.2) (by
      rw [runF_len hc (Nat.le_of_lt hkl), hc x (List.mem_of_getElem? hx), hAl]
      have := mul_in2 (a := k) (s := 3 + KK + VV) (A := 1024) (C := 323) (by omega) (by omega)
      generalize k * (3 + KK + VV) = X at *
      omega) w
    rw [runF_succ hx] at this
    exact this
  have HZ : Hid (runF A (fun x => pairL c x.1 x.2) n.prs 0 = A) := runF_zero
  have HALL : Hid (∀ k, k = n.prs.length → runF A (fun x => pairL c x.1 x.2) n.prs k = A ++ n.prs.flatMap fun x => pairL c x.1 x.2) := fun k hk => runF_all hk
  have HQ := Lib.hid h.prs
  rw [eb]
  have hq1 : n.prs.length ≤ 1024 := by omega
  clear eb hbl hle hout hb1 hL hv2 hk2 hv hk hc hl1 hl2 ho hs hr h hA hAl
  generalize (fun x : Pr => pairL c x.1 x.2) = f at *
  obtain ⟨cB, cY, cF, cN, cU, cL, cKy, cV⟩ := c
  obtain ⟨lv, K, P, B, Q⟩ := n
  obtain ⟨kA, kc, pA, pc, bA, bc, qA, qc⟩ := a
  obtain rfl : lv = 0 := h0
  unfold cfCs ndCs at *
  simp only at *
  generalize strOf (slotL (A ++ Q.flatMap f) cY) = R at *
  obtain ⟨E, hE⟩ : ∃ E, E = strOf (A ++ Q.flatMap f) := ⟨_, rfl⟩
  rw [← hE] at c3
  have HEE := Lib.hid hE
  clear hE
  generalize K.length = kn at *
  generalize P.length = pn at *
  generalize B.length = bn at *
  generalize hqn : Q.length = qn at *
  have HQN := Lib.hid hqn
  clear hqn
  generalize strOf ([1, 0] ++ be 2 qn) = r1 at *
  generalize strOf (be 2 qn) = n1 at *
  generalize strOf (zs 4) = z4 at *
  go_enter Tryz.func19, Tryz.ntmps19
  go_upto_region 1 with fail
  have HB := Lib.hid (Bx2.new W (.cells #[.int .i64 cB, .int .i64 cY, .int .i64 cF, .int .i64 cN, .int .i64 cU, .int .i64 cL, .int .i64 cKy, .int .i64 cV] 23) (.cells #[.int .i64 0, .slice kA kn kc, .slice pA pn pc, .slice bA bn bc, .slice qA qn qc] 29))
  generalize (W.alloc (.cells #[.int .i64 cB, .int .i64 cY, .int .i64 cF, .int .i64 cN, .int .i64 cU, .int .i64 cL, .int .i64 cKy, .int .i64 cV] 23)).alloc (.cells #[.int .i64 0, .slice kA kn kc, .slice pA pn pc, .slice bA bn bc, .slice qA qn qc] 29) = w1 at *
  obtain ⟨g, hg⟩ : ∃ g, g = W.heap.size := ⟨_, rfl⟩
  rw [← hg] at HB
  simp only [← hg]
  clear hg
  obtain ⟨g0, g1, g2, g3, g4, g5, g6, g7⟩ := box8 HB.out.x
  obtain ⟨d0, d1, d2, d3, d4⟩ := box5 HB.out.y
  go_upto_region 4 with (first
    | (go_at_call 44; refine (c1 _).out.mono ?_; rintro e w2 ⟨rfl, hb⟩; replace HB := Lib.hid (HB.out.kept hb); clear hb c1 g0 g1 g2 g3 g4 g5 g6 g7 d0 d1 d2 d3 d4; obtain ⟨g0, g1, g2, g3, g4, g5, g6, g7⟩ := box8 HB.out.x; obtain ⟨d0, d1, d2, d3, d4⟩ := box5 HB.out.y)
    | (go_at_call 45; refine (c2 _).out.mono ?_; rintro e w3 ⟨rfl, hb⟩; replace HB := Lib.hid (HB.out.kept hb); clear hb c2 g0 g1 g2 g3 g4 g5 g6 g7 d0 d1 d2 d3 d4; obtain ⟨g0, g1, g2, g3, g4, g5, g6, g7⟩ := box8 HB.out.x; obtain ⟨d0, d1, d2, d3, d4⟩ := box5 HB.out.y))
  clear e1 e2 g0 g1 g2 g3 g4 g5 g6 g7 d0 d1 d2 d3 d4
  go_wp2_with fail
  go_loopg [5, 6] qn (fun gk sv iv wr => ∃ (k : Nat) (t : ByteArray), k ≤ qn ∧ gk = qn - k ∧ iv = .int .i64 (k : Int) ∧ sv = .string t ∧ Hid (t = strOf (runF A f Q k)) ∧ Hid (Bx2 W g (.cells #[.int .i64 cB, .int .i64 cY, .int .i64 cF, .int .i64 cN, .int .i64 cU, .int .i64 cL, .int .i64 cKy, .int .i64 cV] 23) (.cells #[.int .i64 0, .slice kA kn kc, .slice pA pn pc, .slice bA bn bc, .slice qA qn qc] 29) wr))
  case atStart => exact ⟨0, _, Nat.zero_le _, rfl, rfl, rfl, by rw [HZ.out]; rfl, HB⟩
  case round =>
    clear HB
    obtain ⟨k, t, hk, rfl, rfl, rfl, HT, HB⟩ := hrel
    obtain ⟨g0, g1, g2, g3, g4, g5, g6, g7⟩ := box8 HB.out.x
    obtain ⟨d0, d1, d2, d3, d4⟩ := box5 HB.out.y
    by_cases hlt : k < qn
    · obtain ⟨x, hx⟩ : ∃ x, Q[k]? = some x := ⟨Q[k]'(by rw [HQN.out]; exact hlt), List.getElem?_eq_getElem _⟩
      obtain ⟨b, o, e, -, x0, x1⟩ := RdK.pair (HQ.out.1.kept HB.out.below) hx
      subst e
      have hcat := HCAT.out k x hx
      rw [← HT.out] at hcat
      obtain ⟨t2, ht2⟩ : ∃ t2, t2 = strOf (runF A f Q (k + 1)) := ⟨_, rfl⟩
      rw [← ht2] at hcat
      have HT2 := Lib.hid ht2
      have c5 := fun W => c4 x (List.mem_of_getElem? hx) W
      generalize strOf (pairL ⟨cB, cY, cF, cN, cU, cL, cKy, cV⟩ x.1 x.2) = px at *
      obtain ⟨xk, xv⟩ := x
      simp only at x0 x1 c5
      clear ht2 hx
      go_upto_region 7 with fail
      have tg0 := fun q : Drift.Tide [] wr [] => Drift.Tide.cell g0 (by simp) q
      have tg1 := fun q : Drift.Tide [] wr [] => Drift.Tide.cell g1 (by simp) q
      have tg2 := fun q : Drift.Tide [] wr [] => Drift.Tide.cell g2 (by simp) q
      have tg3 := fun q : Drift.Tide [] wr [] => Drift.Tide.cell g3 (by simp) q
      have tg4 := fun q : Drift.Tide [] wr [] => Drift.Tide.cell g4 (by simp) q
      have tg5 := fun q : Drift.Tide [] wr [] => Drift.Tide.cell g5 (by simp) q
      have tg6 := fun q : Drift.Tide [] wr [] => Drift.Tide.cell g6 (by simp) q
      have tg7 := fun q : Drift.Tide [] wr [] => Drift.Tide.cell g7 (by simp) q
      have td0 := fun q : Drift.Tide [] wr [] => Drift.Tide.cell d0 (by simp) q
      have td1 := fun q : Drift.Tide [] wr [] => Drift.Tide.cell d1 (by simp) q
      have td2 := fun q : Drift.Tide [] wr [] => Drift.Tide.cell d2 (by simp) q
      have td3 := fun q : Drift.Tide [] wr [] => Drift.Tide.cell d3 (by simp) q
      have td4 := fun q : Drift.Tide [] wr [] => Drift.Tide.cell d4 (by simp) q
      have tx0 := fun q : Drift.Tide [] wr [] => Drift.Tide.cell x0 (by simp) q
      have tx1 := fun q : Drift.Tide [] wr [] => Drift.Tide.cell x1 (by simp) q
      clear g0 g1 g2 g3 g4 g5 g6 g7 d0 d1 d2 d3 d4 x0 x1
      refine Drift.wp_region_drift [] [(0,[]),(1,[]),(2,[]),(3,[]),(4,[]),(5,[]),(6,[]),(7,[]),(8,[]),(9,[]),(10,[]),(11,[]),(12,[]),(13,[]),(14,[]),(15,[]),(16,[])] [] [] (by kernel_rfl) (by kernel_rfl) (by simp) ?_
      simp only [Drift.pick, Drift.opsAt, List.getElem?_toArray, List.getElem?_cons_zero, List.getElem?_cons_succ, List.cons_append, List.nil_append, List.filterMap_nil]
      iterate 14 (refine Drift.walk_step (fun K hK => ?_); go_simp; (refine hK _ ?_; clear hK K))
      refine Drift.walk_step (fun K hK => ?_); go_simp; (apply Exists.intro; refine ⟨fun q => ?_, hK _ ?_⟩; (go_at_call 46; exact (c5 _).out); clear hK K)
      iterate 2 (refine Drift.walk_step (fun K hK => ?_); go_simp; (refine hK _ ?_; clear hK K))
      refine Drift.walk_nil ?_
      intro w7 hb _
      replace HB := Lib.hid (HB.out.kept hb)
      clear hb tg0 tg1 tg2 tg3 tg4 tg5 tg6 tg7 td0 td1 td2 td3 td4 tx0 tx1 c5 hcat
      simp only [List.length_cons, List.length_nil, List.drop_succ_cons, List.drop_nil, Nat.zero_add, Nat.reduceAdd]
      have hw : IntKind.i64.wrap ((k : Int) + 1) = ((k + 1 : Nat) : Int) := by rw [IntKind.wrap_i64]; omega
      go_wp2_with fail
      go_roundg (qn - (k + 1))
      case measure => omega
      case rel => exact ⟨k + 1, t2, hlt, rfl, by go_num, rfl, HT2, HB⟩
    · obtain rfl : k = qn := by omega
      have HE2 : Hid (t = E) := by unfold Hid; rw [HT.out, HEE.out, HALL.out _ rfl]
      obtain rfl := HE2.out
      clear hlt HCAT HALL HZ c4 HT HEE HE2
      go_wp2_with (go_at_call 47; refine (c3 _).out.mono ?_; rintro e w8 ⟨rfl, hb⟩; replace HB := Lib.hid (HB.out.kept hb))
      go_ret
      exact ⟨rfl, HB.out.below⟩
end No
end Go.Proofs.YtgpbioljldkmaaaGreat
