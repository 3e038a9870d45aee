/-
  CodeC1, CodeP2, MsgArgs, PairArgs, StrArgs, KidArgs, NodeG, NodeR2, Conf4, CodeR3. Put together by pack.py.
-/
import Derived.Test.YtgpbioljldkmaaaPkAA
import Derived.Test.YtgpbioljldkmaaaPkAG
import Derived.Test.YtgpbioljldkmaaaPkAB
import Derived.Test.YtgpbioljldkmaaaPqDrift
import Derived.SliceStrings
import Derived.Laws.Concat

namespace Go.Proofs.Ytgpbioljldkmaaa
open Go.RowKit
namespace No
open Mem Lx Bu Lf Fa
open Wd (be val be_length val_be isW u8info)
/-- the cells of a writer -/
def wrCs (c : Cfg) (v : Value) : Array Value := #[.int .i64 c.blocks, .int .i64 c.bytes, .int .i64 c.frames, .int .i64 c.fan, .int .i64 c.buffer, .int .i64 c.leaf, .int .i64 c.key, .int .i64 c.val, v]
/-- what lies in memory but the writer's own stays -/
abbrev Kw (B : Nat) (w w' : World) : Prop := Kp 5 62 B w w'
/-- a writer at block g, with the bytes xs written -/
structure Wr (c : Cfg) (B : Nat) (w : World) (g : Nat) (xs : List UInt8) : Prop where
  at_ : B ≤ g
  ex : ∃ v, w.heap[g]? = some (.cells (wrCs c v) 62 (0, 0)) ∧ Own 5 w B v xs
section
variable {c : Cfg} {B g : Nat} {w w' w1 : World} {xs ys : List UInt8} {v v' : Value}
theorem Wr.lt (h : Wr c B w g xs) : g < w.heap.size := by
  obtain ⟨v, h1, -⟩ := h.ex
  exact (Array.getElem?_eq_some_iff.1 h1).1
theorem Wr.hB (h : Wr c B w g xs) : B ≤ w.heap.size := Nat.le_trans h.at_ (Nat.le_of_lt h.lt)
theorem Wr.kept (h : Wr c B w g xs) (hb : Below w.heap.size w w') : Wr c B w' g xs := by
  obtain ⟨v, h1, h2⟩ := h.ex
  exact ⟨h.at_, v, kept3 h1 hb, h2.kept hb⟩
theorem wr_grown (h1 : w.heap[g]? = some (.cells (wrCs c v) 62 (0, 0))) (h2 : Own 5 w B v xs) (hg : w.grownBy w1 v.ownBlock) : w1.heap[g]? = some (.cells (wrCs c v) 62 (0, 0)) :=
  (hg.block g (Array.getElem?_eq_some_iff.1 h1).1 fun e => by
    obtain ⟨-, C, hc⟩ := h2.row g e.symm
    rw [h1] at hc
    simp only [Option.some.injEq, Obj.cells.injEq] at hc
    exact absurd hc.2.1 (by decide)).trans h1
theorem wr_app (hat : B ≤ g) (h1 : w.heap[g]? = some (.cells (wrCs c v) 62 (0, 0))) (h2 : Own 5 w B v xs) (hg : w.grownBy w1 v.ownBlock) (h3 : Own 5 w1 B v' ys) : Wr c B (w1.setCell ⟨g, 8, none⟩ v') g ys ∧ Kw B w (w1.setCell ⟨g, 8, none⟩ v') := by
  have hB := Nat.le_trans hat (Nat.le_of_lt (Array.getElem?_eq_some_iff.1 h1).1)
  have hx := wr_grown h1 h2 hg
  exact ⟨⟨hat, v', by simp [World.setCell, Array.getElem?_modify, hx, wrCs], h3.set_other hx (by decide) _⟩, (h2.grown hg hB).set hat hx (.inr rfl) _⟩
theorem wr_cells (h1 : w.heap[g]? = some (.cells (wrCs c v) 62 (0, 0))) : w.cell? ⟨g, 8, none⟩ = some v ∧ w.cell? ⟨g, 3, none⟩ = some (.int .i64 c.fan) ∧ w.cell? ⟨g, 6, none⟩ = some (.int .i64 c.key) ∧ w.cell? ⟨g, 7, none⟩ = some (.int .i64 c.val) ∧ w.frozen? ⟨g, 8, none⟩ = false := by
  simp [World.cell?, World.frozen?, h1, wrCs]
end
set_option maxRecDepth 100000 in
set_option maxHeartbeats 1000000 in
theorem WZeros_any (c : Cfg) {B : Nat} {w : World} {g : Nat} {xs : List UInt8} (h : Wr c B w g xs) (n : Nat) (hx : xs.length + n ≤ 1048576) : Calls Try.prog 28 #[.pointer (some ⟨g, 0, none⟩), .int .i64 (n : Int)] w fun e w' => e = .returned (.tuple #[]) ∧ Wr c B w' g (xs ++ List.replicate n 0) ∧ Kw B w w' := by
  obtain ⟨v, h1, h2⟩ := h.ex
  have hat := h.at_
  have hB := h.hB
  have HX := Lib.hid h1
  have HO := Lib.hid h2
  obtain ⟨c8, -, -, -, f8⟩ := wr_cells h1
  clear h h1 h2
  go_enter Try.func28, Try.ntmps28
  go_wp2_with (refine wpList_append_zeros rfl (.tmp 8) (.tmp 9) 33 3 9 rfl B 5 Try.underlying33 Try.underlying3 Try.underlying9 u8info v xs rfl HO.out n rfl hx hB ?_; intro v' w1 HO1 hg; obtain ⟨A', m', c', rfl⟩ := Own.sl HO1.out; have HA := Lib.hid (wr_app hat HX.out HO.out hg HO1.out); obtain ⟨c8', -, -, -, f8'⟩ := wr_cells (wr_grown HX.out HO.out hg); clear hg c8 f8)
  go_end0
  exact ⟨rfl, HA.out⟩
/-- what Put leaves -/
def EvBl (n : Nat) (l : List UInt8) (v : Value) (w : World) : Prop := ∃ A c, v = .slice A n c ∧ BL w A l
set_option maxRecDepth 100000 in
set_option maxHeartbeats 1000000 in
theorem WNum_any (c : Cfg) {B : Nat} {w : World} {g : Nat} {xs : List UInt8} (h : Wr c B w g xs) (wd v : Nat) (hw : isW (wd : Int) = true) (hv : v < 9223372036854775808) (hx : xs.length ≤ 1048000) : Calls Try.prog 40 #[.pointer (some ⟨g, 0, none⟩), .int .i64 (wd : Int), .int .i64 (v : Int)] w fun e w' => e = .returned (.tuple #[]) ∧ Wr c B w' g (xs ++ be wd v) ∧ Kw B w w' := by
  obtain ⟨u, h1, h2⟩ := h.ex
  have hat := h.at_
  have hB := h.hB
  have HX := Lib.hid h1
  have HO := Lib.hid h2
  obtain ⟨c8, -, -, -, -⟩ := wr_cells h1
  have hwd : wd ≤ 8 := by have := Wd.isW_cases hw; omega
  have cP : ∀ W, Hid (Calls Try.prog 64 #[.slice none 0 0, .int .i64 (wd : Int), .int .u64 (v : Int)] W fun e w' => (∃ A k, e = .returned (.slice A wd k) ∧ BL w' A (be wd v)) ∧ Below W.heap.size W w') := fun W => by
    refine (Wd.Put_width none 0 [] wd v W (BL.nil _ _) (by simp) hw (by omega)).mono ?_
    rintro e w' ⟨rfl, hr, hb⟩
    rw [List.nil_append] at hr
    rw [List.length_nil, Nat.zero_add]
    exact ⟨⟨_, _, rfl, hr.bl⟩, hb⟩
  have hu : IntKind.u64.wrap (v : Int) = (v : Int) := by rw [IntKind.wrap_u64]; omega
  have hsz : xs.length + wd ≤ 140737488355328 := by omega
  have HL : Hid ((be wd v).length = wd) := be_length _ _
  have td := fun q : Drift.Tide [] w [] => Drift.Tide.cell c8 (by simp) q
  clear h h1 h2 hw hv hx hwd c8
  go_enter Try.func40, Try.ntmps40
  refine Drift.wp_region_drift_late [] [(0,[]),(1,[]),(2,[]),(3,[]),(4,[]),(5,[]),(6,[]),(7,[]),(8,[])] [8] [] [0] (by kernel_rfl) (by kernel_rfl) (by simp) ?_
  simp only [Drift.pick, Drift.opsAt, List.getElem?_toArray, List.getElem?_cons_zero, List.getElem?_cons_succ, List.cons_append, List.nil_append, List.filterMap_nil]
  refine Drift.walk_clear rfl (.pointer (some ⟨g, 0, none⟩)) (fun W => by go_simp) ?_
  repeat (refine Drift.walk_step (fun K hK => ?_); go_simp; (refine hK _ ?_; clear hK K))
  refine Drift.walk_event rfl Drift.mkwalk_nil (EvBl wd (be wd v)) (fun W2 hk _ => ?_) (fun y w2 hv hI _ hTd => ?_)
  · go_simp
    go_at_call 64
    refine (cP _).out.mono ?_
    rintro e w' ⟨⟨A, k, rfl, hbl⟩, hb⟩
    exact ⟨_, rfl, ⟨_, _, rfl, hbl⟩, Flow.Into.of_below hb⟩
  obtain ⟨A, k, rfl, hbl⟩ := hv
  refine Drift.walk_nil ?_
  intro w6 hb6 _
  have hb : Below w.heap.size w w6 := hI.below.trans (hb6.mono hI.below.size)
  have HK : Hid (Kw B w w6) := Kp.of_below hb hB
  have HBL := Lib.hid (hbl.below hb6)
  replace HX := Lib.hid (kept3 HX.out hb)
  replace HO := Lib.hid (HO.out.kept hb)
  have hB6 : B ≤ w6.heap.size := Nat.le_trans hB hb.size
  clear hb hb6 hI hTd hbl td cP hu hB
  simp only [List.length_cons, List.length_nil, List.drop_succ_cons, List.drop_zero, Nat.zero_add, Nat.reduceAdd]
  go_wp2_with (refine wpList_append_bytes rfl (.tmp 10) (.tmp 14) 33 rfl B 5 Try.underlying33 u8info u xs rfl HO.out A wd k (be wd v) rfl HL.out HBL.out hsz hB6 ?_; intro v' w1 HO1 hg _; obtain ⟨A', m', c', rfl⟩ := Own.sl HO1.out; have HA := Lib.hid (wr_app hat HX.out HO.out hg HO1.out); obtain ⟨c8', -, -, -, f8'⟩ := wr_cells (wr_grown HX.out HO.out hg); clear hg)
  rw [Flow.Nrm_normal]
  go_end0
  exact ⟨rfl, HA.out.1, HK.out.trans HA.out.2⟩
set_option maxRecDepth 100000 in
set_option maxHeartbeats 1000000 in
theorem WText_any (c : Cfg) {B : Nat} {w : World} {g : Nat} {xs : List UInt8} (h : Wr c B w g xs) (s : ByteArray) (most : Nat) (hs : s.size ≤ most) (hx : xs.length + most ≤ 1048000) : Calls Try.prog 42 #[.pointer (some ⟨g, 0, none⟩), .string s, .int .i64 (most : Int)] w fun e w' => e = .returned (.tuple #[]) ∧ Wr c B w' g (xs ++ slotL (txt s) most) ∧ Kw B w w' := by
  obtain ⟨u, h1, h2⟩ := h.ex
  have hat := h.at_
  have hB := h.hB
  have HX := Lib.hid h1
  have HO := Lib.hid h2
  obtain ⟨c8, -, -, -, -⟩ := wr_cells h1
  obtain ⟨d, hd⟩ : ∃ d, d = most - s.size := ⟨_, rfl⟩
  have hsl : slotL (txt s) most = txt s ++ List.replicate d 0 := by
    unfold slotL zs
    rw [txt_len, hd]
    congr 2
    omega
  have hsz : xs.length + s.size ≤ 1048576 := by omega
  have hz : (xs ++ txt s).length + d ≤ 1048576 := by
    rw [List.length_append, txt_len]
    omega
  have hsub : IntKind.i64.wrap ((most : Int) - (s.size : Int)) = (d : Int) := by
    rw [IntKind.wrap_i64]
    omega
  rw [hsl, ← List.append_assoc]
  clear h h1 h2 hs hsl hd hx
  go_enter Try.func42, Try.ntmps42
  go_upto_region 1 with (refine wpList_append_text rfl (.tmp 10) (.tmp 11) 33 9 rfl B 5 Try.underlying33 Try.underlying9 u8info u xs rfl HO.out s rfl hsz hB ?_; intro v' w1 HO1 hg; obtain ⟨A', m', c', rfl⟩ := Own.sl HO1.out; have HA := Lib.hid (wr_app hat HX.out HO.out hg HO1.out); obtain ⟨c8', -, -, -, f8'⟩ := wr_cells (wr_grown HX.out HO.out hg); clear hg c8)
  clear HO1 c8' f8'
  generalize w1.setCell ⟨g, 8, none⟩ (.slice A' m' c') = w2 at *
  have HW : Hid (Wr c B w2 g (xs ++ txt s)) := HA.out.1
  go_wp2_with (go_at_call 28; refine (WZeros_any c HW.out d hz).mono ?_; rintro e w3 ⟨rfl, hw, hk⟩; have HW3 := Lib.hid hw; have HK3 := Lib.hid (HA.out.2.trans hk); clear hw hk)
  go_end0
  exact ⟨rfl, HW3.out, HK3.out⟩
set_option maxRecDepth 100000 in
set_option maxHeartbeats 1000000 in
theorem NodeMark_any (lv : Nat) (w : World) : Calls Try.prog 41 #[.int .i64 (lv : Int)] w fun e w' => e = .returned (.int .i64 (((if lv = 0 then 1 else 2 : Nat)) : Int)) ∧ w = w' := by
  by_cases h : lv = 0
  · subst h
    go_enter Try.func41, Try.ntmps41
    go_wp2
    go_ret
    exact ⟨rfl, rfl⟩
  · have HR : Hid ((if lv = 0 then 1 else 2 : Nat) = 2) := if_neg h
    have h1 : ((lv : Int) == 0) = false := by simp; omega
    rw [HR.out]
    clear h HR
    go_enter Try.func41, Try.ntmps41
    go_wp2
    go_ret
    exact ⟨rfl, rfl⟩
theorem MsgMark_any (d : Bool) (w : World) : Calls Try.prog 43 #[.bool d] w fun e w' => e = .returned (.int .i64 ((kindB d).toNat : Int)) ∧ w = w' := by
  cases d
  all_goals
    go_enter Try.func43, Try.ntmps43
    go_wp2
    go_ret
    exact ⟨rfl, rfl⟩
set_option maxRecDepth 100000 in
set_option maxHeartbeats 1000000 in
theorem WTop_any (c : Cfg) {B : Nat} {w : World} {g : Nat} {xs : List UInt8} (h : Wr c B w g xs) (lv np nm : Nat) (hx : xs.length ≤ 1000) (h1 : lv < 9223372036854775808) (h2 : np < 9223372036854775808) (h3 : nm < 9223372036854775808) : Calls Try.prog 23 #[.pointer (some ⟨g, 0, none⟩), .int .i64 (lv : Int), .int .i64 (np : Int), .int .i64 (nm : Int)] w fun e w' => e = .returned (.tuple #[]) ∧ Wr c B w' g (xs ++ (be 1 (if lv = 0 then 1 else 2) ++ (be 1 lv ++ (be 2 np ++ (be 2 nm ++ zs 2))))) ∧ Kw B w w' := by
  have c0 := fun w => Lib.hid (NodeMark_any lv w)
  obtain ⟨mk, hmk⟩ : ∃ mk, mk = (if lv = 0 then 1 else 2 : Nat) := ⟨_, rfl⟩
  have hm9 : mk < 9223372036854775808 := by
    rw [hmk]
    split <;> omega
  rw [← hmk] at c0 ⊢
  clear hmk
  have cN1 : ∀ (w : World) (xs : List UInt8) (v : Nat), Wr c B w g xs → v < 9223372036854775808 → xs.length ≤ 1048000 → Hid (Calls Try.prog 40 #[.pointer (some ⟨g, 0, none⟩), .int .i64 1, .int .i64 (v : Int)] w fun e w' => e = .returned (.tuple #[]) ∧ Wr c B w' g (xs ++ be 1 v) ∧ Kw B w w') := fun w xs v h hv hx => WNum_any c h 1 v rfl hv hx
  have cN2 : ∀ (w : World) (xs : List UInt8) (v : Nat), Wr c B w g xs → v < 9223372036854775808 → xs.length ≤ 1048000 → Hid (Calls Try.prog 40 #[.pointer (some ⟨g, 0, none⟩), .int .i64 2, .int .i64 (v : Int)] w fun e w' => e = .returned (.tuple #[]) ∧ Wr c B w' g (xs ++ be 2 v) ∧ Kw B w w') := fun w xs v h hv hx => WNum_any c h 2 v rfl hv hx
  have cZ : ∀ (w : World) (xs : List UInt8), Wr c B w g xs → xs.length ≤ 1048000 → Hid (Calls Try.prog 28 #[.pointer (some ⟨g, 0, none⟩), .int .i64 2] w fun e w' => e = .returned (.tuple #[]) ∧ Wr c B w' g (xs ++ zs 2) ∧ Kw B w w') := fun w xs h hx => WZeros_any c h 2 (by omega)
  have H1 := Lib.hid h1
  have H2 := Lib.hid h2
  have H3 := Lib.hid h3
  have HM := Lib.hid hm9
  have HW := Lib.hid h
  have HX := Lib.hid hx
  clear h h1 h2 h3 hm9 hx
  go_enter Try.func23, Try.ntmps23
  go_upto_region 1 with (first
    | (go_at_call 41; refine (c0 _).out.mono ?_; rintro e w' ⟨rfl, rfl⟩)
    | (go_at_call 40; refine (cN1 _ _ mk HW.out HM.out (by have := HX.out; omega)).out.mono ?_; rintro e w1 ⟨rfl, hw, hk⟩; have HW1 := Lib.hid hw; have HK1 := Lib.hid hk; clear hw hk))
  go_upto_region 2 with (go_at_call 40; refine (cN1 _ _ lv HW1.out H1.out (by have := HX.out; simp only [List.length_append, be_length]; omega)).out.mono ?_; rintro e w2 ⟨rfl, hw, hk⟩; have HW2 := Lib.hid hw; have HK2 := Lib.hid (HK1.out.trans hk); clear hw hk HW1 HK1)
  go_upto_region 3 with (go_at_call 40; refine (cN2 _ _ np HW2.out H2.out (by have := HX.out; simp only [List.length_append, be_length]; omega)).out.mono ?_; rintro e w3 ⟨rfl, hw, hk⟩; have HW3 := Lib.hid hw; have HK3 := Lib.hid (HK2.out.trans hk); clear hw hk HW2 HK2)
  go_upto_region 4 with (go_at_call 40; refine (cN2 _ _ nm HW3.out H3.out (by have := HX.out; simp only [List.length_append, be_length]; omega)).out.mono ?_; rintro e w4 ⟨rfl, hw, hk⟩; have HW4 := Lib.hid hw; have HK4 := Lib.hid (HK3.out.trans hk); clear hw hk HW3 HK3)
  go_wp2_with (go_at_call 28; refine (cZ _ _ HW4.out (by have := HX.out; simp only [List.length_append, be_length]; omega)).out.mono ?_; rintro e w5 ⟨rfl, hw, hk⟩; have HW5 := Lib.hid hw; have HK5 := Lib.hid (HK4.out.trans hk); clear hw hk HW4 HK4)
  go_end0
  refine ⟨rfl, ?_, HK5.out⟩
  have := HW5.out
  simp only [List.append_assoc] at this
  exact this
end No
end Go.Proofs.Ytgpbioljldkmaaa

namespace Go.Proofs.Ytgpbioljldkmaaa
open Go.RowKit
namespace No
open Mem Lx Bu Lf Fa
open Wd (be val be_length val_be)
variable {c : Cfg} {n : Nd}
theorem keyB_le {k : ByteArray} (h : keyB c k = true) : 1 ≤ k.size ∧ (k.size : Int) ≤ c.key := by
  unfold keyB at h
  simp only [Bool.and_eq_true, decide_eq_true_eq] at h
  omega
/-- what settings say, as numbers -/
structure SetOk (c : Cfg) (F B L K V : Nat) : Prop where
  fan : c.fan = F
  buffer : c.buffer = B
  leaf : c.leaf = L
  key : c.key = K
  val : c.val = V
  f : 8 ≤ F ∧ F ≤ 64
  b : B ≤ 512
  l : L ≤ 1024
  k : 1 ≤ K ∧ K ≤ 64
  v : V ≤ 256
  inn : ((8 + 4 * F + (1 + K) * (F - 1) + B * (4 + K + V) : Nat) : Int) ≤ c.bytes
  out : ((8 + L * (3 + K + V) : Nat) : Int) ≤ c.bytes
  bytes : 64 ≤ c.bytes ∧ c.bytes ≤ 65536
  blocks : c.blocks ≤ 65536
theorem set_ok (h : Cf.Right c.blocks c.bytes c.frames c.fan c.buffer c.leaf c.key c.val) : ∃ F B L K V, SetOk c F B L K V := by
  obtain ⟨hs, ⟨hb1, hb2⟩, hf, hy1, hy2⟩ := h
  have hs' := hs
  unfold Cf.Shape at hs'
  obtain ⟨⟨f1, f2⟩, ⟨u1, u2⟩, ⟨l1, l2⟩, ⟨k1, k2⟩, ⟨v1, v2⟩⟩ := hs'
  obtain ⟨F, hF⟩ : ∃ F : Nat, c.fan = F := ⟨c.fan.toNat, by omega⟩
  obtain ⟨B, hB⟩ : ∃ B : Nat, c.buffer = B := ⟨c.buffer.toNat, by omega⟩
  obtain ⟨L, hL⟩ : ∃ L : Nat, c.leaf = L := ⟨c.leaf.toNat, by omega⟩
  obtain ⟨K, hK⟩ : ∃ K : Nat, c.key = K := ⟨c.key.toNat, by omega⟩
  obtain ⟨V, hV⟩ : ∃ V : Nat, c.val = V := ⟨c.val.toNat, by omega⟩
  refine ⟨F, B, L, K, V, hF, hB, hL, hK, hV, by omega, by omega, by omega, by omega, by omega, ?_, ?_, ?_, hb2⟩
  · have h1 : Cf.inn c.fan c.buffer c.key c.val ≤ c.bytes := by
      unfold Cf.few at hy1
      omega
    unfold Cf.inn at h1
    rw [hF, hB, hK, hV] at h1
    obtain ⟨G, rfl⟩ : ∃ G, F = G + 1 := ⟨F - 1, by omega⟩
    have e1 : (G + 1 : Nat) - 1 = G := rfl
    have e2 : ((G + 1 : Nat) : Int) - 1 = G := by omega
    rw [e2] at h1
    rw [e1]
    have e3 : ((1 + K) * G : Nat) = G * (1 + K) := Nat.mul_comm _ _
    rw [e3]
    push_cast at h1 ⊢
    omega
  · have h1 : Cf.out c.leaf c.key c.val ≤ c.bytes := by
      unfold Cf.few at hy1
      omega
    unfold Cf.out at h1
    rw [hL, hK, hV] at h1
    push_cast at h1 ⊢
    omega
  · unfold Cf.few at hy1
    omega
/-! ### a leaf -/
section
variable {F B L K V : Nat}
theorem leaf_len (hs : SetOk c F B L K V) (h : OuterP c ⟨#[]⟩ ⟨#[]⟩ true n) : (leafL c n).length = 8 + n.prs.length * (3 + K + V) ∧ n.prs.length ≤ L := by
  have hc : ∀ x ∈ n.prs, (pairL c x.1 x.2).length = 3 + K + V := fun x hx => by
    obtain ⟨h1, -, h3⟩ := h.each x hx
    rw [pairL_len (keyB_le h1).2 h3, hs.key, hs.val]
    rfl
  have := h.few
  have := hs.leaf
  refine ⟨?_, by omega⟩
  unfold leafL
  simp only [List.length_append, be_length, zs_len, chunk_len hc]
  simp
  omega
theorem mul_up {a b s : Nat} (h : a ≤ b) : a * s ≤ b * s := Nat.mul_le_mul_right s h
theorem leaf_cand (hs : SetOk c F B L K V) (h : OuterP c ⟨#[]⟩ ⟨#[]⟩ true n) (h0 : n.lv = 0) : (blockL c n).length = c.bytes.toNat ∧ candN c (blockL c n) = n := by
  have hc : ∀ x ∈ n.prs, (pairL c x.1 x.2).length = 3 + K + V := fun x hx => by
    obtain ⟨h1, -, h3⟩ := h.each x hx
    rw [pairL_len (keyB_le h1).2 h3, hs.key, hs.val]
    rfl
  obtain ⟨hl1, hl2⟩ := leaf_len hs h
  have hm := mul_up (s := 3 + K + V) hl2
  have ho := hs.out
  have hb1 := hs.bytes
  have e0 : blockL c n = slotL (leafL c n) c.bytes := by
    unfold blockL bodyL
    rw [if_pos h0]
  have hlen : (blockL c n).length = c.bytes.toNat := by
    rw [e0]
    refine slotL_len ?_
    rw [hl1]
    generalize n.prs.length * (3 + K + V) = X at *
    generalize L * (3 + K + V) = Y at *
    omega
  refine ⟨hlen, ?_⟩
  obtain ⟨Z, eb⟩ : ∃ Z, blockL c n = [1, 0] ++ (be 2 n.prs.length ++ (zs 4 ++ ((n.prs.flatMap fun x => pairL c x.1 x.2) ++ Z))) := by
    refine ⟨zs (c.bytes - (leafL c n).length), ?_⟩
    rw [e0]
    unfold slotL
    generalize zs (c.bytes - (leafL c n).length) = Z
    unfold leafL
    simp only [List.append_assoc]
  have d1 : atL (blockL c n) 1 1 = 0 := by
    unfold atL
    rw [eb]
    rfl
  have d2 : atL (blockL c n) 2 2 = n.prs.length := at_be (R := zs 4 ++ ((n.prs.flatMap fun x => pairL c x.1 x.2) ++ Z)) (by rw [eb]; exact List.drop_left' rfl) (by have := hs.l; omega)
  have ek : c.key.toNat = K := by rw [hs.key]; rfl
  have ev : c.val.toNat = V := by rw [hs.val]; rfl
  unfold candN
  rw [if_pos d1, d2, ek, ev, hlen, many_all (by omega) (by
    generalize n.prs.length * (3 + K + V) = X at *
    generalize L * (3 + K + V) = Y at *
    omega)]
  obtain ⟨lv, Ks, P, Bu, Q⟩ := n
  obtain rfl : lv = 0 := h0
  obtain rfl : Ks = [] := List.eq_nil_of_length_eq_zero h.kids
  obtain rfl : P = [] := List.eq_nil_of_length_eq_zero h.piv
  obtain rfl : Bu = [] := List.eq_nil_of_length_eq_zero h.buf
  congr 1
  refine range_map fun k x hx => ?_
  obtain ⟨h1, -, h3⟩ := h.each x (List.mem_of_getElem? hx)
  have h1' := keyB_le h1
  have hk := hs.key
  have hv := hs.val
  have hk2 := hs.k
  have hv2 := hs.v
  obtain ⟨R, hR⟩ := chunk_at hc ([1, 0] ++ (be 2 Q.length ++ zs 4)) Z (a := 8) (by simp [zs_len]) hx
  refine pair_at (R := R) ?_ (by omega) (by omega) h1'.2
  rw [eb]
  simp only [List.append_assoc] at hR ⊢
  exact hR
/-! ### another node -/
/-- the four lists of chunks, by their lengths -/
theorem inner_len (hs : SetOk c F B L K V) (h : InnerP c ⟨#[]⟩ ⟨#[]⟩ true n) : (n.kids.flatMap (be 4)).length = n.kids.length * 4 ∧ (n.piv.flatMap (pvL c)).length = n.piv.length * (1 + K) ∧ (n.buf.flatMap (msL c)).length = n.buf.length * (4 + K + V) ∧ (innL c n).length = 8 + 4 * F + (1 + K) * (F - 1) + n.buf.length * (4 + K + V) ∧ n.buf.length ≤ B := by
  have hk : (n.kids.flatMap (be 4)).length = n.kids.length * 4 := chunk_len fun x _ => be_length 4 x
  have hp : (n.piv.flatMap (pvL c)).length = n.piv.length * (1 + K) := chunk_len fun x hx => by
    rw [pvL_len (keyB_le (h.piv x hx)).2, hs.key]
    rfl
  have hm : (n.buf.flatMap (msL c)).length = n.buf.length * (4 + K + V) := chunk_len fun x hx => by
    obtain ⟨h1, -, h3, -⟩ := h.buf x hx
    rw [msL_len (keyB_le h1).2 h3, hs.key, hs.val]
    rfl
  have h1 := h.fan
  have h2 := h.fewer
  have h3 := h.few
  have h4 := hs.fan
  have h5 := hs.buffer
  have h6 := hs.f
  refine ⟨hk, hp, hm, ?_, by omega⟩
  unfold innL
  simp only [List.length_append, be_length, zs_len, hk, hp, hm, List.length_cons, List.length_nil, hs.fan, hs.key]
  have e1 : (4 * ((F : Int) - n.kids.length)).toNat = 4 * F - n.kids.length * 4 := by omega
  have e2 : ((1 + (K : Int)) * ((F : Int) - 1 - n.piv.length)).toNat = (1 + K) * (F - 1) - n.piv.length * (1 + K) := by
    obtain ⟨r, hr⟩ : ∃ r : Nat, F - 1 = n.piv.length + r := ⟨F - 1 - n.piv.length, by omega⟩
    have e3 : ((F : Int) - 1 - n.piv.length) = (r : Int) := by omega
    rw [e3, hr, Nat.mul_add, Nat.mul_comm (1 + K) n.piv.length, Nat.add_sub_cancel_left]
    have e4 : (1 + (K : Int)) * (r : Int) = (((1 + K) * r : Nat) : Int) := by
      rw [Int.natCast_mul]
      rfl
    rw [e4]
    rfl
  have e5 : n.piv.length * (1 + K) ≤ (1 + K) * (F - 1) := by
    rw [Nat.mul_comm (1 + K)]
    exact mul_up (by omega)
  rw [e1, e2]
  generalize n.piv.length * (1 + K) = X at *
  generalize (1 + K) * (F - 1) = Y at *
  generalize n.buf.length * (4 + K + V) = Z at *
  omega
theorem inner_cand (hs : SetOk c F B L K V) (h : InnerP c ⟨#[]⟩ ⟨#[]⟩ true n) (h0 : 0 < n.lv) : (blockL c n).length = c.bytes.toNat ∧ candN c (blockL c n) = n := by
  obtain ⟨hl1, hl2, hl3, hl4, hl5⟩ := inner_len hs h
  have hm := mul_up (s := 4 + K + V) hl5
  have hi := hs.inn
  have hb1 := hs.bytes
  have hlv := h.lv
  have h1 := h.fan
  have h2 := h.fewer
  have h3 := h.one
  have h4 := hs.fan
  have h6 := hs.f
  have h7 := hs.b
  have hk := hs.key
  have hv := hs.val
  have hk2 := hs.k
  have hv2 := hs.v
  have e0 : blockL c n = slotL (innL c n) c.bytes := by
    unfold blockL bodyL
    rw [if_neg (by omega)]
  have hlen : (blockL c n).length = c.bytes.toNat := by
    rw [e0]
    refine slotL_len ?_
    rw [hl4]
    generalize n.buf.length * (4 + K + V) = X at *
    generalize B * (4 + K + V) = Y at *
    generalize (1 + K) * (F - 1) = U at *
    omega
  refine ⟨hlen, ?_⟩
  obtain ⟨Z1, hz1, e1⟩ : ∃ Z1 : List UInt8, Z1.length + n.kids.length * 4 = 4 * F ∧ zs (4 * (c.fan - n.kids.length)) = Z1 := ⟨_, by rw [zs_len, hs.fan]; omega, rfl⟩
  obtain ⟨Z2, hz2, e2⟩ : ∃ Z2 : List UInt8, n.piv.length * (1 + K) + Z2.length = (1 + K) * (F - 1) ∧ zs ((1 + c.key) * (c.fan - 1 - n.piv.length)) = Z2 := by
    refine ⟨_, ?_, rfl⟩
    rw [zs_len, hs.fan, hs.key]
    obtain ⟨r, hr⟩ : ∃ r : Nat, F - 1 = n.piv.length + r := ⟨F - 1 - n.piv.length, by omega⟩
    have e3 : ((F : Int) - 1 - n.piv.length) = (r : Int) := by omega
    have e4 : (1 + (K : Int)) * (r : Int) = (((1 + K) * r : Nat) : Int) := by
      rw [Int.natCast_mul]
      rfl
    rw [e3, e4, hr, Nat.mul_add (1 + K), Nat.mul_comm (1 + K) n.piv.length]
    rfl
  obtain ⟨Z, eb⟩ : ∃ Z, blockL c n = [2] ++ (be 1 n.lv.toNat ++ (be 2 n.kids.length ++ (be 2 n.buf.length ++ (zs 2 ++ (n.kids.flatMap (be 4) ++ (Z1 ++ (n.piv.flatMap (pvL c) ++ (Z2 ++ (n.buf.flatMap (msL c) ++ Z))))))))) := by
    refine ⟨zs (c.bytes - (innL c n).length), ?_⟩
    rw [e0]
    unfold slotL
    generalize zs (c.bytes - (innL c n).length) = Z
    unfold innL
    rw [e1, e2]
    simp only [List.append_assoc]
  clear e1 e2
  have d0 := drop_more (b := blockL c n) (i := 0) (j := 1) (X := [2]) eb rfl
  have d1 := drop_more d0 (be_length 1 _)
  have d2 := drop_more d1 (be_length 2 _)
  have d3 := drop_more d2 (be_length 2 _)
  have d4 := drop_more (j := 2) d3 rfl
  have a1 : atL (blockL c n) 1 1 = n.lv.toNat := at_be d0 (by omega)
  have a2 : atL (blockL c n) 2 2 = n.kids.length := at_be d1 (by omega)
  have a3 : atL (blockL c n) 4 2 = n.buf.length := at_be d2 (by omega)
  have ek : c.key.toNat = K := by rw [hs.key]; rfl
  have ev : c.val.toNat = V := by rw [hs.val]; rfl
  have ef : c.fan.toNat = F := by rw [hs.fan]; rfl
  have em : manyF n.buf.length (8 + 4 * F + (1 + K) * (F - 1)) (4 + K + V) c.bytes.toNat = n.buf.length := many_all (by omega) (by
    generalize n.buf.length * (4 + K + V) = X at *
    generalize B * (4 + K + V) = Y at *
    generalize (1 + K) * (F - 1) = U at *
    omega)
  have hkid : ∀ k ∈ n.kids, k < 65536 := fun k hk => by
    obtain ⟨i, hi⟩ := List.mem_iff_getElem?.1 hk
    have := (h.kids i k hi).1.2
    have := hs.blocks
    omega
  unfold candN
  rw [if_neg (by rw [a1]; omega), a1, a2, a3, ek, ev, ef, hlen, em]
  rw [Nat.min_eq_left (show n.kids.length ≤ F by omega), Nat.min_eq_left (show n.kids.length - 1 ≤ F - 1 by omega), show n.kids.length - 1 = n.piv.length by omega]
  have r1 : ((List.range n.kids.length).map fun k => atL (blockL c n) (8 + k * 4) 4) = n.kids := range_map fun k x hx => by
    obtain ⟨R, hR⟩ := chunk_at (f := be 4) (S := 4) (fun x _ => be_length 4 x) ([2] ++ (be 1 n.lv.toNat ++ (be 2 n.kids.length ++ (be 2 n.buf.length ++ zs 2)))) (Z1 ++ (n.piv.flatMap (pvL c) ++ (Z2 ++ (n.buf.flatMap (msL c) ++ Z)))) (a := 8) (by simp [zs_len]) hx
    have hx2 := hkid x (List.mem_of_getElem? hx)
    refine at_be (R := R) ?_ (by omega)
    rw [eb]
    simp only [List.append_assoc] at hR ⊢
    exact hR
  have r2 : ((List.range n.piv.length).map fun k => pvAt (blockL c n) (8 + 4 * F + k * (1 + K))) = n.piv := range_map fun k x hx => by
    obtain ⟨R, hR⟩ := chunk_at (f := pvL c) (S := 1 + K) (fun x hx => by rw [pvL_len (keyB_le (h.piv x hx)).2, ek]) ([2] ++ (be 1 n.lv.toNat ++ (be 2 n.kids.length ++ (be 2 n.buf.length ++ (zs 2 ++ (n.kids.flatMap (be 4) ++ Z1)))))) (Z2 ++ (n.buf.flatMap (msL c) ++ Z)) (a := 8 + 4 * F) (by simp only [List.length_append, be_length, zs_len, hl1, List.length_cons, List.length_nil]; omega) hx
    have hx2 := keyB_le (h.piv x (List.mem_of_getElem? hx))
    refine piv_at (c := c) (R := R) ?_ (by omega)
    rw [eb]
    simp only [List.append_assoc] at hR ⊢
    exact hR
  have r3 : ((List.range n.buf.length).map fun k => msAt c (blockL c n) (8 + 4 * F + (1 + K) * (F - 1) + k * (4 + K + V))) = n.buf := range_map fun k x hx => by
    obtain ⟨R, hR⟩ := chunk_at (f := msL c) (S := 4 + K + V) (fun x hx => by
      obtain ⟨h1, -, h3, -⟩ := h.buf x hx
      rw [msL_len (keyB_le h1).2 h3, ek, ev]) ([2] ++ (be 1 n.lv.toNat ++ (be 2 n.kids.length ++ (be 2 n.buf.length ++ (zs 2 ++ (n.kids.flatMap (be 4) ++ (Z1 ++ (n.piv.flatMap (pvL c) ++ Z2)))))))) Z (a := 8 + 4 * F + (1 + K) * (F - 1)) (by
        simp only [List.length_append, be_length, zs_len, hl1, hl2, List.length_cons, List.length_nil]
        generalize n.piv.length * (1 + K) = X at *
        generalize (1 + K) * (F - 1) = U at *
        omega) hx
    obtain ⟨h8, -, h9, -⟩ := h.buf x (List.mem_of_getElem? hx)
    have h8' := keyB_le h8
    refine msg_at (R := R) ?_ (by omega) (by omega) h8'.2
    rw [eb]
    simp only [List.append_assoc] at hR ⊢
    exact hR
  rw [r1, r2, r3]
  obtain ⟨lv, Ks, P, Bu, Q⟩ := n
  obtain rfl : Q = [] := List.eq_nil_of_length_eq_zero h.prs
  simp only at h0 ⊢
  congr 1
  omega
end
/-! ### both -/
theorem block_cand (h : RightA c n) : (blockL c n).length = c.bytes.toNat ∧ candN c (blockL c n) = n := by
  obtain ⟨F, B, L, K, V, hs⟩ := set_ok h.1
  by_cases e : n.lv = 0
  · exact leaf_cand hs (h.2.1 e) e
  · exact inner_cand hs (h.2.2 e).2 (h.2.2 e).1
theorem block_inj {m : Nd} (h : RightA c n) (h' : RightA c m) (e : blockL c n = blockL c m) : n = m := by
  rw [← (block_cand h).2, e, (block_cand h').2]
/-- what bytes are: the node whose block they are -/
def ReadN (c : Cfg) (b : List UInt8) (r : Option Nd) : Prop := ∀ n, r = some n ↔ RightA c n ∧ blockL c n = b
theorem ReadN.one {b : List UInt8} {r s : Option Nd} (h : ReadN c b r) (h' : ReadN c b s) : r = s := by
  cases r with
  | none =>
    cases s with
    | none => rfl
    | some m => exact (h m).2 ((h' m).1 rfl)
  | some n => exact ((h' n).2 ((h n).1 rfl)).symm
end No
end Go.Proofs.Ytgpbioljldkmaaa

namespace Go.Proofs.Ytgpbioljldkmaaa
open Go.RowKit Go.WideShapes Go.ChangeShapes
namespace Bu
open Mem
set_option maxRecDepth 100000 in
theorem open_msgs_t {H : Type} {enc : TypeId × Value → H} {W : World} {v : Value} {d : DataW H} {p : List MemPlace} {fuel : Nat} (h : DataW.trod enc Try.prog W 0 (fun _ => true) true fuel 26 [v] = some (d, p)) :
    ∃ (A : Option Addr) (L : List Mg) (c : Nat), v = .slice A L.length c ∧ RC MgK W A c L ∧ L.length ≤ c ∧ c ≤ maxLen := by
  obtain ⟨A, len, c, rfl, hl, hm, hc⟩ := Args.open_structs_t Try.underlying26 Try.underlying40 (by kernel_rfl) (by kernel_rfl) (by decide) h
  by_cases h0 : 0 < len
  · obtain ⟨b, o, rfl, hcell⟩ := hc h0
    have each : ∀ i, i < len → ∃ m : Mg, W.cell? ⟨b, o + (i * 3 + 0), none⟩ = some (.string m.1) ∧ W.cell? ⟨b, o + (i * 3 + 1), none⟩ = some (.bool m.2.1) ∧ W.cell? ⟨b, o + (i * 3 + 2), none⟩ = some (.string m.2.2) := by
      intro i hi
      obtain ⟨u0, y0, n0, h0, k0, -⟩ := hcell i hi 0 _ rfl
      obtain ⟨u1, y1, n1, h1, k1, -⟩ := hcell i hi 1 _ rfl
      obtain ⟨u2, y2, n2, h2, k2, -⟩ := hcell i hi 2 _ rfl
      obtain ⟨s0, e0, _, _⟩ := DataW.trod_string Try.underlying9 k0
      obtain ⟨s1, e1, _⟩ := DataW.trod_bool Try.underlying4 k1
      obtain ⟨s2, e2, _, _⟩ := DataW.trod_string Try.underlying9 k2
      obtain rfl : u0 = _ := by simpa using e0
      obtain rfl : u1 = _ := by simpa using e1
      obtain rfl : u2 = _ := by simpa using e2
      exact ⟨(s0, s1, s2), h0, h1, h2⟩
    have each' : ∀ i, ∃ m : Mg, i < len → W.cell? ⟨b, o + (i * 3 + 0), none⟩ = some (.string m.1) ∧ W.cell? ⟨b, o + (i * 3 + 1), none⟩ = some (.bool m.2.1) ∧ W.cell? ⟨b, o + (i * 3 + 2), none⟩ = some (.string m.2.2) := fun i => by
      by_cases hi : i < len
      · obtain ⟨m, hm⟩ := each i hi
        exact ⟨m, fun _ => hm⟩
      · exact ⟨zeroM, fun h => absurd h hi⟩
    let F := fun i => Classical.choose (each' i)
    have hF : ∀ i, i < len → W.cell? ⟨b, o + (i * 3 + 0), none⟩ = some (.string (F i).1) ∧ W.cell? ⟨b, o + (i * 3 + 1), none⟩ = some (.bool (F i).2.1) ∧ W.cell? ⟨b, o + (i * 3 + 2), none⟩ = some (.string (F i).2.2) := fun i => Classical.choose_spec (each' i)
    have hb : b < W.heap.size := by
      have := (hF 0 h0).1
      rcases Nat.lt_or_ge b W.heap.size with h' | h'
      · exact h'
      · simp [World.cell?, Array.getElem?_eq_none h'] at this
    refine ⟨some ⟨b, o, none⟩, (List.range len).map F, c, by simp, ⟨fun _ => ⟨b, o, rfl, hb, fun i x hx j u hu => ?_⟩, by simpa using hl⟩, by simpa using hl, hm⟩
    obtain ⟨hi, hx⟩ := List.getElem?_eq_some_iff.1 hx
    have hi' : i < len := by simpa using hi
    obtain rfl : F i = x := by simpa using hx
    obtain ⟨e0, e1, e2⟩ := hF i hi'
    match j, hu with
    | 0, hu =>
      obtain rfl : Value.string (F i).1 = u := by simpa [MgK] using hu
      exact e0
    | 1, hu =>
      obtain rfl : Value.bool (F i).2.1 = u := by simpa [MgK] using hu
      exact e1
    | 2, hu =>
      obtain rfl : Value.string (F i).2.2 = u := by simpa [MgK] using hu
      exact e2
    | j + 3, hu => simp [MgK] at hu
  · obtain rfl : len = 0 := by omega
    exact ⟨A, [], c, rfl, ⟨fun h => absurd h (by simp), Nat.zero_le _⟩, Nat.zero_le _, hm⟩
end Bu
end Go.Proofs.Ytgpbioljldkmaaa

namespace Go.Proofs.Ytgpbioljldkmaaa
open Go.RowKit Go.WideShapes Go.ChangeShapes
namespace Lf
open Mem Bu
set_option maxRecDepth 100000 in
theorem open_prs_t {H : Type} {enc : TypeId × Value → H} {W : World} {v : Value} {d : DataW H} {p : List MemPlace} {fuel : Nat} (h : DataW.trod enc Try.prog W 0 (fun _ => true) true fuel 27 [v] = some (d, p)) :
    ∃ (A : Option Addr) (L : List Pr) (c : Nat), v = .slice A L.length c ∧ PC W A c L ∧ L.length ≤ c ∧ c ≤ maxLen ∧ ∀ m, m ∈ L → m.1.size ∈ d.weights Try.prog 27 ∧ m.2.size ∈ d.weights Try.prog 27 := by
  obtain ⟨A, len, c, rfl, hl, hm, hc⟩ := Args.open_structs_t Try.underlying27 Try.underlying42 (by kernel_rfl) (by kernel_rfl) (by decide) h
  by_cases h0 : 0 < len
  · obtain ⟨b, o, rfl, hcell⟩ := hc h0
    have each : ∀ i, i < len → ∃ m : Pr, W.cell? ⟨b, o + (i * 2 + 0), none⟩ = some (.string m.1) ∧ W.cell? ⟨b, o + (i * 2 + 1), none⟩ = some (.string m.2) ∧ m.1.size ∈ d.weights Try.prog 27 ∧ m.2.size ∈ d.weights Try.prog 27 := by
      intro i hi
      obtain ⟨u0, y0, n0, h0, k0, z0⟩ := hcell i hi 0 _ rfl
      obtain ⟨u1, y1, n1, h1, k1, z1⟩ := hcell i hi 1 _ rfl
      obtain ⟨s0, e0, rfl, _⟩ := DataW.trod_string Try.underlying9 k0
      obtain ⟨s1, e1, rfl, _⟩ := DataW.trod_string Try.underlying9 k1
      obtain rfl : u0 = _ := by simpa using e0
      obtain rfl : u1 = _ := by simpa using e1
      exact ⟨(s0, s1), h0, h1, z0 _ (by simp [DataW.weights]), z1 _ (by simp [DataW.weights])⟩
    have each' : ∀ i, ∃ m : Pr, i < len → W.cell? ⟨b, o + (i * 2 + 0), none⟩ = some (.string m.1) ∧ W.cell? ⟨b, o + (i * 2 + 1), none⟩ = some (.string m.2) ∧ m.1.size ∈ d.weights Try.prog 27 ∧ m.2.size ∈ d.weights Try.prog 27 := fun i => by
      by_cases hi : i < len
      · obtain ⟨m, hm⟩ := each i hi
        exact ⟨m, fun _ => hm⟩
      · exact ⟨(⟨#[]⟩, ⟨#[]⟩), fun h => absurd h hi⟩
    let F := fun i => Classical.choose (each' i)
    have hF : ∀ i, i < len → W.cell? ⟨b, o + (i * 2 + 0), none⟩ = some (.string (F i).1) ∧ W.cell? ⟨b, o + (i * 2 + 1), none⟩ = some (.string (F i).2) ∧ (F i).1.size ∈ d.weights Try.prog 27 ∧ (F i).2.size ∈ d.weights Try.prog 27 := fun i => Classical.choose_spec (each' i)
    have hb : b < W.heap.size := by
      have := (hF 0 h0).1
      rcases Nat.lt_or_ge b W.heap.size with h' | h'
      · exact h'
      · simp [World.cell?, Array.getElem?_eq_none h'] at this
    refine ⟨some ⟨b, o, none⟩, (List.range len).map F, c, by simp, ⟨fun _ => ⟨b, o, rfl, hb, fun i x hx j u hu => ?_⟩, by simpa using hl⟩, by simpa using hl, hm, fun m hmm => ?_⟩
    rotate_left
    · obtain ⟨i, hi, rfl⟩ := List.mem_map.1 hmm
      exact (hF i (by simpa using hi)).2.2
    obtain ⟨hi, hx⟩ := List.getElem?_eq_some_iff.1 hx
    have hi' : i < len := by simpa using hi
    obtain rfl : F i = x := by simpa using hx
    obtain ⟨e0, e1, -⟩ := hF i hi'
    match j, hu with
    | 0, hu =>
      obtain rfl : Value.string (F i).1 = u := by simpa [PrK] using hu
      exact e0
    | 1, hu =>
      obtain rfl : Value.string (F i).2 = u := by simpa [PrK] using hu
      exact e1
    | j + 2, hu => simp [PrK] at hu
  · obtain rfl : len = 0 := by omega
    exact ⟨A, [], c, rfl, ⟨fun h => absurd h (by simp), Nat.zero_le _⟩, Nat.zero_le _, hm, fun m hmm => by cases hmm⟩
end Lf
end Go.Proofs.Ytgpbioljldkmaaa

namespace Go.Proofs.Ytgpbioljldkmaaa
open Go.RowKit Go.WideShapes Go.ChangeShapes
namespace Fa
open Mem
set_option maxRecDepth 100000 in
theorem open_strs_t {H : Type} {enc : TypeId × Value → H} {W : World} {v : Value} {d : DataW H} {p : List MemPlace} {fuel : Nat} (hf : DataW.trod enc Try.prog W 0 (fun _ => true) true fuel 25 [v] = some (d, p)) :
    ∃ (A : Option Addr) (L : List ByteArray) (c : Nat), v = .slice A L.length c ∧ SC W A c L ∧ L.length ≤ c ∧ c ≤ maxLen := by
  rcases open_strings Try.underlying25 Try.underlying9 (by kernel_rfl) hf with ⟨hcs, _⟩ | ⟨a, len, cap, ss, hcs, _, hl, hm, hz, _, hcell⟩
  · obtain rfl : v = _ := by simpa using hcs
    exact ⟨none, [], 0, rfl, RC.nil _ _ _, Nat.le_refl _, Nat.zero_le _⟩
  · obtain rfl : v = _ := by simpa using hcs
    simp only [if_true] at hz
    have htl : (ss.take len).length = len := by simp; omega
    refine ⟨some a, ss.take len, cap, by rw [htl], ⟨fun hpos => ?_, by rw [htl]; exact hl⟩, by rw [htl]; exact hl, hm⟩
    rw [htl] at hpos
    obtain ⟨b, o, sp⟩ := a
    have h0 := hcell.1 0 (by omega)
    obtain rfl : sp = none := by simpa [Addr.add] using World.cell?_spot h0
    have hb : b < W.heap.size := by
      rcases Nat.lt_or_ge b W.heap.size with h' | h'
      · exact h'
      · simp [Addr.add, World.cell?, Array.getElem?_eq_none h'] at h0
    refine ⟨b, o, rfl, hb, fun i x hx j u hu => ?_⟩
    obtain ⟨hi, hx⟩ := List.getElem?_eq_some_iff.1 hx
    rw [htl] at hi
    have h1 := hcell.1 i (by omega)
    have e : (⟨b, o, none⟩ : Addr).add i = ⟨b, o + i, none⟩ := by unfold Addr.add; split <;> simp_all
    rw [e] at h1
    have hj : j = 0 := by
      have := (List.getElem?_eq_some_iff.1 hu).1
      simp only [StK, List.length_cons, List.length_nil] at this
      omega
    subst hj
    obtain rfl : Value.string x = u := by simpa [StK] using hu
    have hk : StK.k = 1 := rfl
    rw [hk, Nat.mul_one, Nat.add_zero, h1, ← hx]
    simp [List.getD, show i < ss.length by omega]
end Fa
end Go.Proofs.Ytgpbioljldkmaaa

namespace Go.Proofs.Ytgpbioljldkmaaa
open Go.RowKit Go.WideShapes Go.ChangeShapes Go.Deep
namespace No
open Mem
set_option maxRecDepth 100000 in
theorem open_kids_t {H : Type} {enc : TypeId × Value → H} {W : World} {v : Value} {d : DataW H} {p : List MemPlace} {fuel : Nat} (hf : DataW.trod enc Try.prog W 0 (fun _ => true) true fuel 24 [v] = some (d, p)) :
    ∃ (A : Option Addr) (L : List Nat) (c : Nat), v = .slice A L.length c ∧ KC W A c L ∧ L.length ≤ c ∧ c ≤ maxLen ∧ ∀ n, n ∈ L → n < 4294967296 := by
  rcases open_ints Try.underlying24 Try.underlying69 (by kernel_rfl) hf with ⟨hcs, _⟩ | ⟨a, len, cap, zs, hcs, _, hl, hm, hz, _, hcell, hwz⟩
  · obtain rfl : v = _ := by simpa using hcs
    exact ⟨none, [], 0, rfl, RC.nil _ _ _, Nat.le_refl _, Nat.zero_le _, fun n hn => by cases hn⟩
  · obtain rfl : v = _ := by simpa using hcs
    simp only [if_true] at hz
    have htl : (zs.take len).length = len := by simp; omega
    have hnat : ∀ z, z ∈ zs → ∃ n : Nat, z = (n : Int) ∧ n < 4294967296 := fun z hz' => Args.nat_of_u32 (hwz z hz')
    refine ⟨some a, (zs.take len).map Int.toNat, cap, by rw [List.length_map, htl], ⟨fun hpos => ?_, by rw [List.length_map, htl]; exact hl⟩, by rw [List.length_map, htl]; exact hl, hm, fun n hn => ?_⟩
    · rw [List.length_map, htl] at hpos
      obtain ⟨b, o, sp⟩ := a
      have h0 := hcell 0 (by omega)
      obtain rfl : sp = none := by simpa [Addr.add] using World.cell?_spot h0
      have hb : b < W.heap.size := by
        rcases Nat.lt_or_ge b W.heap.size with h' | h'
        · exact h'
        · simp [Addr.add, World.cell?, Array.getElem?_eq_none h'] at h0
      refine ⟨b, o, rfl, hb, fun i x hx j u hu => ?_⟩
      rw [List.getElem?_map, Option.map_eq_some_iff] at hx
      obtain ⟨z, hx, rfl⟩ := hx
      obtain ⟨hi, hx⟩ := List.getElem?_eq_some_iff.1 hx
      rw [htl] at hi
      have h1 := hcell i (by omega)
      have e : (⟨b, o, none⟩ : Addr).add i = ⟨b, o + i, none⟩ := by unfold Addr.add; split <;> simp_all
      rw [e] at h1
      have hj : j = 0 := by
        have := (List.getElem?_eq_some_iff.1 hu).1
        simp only [KdK, List.length_cons, List.length_nil] at this
        omega
      subst hj
      rw [List.getElem_take] at hx
      obtain ⟨n, hn, -⟩ := hnat z (by rw [← hx]; exact List.getElem_mem _)
      obtain rfl : Value.int .u32 (z.toNat : Int) = u := by simpa [KdK] using hu
      have hk : KdK.k = 1 := rfl
      rw [hk, Nat.mul_one, Nat.add_zero, h1]
      have e2 : zs.getD i 0 = z := by simp [List.getD, show i < zs.length by omega, hx]
      first | rw [e2, hn]; rfl | (simp [List.getD, show i < zs.length by omega, hx, hn])
    · obtain ⟨z, hz', rfl⟩ := List.mem_map.1 hn
      obtain ⟨n, rfl, hlt⟩ := hnat z (List.mem_of_mem_take hz')
      simpa using hlt
/-- what an argument's node keeps: lists that memory has room for, values that memory reaches -/
structure NdOk (n : Nd) : Prop where
  lv : -9223372036854775808 ≤ n.lv ∧ n.lv ≤ 9223372036854775807
  kids : n.kids.length ≤ maxLen
  piv : n.piv.length ≤ maxLen
  buf : n.buf.length ≤ maxLen
  prs : n.prs.length ≤ maxLen
  kid : ∀ k, k ∈ n.kids → k < 4294967296
  val : ∀ m, m ∈ n.prs → m.2.size ≤ reachBytes
theorem array5 {α : Type} {cs : Array α} (h : cs.size = 5) : ∃ c0 c1 c2 c3 c4, cs = #[c0, c1, c2, c3, c4] := by
  obtain ⟨l⟩ := cs
  match l, h with
  | [c0, c1, c2, c3, c4], _ => exact ⟨c0, c1, c2, c3, c4, rfl⟩
theorem node_one : oneCellFields Try.prog (Try.prog.fieldsOf 29) = true := by kernel_rfl
set_option maxRecDepth 100000 in
theorem open_node {H : Type} {enc : TypeId × Value → H} {W : World} {v : Value} {d : DataW H} {p : List MemPlace} {r : Reach} {b0 : Nat} (hv : Value.okWide Try.prog W r b0 29 v) (h : DataW.Trod enc Try.prog W 0 (fun _ => true) true 29 v d p) (hw : ∀ n ∈ d.weights Try.prog 29, n ≤ reachBytes) :
    ∃ (n : Nd) (a : At), v = .agg (ndCs n a) ∧ NdIn W n a ∧ NdOk n := by
  have hu : Try.prog.underlying 29 = some (.struct (Try.prog.fieldsOf 29)) := by kernel_rfl
  obtain ⟨cs, rfl, hsz⟩ := okWide_struct hu hv
  have h5 : Try.prog.cellsOf 29 = 5 := by kernel_rfl
  rw [h5] at hsz
  obtain ⟨fuel, hf⟩ := h
  obtain ⟨ys, n', _, hD, hlen, hyl, hfl⟩ := DataW.trod_struct hu hf
  have hsz2 : (Try.prog.fieldsOf 29).size = 5 := by kernel_rfl
  have each : ∀ (j : Nat) (u : Value) (T : TypeId), cs[j]? = some u → ((Try.prog.fieldsOf 29)[j]?.map fun f => f.type) = some T → ∃ y : DataW H × List MemPlace, DataW.trod enc Try.prog W 0 (fun _ => true) true n' T [u] = some y ∧ ∀ k ∈ y.1.weights Try.prog T, k ≤ reachBytes := fun j u T hj hT => by
    rw [Option.map_eq_some_iff] at hT
    obtain ⟨f, hfj, rfl⟩ := hT
    obtain ⟨ho, hk⟩ := hone_of node_one j f hfj
    have h1 := hfl j f hfj
    rw [ho, hk] at h1
    have hu1 : ((Value.agg cs).cells.toList.drop j).take 1 = [u] := by
      simp only [Value.cells]
      have hl : cs.toList[j]? = some u := by simpa using hj
      rw [List.getElem?_eq_some_iff] at hl
      obtain ⟨h2, h3⟩ := hl
      rw [List.drop_eq_getElem_cons h2, h3]
      rfl
    rw [hu1] at h1
    have hj' : j < ys.length := by
      rw [hyl]
      exact (Array.getElem?_eq_some_iff.1 hfj).1
    rw [List.getElem?_eq_getElem hj'] at h1
    refine ⟨_, h1, fun k hk => hw k ?_⟩
    simp only [Prod.mk.injEq] at hD
    rw [hD.1]
    simp only [DataW.weights, hu]
    refine Args.w_each (j := j) (t := f.type) (d := (ys[j]'hj').1) ?_ ?_ k hk
    · rw [List.getElem?_map, Array.getElem?_toList, hfj]; rfl
    · rw [List.getElem?_map, List.getElem?_eq_getElem hj']; rfl
  obtain ⟨c0, c1, c2, c3, c4, rfl⟩ := array5 hsz
  obtain ⟨⟨y0, q0⟩, k0, -⟩ := each 0 c0 3 rfl (by decide +kernel)
  obtain ⟨⟨y1, q1⟩, k1, -⟩ := each 1 c1 24 rfl (by decide +kernel)
  obtain ⟨⟨y2, q2⟩, k2, -⟩ := each 2 c2 25 rfl (by decide +kernel)
  obtain ⟨⟨y3, q3⟩, k3, -⟩ := each 3 c3 26 rfl (by decide +kernel)
  obtain ⟨⟨y4, q4⟩, k4, w4⟩ := each 4 c4 27 rfl (by decide +kernel)
  obtain ⟨z, hz, -, hwf⟩ := DataW.trod_int Try.underlying3 k0
  obtain rfl : c0 = _ := by simpa using hz
  obtain ⟨kA, K, kc, rfl, hK, lK, mK, bK⟩ := open_kids_t k1
  obtain ⟨pA, P, pc, rfl, hP, lP, mP⟩ := Fa.open_strs_t k2
  obtain ⟨bA, B, bc, rfl, hB, lB, mB⟩ := Bu.open_msgs_t k3
  obtain ⟨qA, Q, qc, rfl, hQ, lQ, mQ, wQ⟩ := Lf.open_prs_t k4
  exact ⟨⟨z, K, P, B, Q⟩, ⟨kA, kc, pA, pc, bA, bc, qA, qc⟩, rfl, ⟨hK, hP, hB, hQ⟩, ⟨Args.i64_bounds hwf, Nat.le_trans lK mK, Nat.le_trans lP mP, Nat.le_trans lB mB, Nat.le_trans lQ mQ, bK, fun m hm => w4 _ (wQ m hm).2⟩⟩
end No
end Go.Proofs.Ytgpbioljldkmaaa

namespace Go.Proofs.Ytgpbioljldkmaaa
open Go.RowKit
namespace No
open Mem Lx Bu Lf Fa
/-- a node that is not too much for a statement -/
structure Fit (n : Nd) : Prop where
  kids : n.kids.length ≤ 80
  piv : n.piv.length ≤ 80
  buf : n.buf.length ≤ 150
  prs : n.prs.length ≤ 150
  pk : ∀ p, p ∈ n.piv → p.size ≤ 200
  bk : ∀ m, m ∈ n.buf → m.1.size ≤ 200
  qk : ∀ m, m ∈ n.prs → m.1.size ≤ 200
set_option maxRecDepth 100000 in
set_option maxHeartbeats 4000000 in
theorem Great_any {W : World} {n : Nd} {a : At} (h : NdIn W n a) (hok : NdOk n) : Calls Try.prog 5 #[.agg (ndCs n a)] W fun e w' => (∃ v : Bool, e = .returned (.bool v) ∧ (v = false ↔ Fit n)) ∧ Below W.heap.size W w' := by
  obtain ⟨P, hP⟩ : ∃ P : Prop, P = Fit n := ⟨_, rfl⟩
  have HP : Hid (P → Fit n) := fun h => by rw [hP] at h; exact h
  have HQ : Hid (Fit n → P) := fun h => by rw [hP]; exact h
  rw [← hP]
  clear hP
  obtain ⟨lv, K, L, B, Q⟩ := n
  obtain ⟨kA, kc, pA, pc, bA, bc, qA, qc⟩ := a
  have h2 := hok.kids
  have h3 := hok.piv
  have h4 := hok.buf
  have h5 := hok.prs
  have HL : Hid (SL W pA L) := h.piv.1
  have HB : Hid (RdK MgK W bA B) := h.buf.1
  have HR : Hid (PL W qA Q) := h.prs.1
  unfold ndCs
  simp only at *
  unfold maxLen at h2 h3 h4 h5
  generalize hkn : K.length = kn at *
  generalize hpn : L.length = pn at *
  generalize hbn : B.length = bn at *
  generalize hqn : Q.length = qn at *
  have HKN := Lib.hid hkn
  have HPN := Lib.hid hpn
  have HBN := Lib.hid hbn
  have HQN := Lib.hid hqn
  clear h hok hkn hpn hbn hqn
  go_enter Try.func5, Try.ntmps5
  go_upto_region 1 with fail
  have hx := heap_alloc_new W (.cells #[.int .i64 lv, .slice kA kn kc, .slice pA pn pc, .slice bA bn bc, .slice qA qn qc] 29)
  have hb0 : Below W.heap.size W (W.alloc (.cells #[.int .i64 lv, .slice kA kn kc, .slice pA pn pc, .slice bA bn bc, .slice qA qn qc] 29)) := (Below.refl _ _).alloc (Nat.le_refl _) _
  generalize W.alloc (.cells #[.int .i64 lv, .slice kA kn kc, .slice pA pn pc, .slice bA bn bc, .slice qA qn qc] 29) = w1 at *
  have HW := Lib.hid hb0
  obtain ⟨g, hg⟩ : ∃ g, g = W.heap.size := ⟨_, rfl⟩
  simp only [← hg]
  rw [← hg] at hx
  obtain ⟨d0, d1, d2, d3, d4⟩ := box5 hx
  clear hx hb0 hg d0
  by_cases e0 : kn ≤ 80
  case neg =>
    have hd : (80 : Int) < (kn : Int) := by omega
    have HNO : Hid (¬ P) := fun h => e0 (by rw [← HKN.out]; exact (HP.out h).kids)
    clear e0
    go_wp2_with fail
    go_ret
    exact ⟨⟨true, rfl, (fun h => by cases h), fun h => absurd h HNO.out⟩, HW.out⟩
  have n0 : decide ((80 : Int) < (kn : Int)) = false := by simp; omega
  by_cases e1 : pn ≤ 80
  case neg =>
    have hd : (80 : Int) < (pn : Int) := by omega
    have HNO : Hid (¬ P) := fun h => e1 (by rw [← HPN.out]; exact (HP.out h).piv)
    clear e1
    go_wp2_with fail
    go_ret
    exact ⟨⟨true, rfl, (fun h => by cases h), fun h => absurd h HNO.out⟩, HW.out⟩
  have n1 : decide ((80 : Int) < (pn : Int)) = false := by simp; omega
  by_cases e2 : bn ≤ 150
  case neg =>
    have hd : (150 : Int) < (bn : Int) := by omega
    have HNO : Hid (¬ P) := fun h => e2 (by rw [← HBN.out]; exact (HP.out h).buf)
    clear e2
    go_wp2_with fail
    go_ret
    exact ⟨⟨true, rfl, (fun h => by cases h), fun h => absurd h HNO.out⟩, HW.out⟩
  have n2 : decide ((150 : Int) < (bn : Int)) = false := by simp; omega
  by_cases e3 : qn ≤ 150
  case neg =>
    have hd : (150 : Int) < (qn : Int) := by omega
    have HNO : Hid (¬ P) := fun h => e3 (by rw [← HQN.out]; exact (HP.out h).prs)
    clear e3
    go_wp2_with fail
    go_ret
    exact ⟨⟨true, rfl, (fun h => by cases h), fun h => absurd h HNO.out⟩, HW.out⟩
  have n3 : decide ((150 : Int) < (qn : Int)) = false := by simp; omega
  have HE : Hid (kn ≤ 80 ∧ pn ≤ 80 ∧ bn ≤ 150 ∧ qn ≤ 150) := ⟨e0, e1, e2, e3⟩
  clear e0 e1 e2 e3
  go_upto_block 0 with fail
  clear n0 n1 n2 n3
  go_cut [] (fun wx => Hid (∀ y, y ∈ L → y.size ≤ 200) ∧ w1 = wx)
  case first =>
    go_wp2_with fail
    go_loopg [3] pn (fun gk iv wx => ∃ j : Nat, j ≤ pn ∧ gk = pn - j ∧ iv = .int .i64 (j : Int) ∧ Hid (∀ (i : Nat) (y : ByteArray), i < j → L[i]? = some y → y.size ≤ 200) ∧ w1 = wx)
    case atStart => exact ⟨0, Nat.zero_le _, rfl, rfl, fun i x hi => by omega, rfl⟩
    case round =>
      obtain ⟨j, hj, rfl, rfl, HJ, rfl⟩ := hrel
      by_cases hlt2 : j < pn
      · have hjL : j < L.length := by rw [HPN.out]; exact hlt2
        obtain ⟨x, hxx⟩ : ∃ x, x = L[j] := ⟨_, rfl⟩
        have hx' := nat_lenS hjL
        rw [← hxx] at hx'
        obtain ⟨b, o, e, -, c0⟩ := RdK.str (HL.out.kept HW.out) hx'
        subst e
        have HXX := Lib.hid hx'
        have hw3 : IntKind.i64.wrap ((j : Int) + 1) = ((j + 1 : Nat) : Int) := by rw [IntKind.wrap_i64]; omega
        clear hxx hx' hjL
        by_cases hz : x.size ≤ 200
        · have HJ2 : Hid (∀ (i : Nat) (y : ByteArray), i < j + 1 → L[i]? = some y → y.size ≤ 200) := fun i y hi hy => by
            by_cases e : i = j
            · subst e
              rw [HXX.out] at hy
              cases hy
              exact hz
            · exact HJ.out i y (by omega) hy
          have hd : decide (200 < (x.size : Int)) = false := by simp; omega
          clear hz
          go_wp2_with fail
          go_roundg (pn - (j + 1))
          case measure => omega
          case rel => exact ⟨j + 1, hlt2, rfl, by go_num, HJ2, rfl⟩
        · have hd : (200 : Int) < (x.size : Int) := by omega
          have HNO : Hid (¬ P) := fun h => hz ((HP.out h).pk x (List.mem_of_getElem? HXX.out))
          clear hz
          go_wp2_with fail
          go_ret
          exact ⟨⟨true, rfl, (fun h => by cases h), fun h => absurd h HNO.out⟩, HW.out⟩
      · have HZ : Hid (∀ y, y ∈ L → y.size ≤ 200) := fun x hx => by
          obtain ⟨i, hi⟩ := List.getElem?_of_mem hx
          have := (List.getElem?_eq_some_iff.1 hi).1
          rw [HPN.out] at this
          exact HJ.out i x (by omega) hi
        obtain rfl : j = pn := by omega
        clear hlt2
        go_wp2_with fail
        go_meet
        exact ⟨HZ, rfl⟩
  case rest =>
  obtain ⟨Hx0, rfl⟩ := hcut
  go_upto_block 2 with fail
  skip
  go_cut [] (fun wx => Hid (∀ y, y ∈ B → y.1.size ≤ 200) ∧ w1 = wx)
  case first =>
    go_wp2_with fail
    go_loopg [4] bn (fun gk iv wx => ∃ j : Nat, j ≤ bn ∧ gk = bn - j ∧ iv = .int .i64 (j : Int) ∧ Hid (∀ (i : Nat) (y : Mg), i < j → B[i]? = some y → y.1.size ≤ 200) ∧ w1 = wx)
    case atStart => exact ⟨0, Nat.zero_le _, rfl, rfl, fun i x hi => by omega, rfl⟩
    case round =>
      obtain ⟨j, hj, rfl, rfl, HJ, rfl⟩ := hrel
      by_cases hlt2 : j < bn
      · have hjL : j < B.length := by rw [HBN.out]; exact hlt2
        obtain ⟨x, hxx⟩ : ∃ x, x = B[j] := ⟨_, rfl⟩
        have hx' := nat_len hjL
        rw [← hxx] at hx'
        obtain ⟨b, o, e, -, c0, -, -⟩ := RdK.msg (HB.out.kept HW.out) hx'
        subst e
        have HXX := Lib.hid hx'
        have hw3 : IntKind.i64.wrap ((j : Int) + 1) = ((j + 1 : Nat) : Int) := by rw [IntKind.wrap_i64]; omega
        clear hxx hx' hjL
        by_cases hz : x.1.size ≤ 200
        · have HJ2 : Hid (∀ (i : Nat) (y : Mg), i < j + 1 → B[i]? = some y → y.1.size ≤ 200) := fun i y hi hy => by
            by_cases e : i = j
            · subst e
              rw [HXX.out] at hy
              cases hy
              exact hz
            · exact HJ.out i y (by omega) hy
          have hd : decide (200 < (x.1.size : Int)) = false := by simp; omega
          clear hz
          go_wp2_with fail
          go_roundg (bn - (j + 1))
          case measure => omega
          case rel => exact ⟨j + 1, hlt2, rfl, by go_num, HJ2, rfl⟩
        · have hd : (200 : Int) < (x.1.size : Int) := by omega
          have HNO : Hid (¬ P) := fun h => hz ((HP.out h).bk x (List.mem_of_getElem? HXX.out))
          clear hz
          go_wp2_with fail
          go_ret
          exact ⟨⟨true, rfl, (fun h => by cases h), fun h => absurd h HNO.out⟩, HW.out⟩
      · have HZ : Hid (∀ y, y ∈ B → y.1.size ≤ 200) := fun x hx => by
          obtain ⟨i, hi⟩ := List.getElem?_of_mem hx
          have := (List.getElem?_eq_some_iff.1 hi).1
          rw [HBN.out] at this
          exact HJ.out i x (by omega) hi
        obtain rfl : j = bn := by omega
        clear hlt2
        go_wp2_with fail
        go_meet
        exact ⟨HZ, rfl⟩
  case rest =>
  obtain ⟨Hx1, rfl⟩ := hcut
  go_upto_block 4 with fail
  skip
  go_cut [] (fun wx => Hid (∀ y, y ∈ Q → y.1.size ≤ 200) ∧ w1 = wx)
  case first =>
    go_wp2_with fail
    go_loopg [5] qn (fun gk iv wx => ∃ j : Nat, j ≤ qn ∧ gk = qn - j ∧ iv = .int .i64 (j : Int) ∧ Hid (∀ (i : Nat) (y : Pr), i < j → Q[i]? = some y → y.1.size ≤ 200) ∧ w1 = wx)
    case atStart => exact ⟨0, Nat.zero_le _, rfl, rfl, fun i x hi => by omega, rfl⟩
    case round =>
      obtain ⟨j, hj, rfl, rfl, HJ, rfl⟩ := hrel
      by_cases hlt2 : j < qn
      · have hjL : j < Q.length := by rw [HQN.out]; exact hlt2
        obtain ⟨x, hxx⟩ : ∃ x, x = Q[j] := ⟨_, rfl⟩
        have hx' := nat_len hjL
        rw [← hxx] at hx'
        obtain ⟨b, o, e, -, c0, -⟩ := RdK.pair (HR.out.kept HW.out) hx'
        subst e
        have HXX := Lib.hid hx'
        have hw3 : IntKind.i64.wrap ((j : Int) + 1) = ((j + 1 : Nat) : Int) := by rw [IntKind.wrap_i64]; omega
        clear hxx hx' hjL
        by_cases hz : x.1.size ≤ 200
        · have HJ2 : Hid (∀ (i : Nat) (y : Pr), i < j + 1 → Q[i]? = some y → y.1.size ≤ 200) := fun i y hi hy => by
            by_cases e : i = j
            · subst e
              rw [HXX.out] at hy
              cases hy
              exact hz
            · exact HJ.out i y (by omega) hy
          have hd : decide (200 < (x.1.size : Int)) = false := by simp; omega
          clear hz
          go_wp2_with fail
          go_roundg (qn - (j + 1))
          case measure => omega
          case rel => exact ⟨j + 1, hlt2, rfl, by go_num, HJ2, rfl⟩
        · have hd : (200 : Int) < (x.1.size : Int) := by omega
          have HNO : Hid (¬ P) := fun h => hz ((HP.out h).qk x (List.mem_of_getElem? HXX.out))
          clear hz
          go_wp2_with fail
          go_ret
          exact ⟨⟨true, rfl, (fun h => by cases h), fun h => absurd h HNO.out⟩, HW.out⟩
      · have HZ : Hid (∀ y, y ∈ Q → y.1.size ≤ 200) := fun x hx => by
          obtain ⟨i, hi⟩ := List.getElem?_of_mem hx
          have := (List.getElem?_eq_some_iff.1 hi).1
          rw [HQN.out] at this
          exact HJ.out i x (by omega) hi
        obtain rfl : j = qn := by omega
        clear hlt2
        go_wp2_with fail
        go_meet
        exact ⟨HZ, rfl⟩
  case rest =>
  obtain ⟨Hx2, rfl⟩ := hcut
  have HT : Hid P := HQ.out ⟨by rw [HKN.out]; exact HE.out.1, by rw [HPN.out]; exact HE.out.2.1, by rw [HBN.out]; exact HE.out.2.2.1, by rw [HQN.out]; exact HE.out.2.2.2, Hx0.out, Hx1.out, Hx2.out⟩
  go_wp2_with fail
  go_ret
  exact ⟨⟨false, rfl, (fun _ => HT.out), fun _ => rfl⟩, HW.out⟩
end No
end Go.Proofs.Ytgpbioljldkmaaa

namespace Go.Proofs.Ytgpbioljldkmaaa
open Go.RowKit
namespace No
open Mem Lx Bu Lf Fa
theorem isEmpty_eq (a : ByteArray) : a.toList.isEmpty = decide (a = ⟨#[]⟩) := by
  rw [← ba_toList, show (⟨#[]⟩ : ByteArray).toList = [] by rw [Lib.toList_data]]
  cases a.toList <;> rfl
end No
end Go.Proofs.Ytgpbioljldkmaaa

namespace Go.Proofs.Ytgpbioljldkmaaa
open Go.RowKit
namespace Cf

/-- the kids' part: four each, and a pivot's slot but for the first -/
def kids (ke : Int) (k : Nat) : Int := 8 + 4 * (k : Int) + ((k - 1 : Nat) : Int) * (1 + ke)
end Cf
end Go.Proofs.Ytgpbioljldkmaaa

namespace Go.Proofs.Ytgpbioljldkmaaa
open Go.RowKit
namespace No
open Mem Lx Bu Lf Fa
open Wd (be val be_length val_be isW)
/-- two boxes: settings and a node -/
structure Bx2 (W : World) (g : Nat) (X Y : Obj) (w : World) : Prop where
  below : Below W.heap.size W w
  x : w.heap[g]? = some X
  y : w.heap[g + 1]? = some Y
theorem Bx2.kept {W w w' : World} {g : Nat} {X Y : Obj} (h : Bx2 W g X Y w) (hb : Below w.heap.size w w') : Bx2 W g X Y w' := ⟨h.below.trans (hb.mono h.below.size), kept3 h.x hb, kept3 h.y hb⟩
theorem Bx2.new (W : World) (X Y : Obj) : Bx2 W W.heap.size X Y ((W.alloc X).alloc Y) := ⟨(two_new W X Y).2.2, (two_new W X Y).1, (two_new W X Y).2.1⟩
section
variable {α : Type} {A : List UInt8} {f : α → List UInt8} {L : List α} {S k : Nat} {x : α}
end
end No
end Go.Proofs.Ytgpbioljldkmaaa
