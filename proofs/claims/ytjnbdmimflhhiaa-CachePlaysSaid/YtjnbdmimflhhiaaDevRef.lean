/-
  Contracts of the document's device: there, Read, Write.
-/
import Derived.Test.YtjnbdmimflhhiaaDevImage
import Derived.Test.YtjnbdmimflhhiaaVals
namespace Go.Proofs.Ytjnbdmimflhhiaa
open Go.RowKit
namespace Dv
open Mem

set_option maxRecDepth 100000 in
theorem there_in (v0 v2 v3 : Value) (A : Option Addr) (n c i : Nat) (w : World) (h : i < n) (hn : n ≤ 65536) : Calls Try.prog 92 #[.agg #[v0, .slice A n c, v2, v3], .int .u32 (i : Int)] w fun e w' => e = .returned (.bool true) ∧ Below w.heap.size w w' := by
  go_enter Try.func92, Try.ntmps92
  go_wp2
  go_ret
  exact ⟨rfl, (Below.refl _ _).alloc (Nat.le_refl _) _⟩
set_option maxRecDepth 100000 in
theorem there_out (v0 v2 v3 : Value) (A : Option Addr) (n c i : Nat) (w : World) (h : n ≤ i) (hi : i < 4294967296) : Calls Try.prog 92 #[.agg #[v0, .slice A n c, v2, v3], .int .u32 (i : Int)] w fun e w' => e = .returned (.bool false) ∧ Below w.heap.size w w' := by
  have h1 : decide (i < n) = false := by simp; omega
  go_enter Try.func92, Try.ntmps92
  go_wp2
  go_ret
  exact ⟨rfl, (Below.refl _ _).alloc (Nat.le_refl _) _⟩

/-- the document's device: its texts lie from the front of block h on -/
structure Rf (w : World) (h c n : Nat) (ls : List (List UInt8)) : Prop where
  ow : Ow 9 w h c (ls.map fun l => .string (strOf l))
  len : ls.length = n
  lo : 1 ≤ n
  hi : n ≤ 65536
section
variable {w w' : World} {h c n : Nat} {ls : List (List UInt8)}
theorem Rf.kept (H : Rf w h c n ls) (hb : Below w.heap.size w w') : Rf w' h c n ls := ⟨H.ow.kept hb, H.len, H.lo, H.hi⟩
theorem Rf.into {S : List Nat} (H : Rf w h c n ls) (hb : Flow.Into S w w') (hn : h ∉ S) : Rf w' h c n ls := ⟨H.ow.into hb hn, H.len, H.lo, H.hi⟩
theorem Rf.cell (H : Rf w h c n ls) {i : Nat} {x : List UInt8} (hx : ls[i]? = some x) : w.cell? ⟨h, i, none⟩ = some (.string (strOf x)) := by
  obtain ⟨h1, h2⟩ := List.getElem?_eq_some_iff.1 hx
  rw [H.ow.cell (by simpa using h1)]; simp [h2]
theorem Rf.lt (H : Rf w h c n ls) : h < w.heap.size := H.ow.lt
end
theorem strs_one (ls : List (List UInt8)) : ∀ u ∈ ls.map (fun l => Value.string (strOf l)), u.oneCell' = true := by
  intro u hu
  obtain ⟨x, _, rfl⟩ := List.mem_map.1 hu
  rfl
/-- what was there reads as it did, as two rules -/
theorem olds {W W' : World} (h : Below W.heap.size W W') : (∀ b o, b < W.heap.size → W'.cell? ⟨b, o, none⟩ = W.cell? ⟨b, o, none⟩) ∧ (∀ b o, b < W.heap.size → W'.frozen? ⟨b, o, none⟩ = W.frozen? ⟨b, o, none⟩) :=
  ⟨fun b o hb => h.cell (p := ⟨b, o, none⟩) hb, fun b o hb => h.frozen (p := ⟨b, o, none⟩) hb⟩
/-- a struct in a block of its own -/
def Box (w : World) (b : Nat) (v0 v1 v2 v3 : Value) : Prop := w.heap[b]? = some (.cells #[v0, v1, v2, v3] 34 (0, 0))
theorem Box.facts {w : World} {b : Nat} {v0 v1 v2 v3 : Value} (h : Box w b v0 v1 v2 v3) : (w.cell? ⟨b, 0, none⟩ = some v0 ∧ w.cell? ⟨b, 1, none⟩ = some v1 ∧ w.cell? ⟨b, 2, none⟩ = some v2 ∧ w.cell? ⟨b, 3, none⟩ = some v3) ∧ w.frozen? ⟨b, 0, none⟩ = false ∧ w.frozen? ⟨b, 1, none⟩ = false ∧ w.frozen? ⟨b, 2, none⟩ = false ∧ w.frozen? ⟨b, 3, none⟩ = false := by
  unfold Box at h
  simp [World.cell?, World.frozen?, h]
theorem Box.lt {w : World} {b : Nat} {v0 v1 v2 v3 : Value} (h : Box w b v0 v1 v2 v3) : b < w.heap.size := (Array.getElem?_eq_some_iff.1 h).1
theorem Box.kept {w w' : World} {b : Nat} {v0 v1 v2 v3 : Value} (h : Box w b v0 v1 v2 v3) (hb : Below w.heap.size w w') : Box w' b v0 v1 v2 v3 := (hb.block b h.lt).trans h
theorem Box.new (w : World) (v0 v1 v2 v3 : Value) : Box (w.alloc (.cells #[v0, v1, v2, v3] 34)) w.heap.size v0 v1 v2 v3 := heap_alloc_new w _
/-- two boxes one behind the other -/
theorem two_boxes (w : World) (v0 v1 v2 v3 u0 u1 u2 u3 : Value) : Box ((w.alloc (.cells #[v0, v1, v2, v3] 34)).alloc (.cells #[u0, u1, u2, u3] 34)) w.heap.size v0 v1 v2 v3 ∧ Box ((w.alloc (.cells #[v0, v1, v2, v3] 34)).alloc (.cells #[u0, u1, u2, u3] 34)) (w.heap.size + 1) u0 u1 u2 u3 ∧
    Below w.heap.size w ((w.alloc (.cells #[v0, v1, v2, v3] 34)).alloc (.cells #[u0, u1, u2, u3] 34)) := by
  refine ⟨(Box.new w v0 v1 v2 v3).kept ((Below.refl _ _).alloc (Nat.le_refl _) _), ?_, ((Below.refl _ _).alloc (Nat.le_refl _) _).alloc (by simp) _⟩
  have := Box.new (w.alloc (.cells #[v0, v1, v2, v3] 34)) u0 u1 u2 u3
  simpa using this

theorem below_set4 {B b : Nat} {a w : World} (h : Below B a w) (hb : B ≤ b) (x y z u : Value) : Below B a ((((w.setCell ⟨b, 0, none⟩ x).setCell ⟨b, 1, none⟩ y).setCell ⟨b, 2, none⟩ z).setCell ⟨b, 3, none⟩ u) := (((h.setCell hb x).setCell hb y).setCell hb z).setCell hb u
theorem into_set4 {b : Nat} (w : World) (x y z u : Value) : Flow.Into [b] w ((((w.setCell ⟨b, 0, none⟩ x).setCell ⟨b, 1, none⟩ y).setCell ⟨b, 2, none⟩ z).setCell ⟨b, 3, none⟩ u) :=
  (((into_setCell w ⟨b, 0, none⟩ x).trans (into_setCell _ ⟨b, 1, none⟩ y)).trans (into_setCell _ ⟨b, 2, none⟩ z)).trans (into_setCell _ ⟨b, 3, none⟩ u)
theorem Box.set2 {w : World} {b : Nat} {v0 v1 v2 v3 : Value} (h : Box w b v0 v1 v2 v3) (x : Value) : Box (w.setCell ⟨b, 2, none⟩ x) b v0 v1 x v3 := by
  unfold Box at h ⊢
  simp [World.setCell, Array.getElem?_modify, h]
theorem Box.set1 {w : World} {b : Nat} {v0 v1 v2 v3 : Value} (h : Box w b v0 v1 v2 v3) (x : Value) : Box (w.setCell ⟨b, 1, none⟩ x) b v0 x v2 v3 := by
  unfold Box at h ⊢
  simp [World.setCell, Array.getElem?_modify, h]
theorem Box.set3 {w : World} {b : Nat} {v0 v1 v2 v3 : Value} (h : Box w b v0 v1 v2 v3) (x : Value) : Box (w.setCell ⟨b, 3, none⟩ x) b v0 v1 v2 x := by
  unfold Box at h ⊢
  simp [World.setCell, Array.getElem?_modify, h]
theorem Box.other {w : World} {b : Nat} {v0 v1 v2 v3 : Value} (h : Box w b v0 v1 v2 v3) {a : Addr} (ha : a.block ≠ b) (x : Value) : Box (w.setCell a x) b v0 v1 v2 v3 := (Below.heap_setCell _ _ _ _ (fun e => ha e.symm)).trans h
theorem Box.all {w : World} {b : Nat} {v0 v1 v2 v3 : Value} (h : Box w b v0 v1 v2 v3) (x y z u : Value) : Box ((((w.setCell ⟨b, 0, none⟩ x).setCell ⟨b, 1, none⟩ y).setCell ⟨b, 2, none⟩ z).setCell ⟨b, 3, none⟩ u) b x y z u := by
  unfold Box at h ⊢
  simp [World.setCell, Array.getElem?_modify, h]
set_option maxHeartbeats 2000000 in
set_option maxRecDepth 100000 in
theorem RRead_out (m n c i : Nat) (A : Option Addr) (r s : Nat) (w : World) (hi : n ≤ i) (hi2 : i < 4294967296) :
    Calls Try.prog 76 #[.agg #[.int .i64 (m : Int), .slice A n c, .int .i64 (r : Int), .int .i64 (s : Int)], .int .u32 (i : Int)] w fun e w' => e = .returned (.tuple #[.agg #[.int .i64 (m : Int), .slice A n c, .int .i64 (r : Int), .int .i64 (s : Int)], .string ⟨#[]⟩, .int .i64 4]) ∧ Below w.heap.size w w' := by
  have cT := fun w => Lib.hid (there_out (.int .i64 (m : Int)) (.int .i64 (r : Int)) (.int .i64 (s : Int)) A n c i w hi hi2)
  clear hi hi2
  go_enter Try.func76, Try.ntmps76
  go_wp2_with fail
  obtain ⟨hb0, hb1, hbl⟩ := two_boxes w (.int .i64 (m : Int)) (.slice A n c) (.int .i64 (r : Int)) (.int .i64 (s : Int)) (.int .i64 0) (.slice none 0 0) (.int .i64 0) (.int .i64 0)
  generalize ((w.alloc (.cells #[.int .i64 (m : Int), .slice A n c, .int .i64 (r : Int), .int .i64 (s : Int)] 34)).alloc (.cells #[.int .i64 0, .slice none 0 0, .int .i64 0, .int .i64 0] 34)) = w1 at *
  obtain ⟨b0, e0⟩ : ∃ b0, b0 = w.heap.size := ⟨_, rfl⟩
  rw [← e0] at hb0 hb1 hbl
  simp only [← e0]
  have HB0 := Lib.hid hb0
  have HB1 := Lib.hid hb1
  have HBL := Lib.hid hbl
  have HE0 : Hid (b0 ≤ w.heap.size ∧ w.heap.size ≤ b0) := by unfold Hid; omega
  have HS0 := Lib.hid hbl.size
  have HE1 := Lib.hid e0.symm
  clear hb0 hb1 hbl e0
  refine (cT _).out.mono ?_
  rintro e w2 ⟨rfl, hb⟩
  obtain ⟨⟨c0, c1, c2, c3⟩, -⟩ := (HB0.out.kept hb).facts
  obtain ⟨⟨d0, d1, d2, d3⟩, f0, f1, f2, f3⟩ := (HB1.out.kept hb).facts
  have HB2 := Lib.hid (HBL.out.trans (hb.mono (by have := HBL.out.size; have := HE0.out; omega)))
  clear hb
  go_wp2_with fail
  refine bodyPost_ret (v := .tuple #[.agg #[.int .i64 (m : Int), .slice A n c, .int .i64 (r : Int), .int .i64 (s : Int)], .string ⟨#[]⟩, .int .i64 4]) (by simp [results, Try.results76, go_sem, d0, d1, d2, d3]) rfl ⟨rfl, ?_⟩
  rw [HE1.out]
  exact below_set4 HB2.out (by omega) _ _ _ _
def EvBox (b : Nat) (v0 v1 v2 v3 : Value) (v : Value) (w : World) : Prop := v = undef ∧ Box w b v0 v1 v2 v3
set_option maxHeartbeats 4000000 in
set_option maxRecDepth 100000 in
theorem RRead_in (m n c i h : Nat) (r s : Nat) (ls : List (List UInt8)) (x : List UInt8) (w : World) (H : Rf w h c n ls) (hx : ls[i]? = some x) (hr : r ≤ 1000000) :
    Calls Try.prog 76 #[.agg #[.int .i64 (m : Int), .slice (some ⟨h, 0, none⟩) n c, .int .i64 (r : Int), .int .i64 (s : Int)], .int .u32 (i : Int)] w fun e w' => e = .returned (.tuple #[.agg #[.int .i64 (m : Int), .slice (some ⟨h, 0, none⟩) n c, .int .i64 ((r : Int) + 1), .int .i64 (s : Int)], .string (strOf x), .int .i64 0]) ∧ Below w.heap.size w w' := by
  have hin : i < n := by rw [← H.len]; exact (List.getElem?_eq_some_iff.1 hx).1
  have cT := fun w => Lib.hid (there_in (.int .i64 (m : Int)) (.int .i64 (r : Int)) (.int .i64 (s : Int)) (some ⟨h, 0, none⟩) n c i w hin H.hi)
  have HH := Lib.hid H
  have HX := Lib.hid hx
  have hwr : IntKind.i64.wrap ((r : Int) + 1) = (r : Int) + 1 := by rw [IntKind.wrap_i64]; omega
  clear H hx
  go_enter Try.func76, Try.ntmps76
  go_wp2_with fail
  obtain ⟨hb0, hb1, hbl⟩ := two_boxes w (.int .i64 (m : Int)) (.slice (some ⟨h, 0, none⟩) n c) (.int .i64 (r : Int)) (.int .i64 (s : Int)) (.int .i64 0) (.slice none 0 0) (.int .i64 0) (.int .i64 0)
  generalize ((w.alloc (.cells #[.int .i64 (m : Int), .slice (some ⟨h, 0, none⟩) n c, .int .i64 (r : Int), .int .i64 (s : Int)] 34)).alloc (.cells #[.int .i64 0, .slice none 0 0, .int .i64 0, .int .i64 0] 34)) = w1 at *
  obtain ⟨b0, e0⟩ : ∃ b0, b0 = w.heap.size := ⟨_, rfl⟩
  rw [← e0] at hb0 hb1 hbl
  simp only [← e0]
  have HB0 := Lib.hid hb0
  have HB1 := Lib.hid hb1
  have HBL := Lib.hid hbl
  have HE0 : Hid (b0 ≤ w.heap.size ∧ w.heap.size ≤ b0) := by unfold Hid; omega
  have HS0 := Lib.hid hbl.size
  have HE1 := Lib.hid e0.symm
  clear hb0 hb1 hbl e0
  refine (cT _).out.mono ?_
  rintro e w2 ⟨rfl, hb⟩
  have HBX0 := Lib.hid (HB0.out.kept hb)
  have HBX1 := Lib.hid (HB1.out.kept hb)
  obtain ⟨⟨c0, c1, c2, c3⟩, -, -, f2, -⟩ := HBX0.out.facts
  have HB2 := Lib.hid (HBL.out.trans (hb.mono (by have := HBL.out.size; have := HE0.out; omega)))
  clear hb
  go_upto_region 4 with fail
  have HB3 : Hid (Below b0 w (w2.setCell ⟨b0, 2, none⟩ (.int .i64 ((r : Int) + 1)))) := HB2.out.setCell (Nat.le_refl _) _
  have HY0 := Lib.hid (HBX0.out.set2 (.int .i64 ((r : Int) + 1)))
  have HY1 : Hid (Box (w2.setCell ⟨b0, 2, none⟩ (.int .i64 ((r : Int) + 1))) (b0 + 1) (.int .i64 0) (.slice none 0 0) (.int .i64 0) (.int .i64 0)) := HBX1.out.other (by simp) _
  generalize w2.setCell ⟨b0, 2, none⟩ (.int .i64 ((r : Int) + 1)) = w3 at *
  have hcell := (HH.out.kept (by rw [HE1.out]; exact HB3.out)).cell HX.out
  have hhb : h ∉ [b0 + 1] := by have := HH.out.lt; have := HE0.out; simp; omega
  obtain ⟨⟨y0, y1, y2, y3⟩, -⟩ := HY0.out.facts
  have z0 := fun q : Drift.Tide [b0 + 1] w3 [] => Drift.Tide.cell y0 (by simp) q
  have z1 := fun q : Drift.Tide [b0 + 1] w3 [] => Drift.Tide.cell y1 (by simp) q
  have z2 := fun q : Drift.Tide [b0 + 1] w3 [] => Drift.Tide.cell y2 (by simp) q
  have z3 := fun q : Drift.Tide [b0 + 1] w3 [] => Drift.Tide.cell y3 (by simp) q
  have z4 := fun q : Drift.Tide [b0 + 1] w3 [] => Drift.Tide.cell hcell hhb q
  have hS : ∀ k, k ∈ [b0 + 1] → k < w3.heap.size := fun k hk => by
    obtain rfl : k = b0 + 1 := by simpa using hk
    exact HY1.out.lt
  clear c0 c1 c2 c3 f2 y0 y1 y2 y3 hcell hhb
  refine Drift.wp_region_drift [b0 + 1] [(0,[]),(1,[]),(2,[]),(3,[]),(4,[]),(5,[]),(6,[])] [6] [] (by kernel_rfl) (by kernel_rfl) hS ?_
  simp only [Drift.pick, Drift.opsAt, List.getElem?_toArray, List.getElem?_cons_zero, List.getElem?_cons_succ, List.cons_append, List.nil_append, List.filterMap_nil]
  repeat (refine Drift.walk_step (fun K hK => ?_); go_simp; (refine hK _ ?_; clear hK K))
  refine Drift.walk_event rfl Drift.mkwalk_nil (EvBox (b0 + 1) (.int .i64 (m : Int)) (.slice (some ⟨h, 0, none⟩) n c) (.int .i64 ((r : Int) + 1)) (.int .i64 (s : Int))) (fun W hk _ => ?_) (fun v w4 hv hI _ hTd => ?_)
  · obtain ⟨⟨d0, d1, d2, d3⟩, f0, f1, f2, f3⟩ := (HY1.out.kept hk).facts
    go_simp
    exact ⟨⟨rfl, (HY1.out.kept hk).all _ _ _ _⟩, into_set4 _ _ _ _ _⟩
  · obtain ⟨rfl, hv⟩ := hv
    refine Drift.walk_nil ?_
    intro w5 hb5 _
    have HBX5 := Lib.hid (hv.kept hb5)
    obtain ⟨⟨d0, d1, d2, d3⟩, -⟩ := HBX5.out.facts
    have HB5 : Hid (Below b0 w w5) := HB3.out.trans ((below_of_into hI (fun y hy => by
      obtain rfl : y = b0 + 1 := by simpa using hy
      omega) (by have := HB3.out.size; have := HE0.out; omega)).trans (hb5.mono (by have := hI.size; have := HB3.out.size; have := HE0.out; omega)))
    clear z0 z1 z2 z3 z4 hv hI hb5 hS hTd
    simp only [List.length_cons, List.length_nil, List.drop_succ_cons, Nat.zero_add, Nat.reduceAdd]
    go_wp2_with fail
    refine bodyPost_ret (v := .tuple #[.agg #[.int .i64 (m : Int), .slice (some ⟨h, 0, none⟩) n c, .int .i64 ((r : Int) + 1), .int .i64 (s : Int)], .string (strOf x), .int .i64 0]) (by simp [results, Try.results76, go_sem, d0, d1, d2, d3]) rfl ⟨rfl, ?_⟩
    rw [HE1.out]
    exact HB5.out
theorem strinfo : (Try.prog.info? 9).map (fun i => (i.zero, i.size, i.bytes)) = some (some (.string ⟨#[]⟩), 1, 16) := by kernel_rfl
set_option maxHeartbeats 2000000 in
set_option maxRecDepth 100000 in
theorem RWrite_out (m n c i : Nat) (A : Option Addr) (r s : Nat) (x : ByteArray) (w : World) (hi : n ≤ i) (hi2 : i < 4294967296) :
    Calls Try.prog 78 #[.agg #[.int .i64 (m : Int), .slice A n c, .int .i64 (r : Int), .int .i64 (s : Int)], .int .u32 (i : Int), .string x] w fun e w' => e = .returned (.tuple #[.agg #[.int .i64 (m : Int), .slice A n c, .int .i64 (r : Int), .int .i64 (s : Int)], .int .i64 4]) ∧ Below w.heap.size w w' := by
  have cT := fun w => Lib.hid (there_out (.int .i64 (m : Int)) (.int .i64 (r : Int)) (.int .i64 (s : Int)) A n c i w hi hi2)
  clear hi hi2
  go_enter Try.func78, Try.ntmps78
  go_wp2_with fail
  obtain ⟨hb0, hb1, hbl⟩ := two_boxes w (.int .i64 (m : Int)) (.slice A n c) (.int .i64 (r : Int)) (.int .i64 (s : Int)) (.int .i64 0) (.slice none 0 0) (.int .i64 0) (.int .i64 0)
  generalize ((w.alloc (.cells #[.int .i64 (m : Int), .slice A n c, .int .i64 (r : Int), .int .i64 (s : Int)] 34)).alloc (.cells #[.int .i64 0, .slice none 0 0, .int .i64 0, .int .i64 0] 34)) = w1 at *
  obtain ⟨b0, e0⟩ : ∃ b0, b0 = w.heap.size := ⟨_, rfl⟩
  rw [← e0] at hb0 hb1 hbl
  simp only [← e0]
  have HB0 := Lib.hid hb0
  have HB1 := Lib.hid hb1
  have HBL := Lib.hid hbl
  have HE0 : Hid (b0 ≤ w.heap.size ∧ w.heap.size ≤ b0) := by unfold Hid; omega
  have HS0 := Lib.hid hbl.size
  have HE1 := Lib.hid e0.symm
  clear hb0 hb1 hbl e0
  refine (cT _).out.mono ?_
  rintro e w2 ⟨rfl, hb⟩
  obtain ⟨⟨c0, c1, c2, c3⟩, -⟩ := (HB0.out.kept hb).facts
  obtain ⟨⟨d0, d1, d2, d3⟩, f0, f1, f2, f3⟩ := (HB1.out.kept hb).facts
  have HB2 := Lib.hid (HBL.out.trans (hb.mono (by have := HBL.out.size; have := HE0.out; omega)))
  clear hb
  go_wp2_with fail
  refine bodyPost_ret (v := .tuple #[.agg #[.int .i64 (m : Int), .slice A n c, .int .i64 (r : Int), .int .i64 (s : Int)], .int .i64 4]) (by simp [results, Try.results78, go_sem, d0, d1, d2, d3]) rfl ⟨rfl, ?_⟩
  rw [HE1.out]
  exact below_set4 HB2.out (by omega) _ _ _ _
set_option maxHeartbeats 2000000 in
set_option maxRecDepth 100000 in
theorem RWrite_form (m n c i : Nat) (A : Option Addr) (r s : Nat) (x : ByteArray) (w : World) (hi : i < n) (hn : n ≤ 65536) (hx : x.size ≠ m) :
    Calls Try.prog 78 #[.agg #[.int .i64 (m : Int), .slice A n c, .int .i64 (r : Int), .int .i64 (s : Int)], .int .u32 (i : Int), .string x] w fun e w' => e = .returned (.tuple #[.agg #[.int .i64 (m : Int), .slice A n c, .int .i64 (r : Int), .int .i64 (s : Int)], .int .i64 3]) ∧ Below w.heap.size w w' := by
  have cT := fun w => Lib.hid (there_in (.int .i64 (m : Int)) (.int .i64 (r : Int)) (.int .i64 (s : Int)) A n c i w hi hn)
  have hxx : ((x.size : Int) != (m : Int)) = true := by simp; omega
  clear hi hn hx
  go_enter Try.func78, Try.ntmps78
  go_wp2_with fail
  obtain ⟨hb0, hb1, hbl⟩ := two_boxes w (.int .i64 (m : Int)) (.slice A n c) (.int .i64 (r : Int)) (.int .i64 (s : Int)) (.int .i64 0) (.slice none 0 0) (.int .i64 0) (.int .i64 0)
  generalize ((w.alloc (.cells #[.int .i64 (m : Int), .slice A n c, .int .i64 (r : Int), .int .i64 (s : Int)] 34)).alloc (.cells #[.int .i64 0, .slice none 0 0, .int .i64 0, .int .i64 0] 34)) = w1 at *
  obtain ⟨b0, e0⟩ : ∃ b0, b0 = w.heap.size := ⟨_, rfl⟩
  rw [← e0] at hb0 hb1 hbl
  simp only [← e0]
  have HB0 := Lib.hid hb0
  have HB1 := Lib.hid hb1
  have HBL := Lib.hid hbl
  have HE0 : Hid (b0 ≤ w.heap.size ∧ w.heap.size ≤ b0) := by unfold Hid; omega
  have HS0 := Lib.hid hbl.size
  have HE1 := Lib.hid e0.symm
  clear hb0 hb1 hbl e0
  refine (cT _).out.mono ?_
  rintro e w2 ⟨rfl, hb⟩
  obtain ⟨⟨c0, c1, c2, c3⟩, -⟩ := (HB0.out.kept hb).facts
  obtain ⟨⟨d0, d1, d2, d3⟩, f0, f1, f2, f3⟩ := (HB1.out.kept hb).facts
  have HB2 := Lib.hid (HBL.out.trans (hb.mono (by have := HBL.out.size; have := HE0.out; omega)))
  clear hb
  go_wp2_with fail
  refine bodyPost_ret (v := .tuple #[.agg #[.int .i64 (m : Int), .slice A n c, .int .i64 (r : Int), .int .i64 (s : Int)], .int .i64 3]) (by simp [results, Try.results78, go_sem, d0, d1, d2, d3]) rfl ⟨rfl, ?_⟩
  rw [HE1.out]
  exact below_set4 HB2.out (by omega) _ _ _ _
/-- what a right Write leaves -/
def RWrote (w w' : World) (m n : Nat) (r s : Int) (ls : List (List UInt8)) (e : Ending) : Prop := ∃ h c, e = .returned (.tuple #[.agg #[.int .i64 (m : Int), .slice (some ⟨h, 0, none⟩) n c, .int .i64 r, .int .i64 s], .int .i64 0]) ∧ Rf w' h c n ls ∧ w.heap.size ≤ h
set_option maxHeartbeats 4000000 in
set_option maxRecDepth 100000 in
theorem RWrite_in (m n c i h : Nat) (r s : Nat) (ls : List (List UInt8)) (l : List UInt8) (w : World) (H : Rf w h c n ls) (hi : i < n) (hl : l.length = m) (hs : s ≤ 1000000) :
    Calls Try.prog 78 #[.agg #[.int .i64 (m : Int), .slice (some ⟨h, 0, none⟩) n c, .int .i64 (r : Int), .int .i64 (s : Int)], .int .u32 (i : Int), .string (strOf l)] w fun e w' => RWrote w w' m n r ((s : Int) + 1) (ls.set i l) e ∧ Below w.heap.size w w' := by
  have cT := fun w => Lib.hid (there_in (.int .i64 (m : Int)) (.int .i64 (r : Int)) (.int .i64 (s : Int)) (some ⟨h, 0, none⟩) n c i w hi H.hi)
  have HH := Lib.hid H
  have hp : 0 < n := H.lo
  have hm : n ≤ 1048576 := by have := H.hi; omega
  have hn0 : n ≤ 65536 := H.hi
  have HL : Hid ((ls.map fun l => Value.string (strOf l)).length = n) := by unfold Hid; rw [List.length_map, H.len]
  have HLS : Hid ((ls.set i l).map (fun l => Value.string (strOf l)) = (ls.map fun l => Value.string (strOf l)).set i (.string (strOf l))) := by unfold Hid; rw [List.map_set]
  have HLN : Hid ((ls.set i l).length = n) := by unfold Hid; rw [List.length_set, H.len]
  have hwr : IntKind.i64.wrap ((s : Int) + 1) = (s : Int) + 1 := by rw [IntKind.wrap_i64]; omega
  have hsz : (strOf l).size = m := hl
  have HIN := Lib.hid hi
  generalize strOf l = x at *
  clear H hl
  go_enter Try.func78, Try.ntmps78
  go_wp2_with fail
  obtain ⟨hb0, hb1, hbl⟩ := two_boxes w (.int .i64 (m : Int)) (.slice (some ⟨h, 0, none⟩) n c) (.int .i64 (r : Int)) (.int .i64 (s : Int)) (.int .i64 0) (.slice none 0 0) (.int .i64 0) (.int .i64 0)
  generalize ((w.alloc (.cells #[.int .i64 (m : Int), .slice (some ⟨h, 0, none⟩) n c, .int .i64 (r : Int), .int .i64 (s : Int)] 34)).alloc (.cells #[.int .i64 0, .slice none 0 0, .int .i64 0, .int .i64 0] 34)) = w1 at *
  obtain ⟨b0, e0⟩ : ∃ b0, b0 = w.heap.size := ⟨_, rfl⟩
  rw [← e0] at hb0 hb1 hbl
  simp only [← e0]
  have HB0 := Lib.hid hb0
  have HB1 := Lib.hid hb1
  have HBL := Lib.hid hbl
  have HE0 : Hid (b0 ≤ w.heap.size ∧ w.heap.size ≤ b0) := by unfold Hid; omega
  have HS0 := Lib.hid hbl.size
  have HE1 := Lib.hid e0.symm
  clear hb0 hb1 hbl e0
  refine (cT _).out.mono ?_
  rintro e w2 ⟨rfl, hb⟩
  have HBX0 := Lib.hid (HB0.out.kept hb)
  have HBX1 := Lib.hid (HB1.out.kept hb)
  obtain ⟨⟨c0, c1, c2, c3⟩, -⟩ := HBX0.out.facts
  have HB2 := Lib.hid (HBL.out.trans (hb.mono (by have := HBL.out.size; have := HE0.out; omega)))
  have HO2 := Lib.hid (HH.out.kept (by rw [HE1.out]; exact HB2.out)).ow
  have hbs : b0 < w2.heap.size := HBX0.out.lt
  clear hb cT
  go_upto_region 5 with fail
  go_upto_region 6 with (with_reducible refine wpList_append_ow rfl (.tmp 19) (.tmp 21) _ rfl 9 Try.underlying32 (.string ⟨#[]⟩) 16 strinfo rfl (by omega) w2 rfl rfl h n c (ls.map fun l => .string (strOf l)) rfl HL.out HO2.out (strs_one ls) hp hm ?_; intro g cap w3 hO hB hb; have HBX3 := Lib.hid (HBX0.out.kept hb.out); obtain ⟨-, -, fb1, -, -⟩ := HBX3.out.facts; obtain ⟨⟨-, cb1, -, -⟩, -⟩ := HBX3.out.facts)
  have hgb : g ≠ b0 ∧ g ≠ b0 + 1 := by have := HBX1.out.lt; have := hB.out; omega
  have HB3 : Hid (Below b0 w w3) := HB2.out.trans (hb.out.mono (by omega))
  have HX1 := Lib.hid (HBX1.out.kept hb.out)
  have HB4 : Hid (Below b0 w (w3.setCell ⟨b0, 1, none⟩ (.slice (some ⟨g, 0, none⟩) n cap))) := HB3.out.setCell (Nat.le_refl _) _
  have HY0 := Lib.hid (HBX3.out.set1 (.slice (some ⟨g, 0, none⟩) n cap))
  have HY1 : Hid (Box (w3.setCell ⟨b0, 1, none⟩ (.slice (some ⟨g, 0, none⟩) n cap)) (b0 + 1) (.int .i64 0) (.slice none 0 0) (.int .i64 0) (.int .i64 0)) := HX1.out.other (by simp) _
  have HO4 : Hid (Ow 9 (w3.setCell ⟨b0, 1, none⟩ (.slice (some ⟨g, 0, none⟩) n cap)) g cap (ls.map fun l => .string (strOf l))) := hO.out.into (into_setCell w3 ⟨b0, 1, none⟩ _) (by simpa using hgb.1)
  generalize w3.setCell ⟨b0, 1, none⟩ (.slice (some ⟨g, 0, none⟩) n cap) = w4 at *
  have cg : w4.cell? ⟨g, i, none⟩ = some ((ls.map fun l => Value.string (strOf l))[i]'(by rw [HL.out]; exact HIN.out)) := HO4.out.cell (by rw [HL.out]; exact HIN.out)
  generalize (ls.map fun l => Value.string (strOf l))[i]'(by rw [HL.out]; exact HIN.out) = y at cg
  have fg := HO4.out.free i
  obtain ⟨⟨c0', c1', c2', c3'⟩, -⟩ := HY0.out.facts
  have HGB := Lib.hid hgb
  have HHB := Lib.hid hB.out
  clear c0 c1 c2 c3 hbs hO hB hb fb1 cb1 hgb
  go_upto_region 7 with fail
  have HB5 : Hid (Below b0 w (w4.setCell ⟨g, i, none⟩ (.string x))) := HB4.out.setCell (by show b0 ≤ g; have := HHB.out; have := HBX0.out.lt; omega) _
  have HZ0 : Hid (Box (w4.setCell ⟨g, i, none⟩ (.string x)) b0 (.int .i64 (m : Int)) (.slice (some ⟨g, 0, none⟩) n cap) (.int .i64 (r : Int)) (.int .i64 (s : Int))) := HY0.out.other HGB.out.1 _
  have HZ1 : Hid (Box (w4.setCell ⟨g, i, none⟩ (.string x)) (b0 + 1) (.int .i64 0) (.slice none 0 0) (.int .i64 0) (.int .i64 0)) := HY1.out.other HGB.out.2 _
  have HO5 := Lib.hid (HO4.out.set i (.string x)).1
  generalize w4.setCell ⟨g, i, none⟩ (.string x) = w5 at *
  obtain ⟨⟨c0, c1, c2, c3⟩, -, -, -, f3⟩ := HZ0.out.facts
  clear cg fg c0' c1' c2' c3'
  go_upto_region 8 with fail
  have HB6 : Hid (Below b0 w (w5.setCell ⟨b0, 3, none⟩ (.int .i64 ((s : Int) + 1)))) := HB5.out.setCell (Nat.le_refl _) _
  have HV0 := Lib.hid (HZ0.out.set3 (.int .i64 ((s : Int) + 1)))
  have HV1 : Hid (Box (w5.setCell ⟨b0, 3, none⟩ (.int .i64 ((s : Int) + 1))) (b0 + 1) (.int .i64 0) (.slice none 0 0) (.int .i64 0) (.int .i64 0)) := HZ1.out.other (by simp) _
  have HO6 := Lib.hid (HO5.out.into (into_setCell w5 ⟨b0, 3, none⟩ (.int .i64 ((s : Int) + 1))) (by simpa using HGB.out.1))
  generalize w5.setCell ⟨b0, 3, none⟩ (.int .i64 ((s : Int) + 1)) = w6 at *
  obtain ⟨⟨v0, v1, v2, v3⟩, -⟩ := HV0.out.facts
  obtain ⟨⟨d0, d1, d2, d3⟩, g0, g1, g2, g3⟩ := HV1.out.facts
  clear c0 c1 c2 c3 f3
  go_wp2_with fail
  refine bodyPost_ret (v := .tuple #[.agg #[.int .i64 (m : Int), .slice (some ⟨g, 0, none⟩) n cap, .int .i64 (r : Int), .int .i64 ((s : Int) + 1)], .int .i64 0]) (by simp [results, Try.results78, go_sem, d0, d1, d2, d3]) rfl ⟨⟨g, cap, rfl, ⟨?_, HLN.out, hp, hn0⟩, ?_⟩, ?_⟩
  · rw [HLS.out]
    exact HO6.out.into (into_set4 w6 _ _ _ _) (by simpa using HGB.out.2)
  · have := HHB.out
    have := HBX0.out.lt
    have := HE0.out
    omega
  · rw [HE1.out]
    exact below_set4 HB6.out (by omega) _ _ _ _
end Dv
end Go.Proofs.Ytjnbdmimflhhiaa
