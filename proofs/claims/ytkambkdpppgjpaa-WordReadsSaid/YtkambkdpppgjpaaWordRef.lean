/-
  Contracts of the document's reader: spoil, Raw, Num, Zeros, Text, End.
-/
import Derived.Test.YtkambkdpppgjpaaWordRead2
namespace Go.Proofs.Ytkambkdpppgjpaa
open Go.RowKit
namespace Wd
open Mem

/-- a reader as a value -/
def RV (w : World) (v : Value) (s : St) : Prop :=
  ∃ (A : Option Addr) (c : Nat), v = .agg #[.slice A s.b.length c, .int .i64 s.e] ∧ BL w A s.b ∧ s.b.length ≤ c ∧ s.b.length ≤ 140737488355000 ∧ s.ok
theorem RV.keep {w w' : World} {v : Value} {s : St} (h : RV w v s) (hb : Below w.heap.size w w') : RV w' v s := by
  obtain ⟨A, c, h1, h2, h3⟩ := h
  exact ⟨A, c, h1, h2.below hb, h3⟩
theorem RV.ok {w : World} {v : Value} {s : St} (h : RV w v s) : s.ok := by obtain ⟨_, _, _, _, _, _, h⟩ := h; exact h
theorem spoil_b {s : St} (h : s.ok) (x : Int) : (spoilS s x).b = [] := by
  unfold spoilS
  split
  · rfl
  · rename_i he; exact h he

set_option maxHeartbeats 1000000 in
theorem Rspoil_any (v : Value) (s : St) (x : Int) (w : World) (h : RV w v s) :
    Calls Try.prog 28 #[v, .int .i64 x] w fun e w' => e = .returned (.agg #[.slice none 0 0, .int .i64 (spoilS s x).e]) ∧ Below w.heap.size w w' := by
  obtain ⟨b, er⟩ := s
  obtain ⟨A, c, rfl, hb, hc, hl, hok⟩ := h
  by_cases he : er = 0
  · subst he
    go_enter Try.func28, Try.ntmps28
    go_wp2
    exact bodyPost_ret (v := .agg #[.slice none 0 0, .int .i64 x]) (by simp [results, Try.results28, go_sem]) rfl
      ⟨rfl, ((Below.refl _ _).alloc (Nat.le_refl _) _).alloc (by simp) _⟩
  · have HS := Lib.hid (show spoilS ⟨b, er⟩ x = ⟨b, er⟩ from if_neg he)
    obtain rfl : b = [] := hok he
    have h1 : (er == 0) = false := by simpa using he
    clear he
    go_enter Try.func28, Try.ntmps28
    go_wp2
    refine bodyPost_ret (v := .agg #[.slice none 0 0, .int .i64 er]) (by simp [results, Try.results28, go_sem]) rfl ⟨by rw [HS.out], ((Below.refl _ _).alloc (Nat.le_refl _) _).alloc (by simp) _⟩

theorem rv_spoilt (w : World) {s : St} (h : s.ok) (x : Int) : RV w (.agg #[.slice none 0 0, .int .i64 (spoilS s x).e]) (spoilS s x) := by
  have hb := spoil_b h x
  exact ⟨none, 0, by rw [hb]; rfl, by rw [hb]; exact BL.nil _ _, by rw [hb]; exact Nat.zero_le _, by rw [hb]; exact Nat.zero_le _, spoil_ok h x⟩

/-- what the document's Raw tells -/
def RTold (w : World) (s : St) (t : List UInt8) (e : Ending) : Prop := ∃ (v : Value) (A : Option Addr) (c : Nat), e = .returned (.tuple #[v, .slice A t.length c]) ∧ RV w v s ∧ BL w A t ∧ t.length ≤ c

/-- what was there reads as it did, as two rules -/
theorem olds {W W' : World} (h : Below W.heap.size W W') : (∀ b o, b < W.heap.size → W'.cell? ⟨b, o, none⟩ = W.cell? ⟨b, o, none⟩) ∧ (∀ b o, b < W.heap.size → W'.frozen? ⟨b, o, none⟩ = W.frozen? ⟨b, o, none⟩) :=
  ⟨fun b o hb => h.cell (p := ⟨b, o, none⟩) hb, fun b o hb => h.frozen (p := ⟨b, o, none⟩) hb⟩

theorem bl_setCell {w : World} {p : Option Addr} {l : List UInt8} (h : BL w p l) {a : Addr} {z : Value} (hz : w.cell? a = some z) (hn : ∀ x, z ≠ byteV x) (u : Value) : BL (w.setCell a u) p l := fun hl => by
  obtain ⟨b, o, e, hc⟩ := h hl
  refine ⟨b, o, e, fun i hi => ?_⟩
  rw [World.cell?_setCell_other w a ⟨b, o + i, none⟩ u (fun e => by
    rw [e, hc i hi] at hz
    exact hn _ (Option.some.inj hz).symm)]
  exact hc i hi
/-- a struct of a slice and a number in block g, written: bytes lie elsewhere -/
theorem bl_set2 {w : World} {p : Option Addr} {l : List UInt8} (h : BL w p l) {g : Nat} {a : Option Addr} {n c : Nat} {e : Int} (h0 : w.cell? ⟨g, 0, none⟩ = some (.slice a n c)) (h1 : w.cell? ⟨g, 1, none⟩ = some (.int .i64 e)) (x y : Value) :
    BL ((w.setCell ⟨g, 0, none⟩ x).setCell ⟨g, 1, none⟩ y) p l :=
  bl_setCell (bl_setCell h h0 (fun x => by simp [byteV]) x) (by rw [World.cell?_setCell_other w _ _ _ (by simp)]; exact h1) (fun x => by simp [byteV]) y
theorem RV.set2 {w : World} {v : Value} {s : St} (h : RV w v s) {g : Nat} {a : Option Addr} {n c : Nat} {e : Int} (h0 : w.cell? ⟨g, 0, none⟩ = some (.slice a n c)) (h1 : w.cell? ⟨g, 1, none⟩ = some (.int .i64 e)) (x y : Value) :
    RV ((w.setCell ⟨g, 0, none⟩ x).setCell ⟨g, 1, none⟩ y) v s := by
  obtain ⟨A, c, h1', h2, h3⟩ := h
  exact ⟨A, c, h1', bl_set2 h2 h0 h1 x y, h3⟩
theorem below_trans' {a b c : World} (h : Below a.heap.size a b) (k : Below b.heap.size b c) : Below a.heap.size a c := h.trans (k.mono h.size)
theorem below_set2 {B : Nat} {a w : World} {g : Nat} (h : Below B a w) (hg : B ≤ g) (x y : Value) : Below B a ((w.setCell ⟨g, 0, none⟩ x).setCell ⟨g, 1, none⟩ y) := (h.setCell hg x).setCell hg y
/-- the box of a reader handed in, and the cell of the one that goes out -/
theorem below_box2 (w : World) (A : Option Addr) (n c : Nat) (e : Int) : Below w.heap.size w ((w.alloc (.cells #[.slice A n c, .int .i64 e] 34)).alloc (.cells #[.slice none 0 0, .int .i64 0] 34)) :=
  ((Below.refl _ _).alloc (Nat.le_refl _) _).alloc (by simp) _

/-- both blocks, behind a call that only grows -/
theorem box_facts {w w1 : World} {A : Option Addr} {n c : Nat} {e : Int} (hb : Below ((w.alloc (.cells #[.slice A n c, .int .i64 e] 34)).alloc (.cells #[.slice none 0 0, .int .i64 0] 34)).heap.size ((w.alloc (.cells #[.slice A n c, .int .i64 e] 34)).alloc (.cells #[.slice none 0 0, .int .i64 0] 34)) w1) :
    w1.cell? ⟨w.heap.size, 0, none⟩ = some (.slice A n c) ∧ w1.cell? ⟨w.heap.size, 1, none⟩ = some (.int .i64 e) ∧ w1.frozen? ⟨w.heap.size, 0, none⟩ = false ∧ w1.frozen? ⟨w.heap.size, 1, none⟩ = false ∧
    w1.cell? ⟨w.heap.size + 1, 0, none⟩ = some (.slice none 0 0) ∧ w1.cell? ⟨w.heap.size + 1, 1, none⟩ = some (.int .i64 0) ∧ w1.frozen? ⟨w.heap.size + 1, 0, none⟩ = false ∧ w1.frozen? ⟨w.heap.size + 1, 1, none⟩ = false := by
  have h0 : w1.heap[w.heap.size]? = some (.cells #[.slice A n c, .int .i64 e] 34 (0, 0)) := by
    rw [hb.block _ (by simp; omega), Below.heap_alloc _ _ _ (by simp)]; exact heap_alloc_new w _
  have h1 : w1.heap[w.heap.size + 1]? = some (.cells #[.slice none 0 0, .int .i64 0] 34 (0, 0)) := by
    rw [hb.block _ (by simp)]
    have := heap_alloc_new (w.alloc (.cells #[.slice A n c, .int .i64 e] 34)) (.cells #[.slice none 0 0, .int .i64 0] 34)
    simpa using this
  obtain ⟨a1, a2, a3, a4⟩ := cells2 h0
  obtain ⟨b1, b2, b3, b4⟩ := cells2 h1
  exact ⟨a1, a2, a3, a4, b1, b2, b3, b4⟩

set_option maxHeartbeats 1000000 in
theorem RRaw_any (v : Value) (s : St) (n : Int) (w : World) (h : RV w v s) :
    Calls Try.prog 16 #[v, .int .i64 n] w fun e w' => RTold w' (takeS s n).1 (takeS s n).2 e ∧ Below w.heap.size w w' := by
  have hok := h.ok
  have HOK := Lib.hid hok
  obtain ⟨b, er⟩ := s
  by_cases he : er = 0
  · subst he
    have cS := fun v x w h => Lib.hid (Rspoil_any v ⟨b, 0⟩ x w h)
    have HV := Lib.hid h
    obtain ⟨A, c, rfl, hb, hc, hl, _⟩ := h
    by_cases h0 : n < 0
    · have HS := Lib.hid (take_neg ⟨b, 0⟩ h0)
      simp only at *
      clear hb hc hl hok
      go_enter Try.func16, Try.ntmps16
      go_wp2_with (go_at_call 28; refine (cS _ _ _ (HV.out.keep (below_box2 _ _ _ _ _))).out.mono ?_; rintro e w1 ⟨rfl, hb⟩; obtain ⟨hc1, hf1⟩ := olds hb; have HB := Lib.hid hb; clear hb)
      refine bodyPost_ret (v := .tuple #[.agg #[.slice none 0 0, .int .i64 (spoilS ⟨b, 0⟩ 2).e], .slice none 0 0]) (by simp [results, Try.results16, go_sem, hc1]) rfl ?_
      rw [HS.out]
      exact ⟨⟨_, none, 0, rfl, rv_spoilt _ HOK.out 2, BL.nil _ _, Nat.le_refl _⟩, below_set2 (below_trans' (below_box2 w A b.length c 0) HB.out) (by omega) _ _⟩
    · by_cases h1 : (b.length : Int) < n
      · have HS := Lib.hid (take_short ⟨b, 0⟩ h0 h1)
        simp only at *
        clear hb hc hl hok
        go_enter Try.func16, Try.ntmps16
        go_wp2_with (go_at_call 28; refine (cS _ _ _ (HV.out.keep (below_box2 _ _ _ _ _))).out.mono ?_; rintro e w1 ⟨rfl, hb⟩; obtain ⟨hc1, hf1⟩ := olds hb; have HB := Lib.hid hb; clear hb)
        refine bodyPost_ret (v := .tuple #[.agg #[.slice none 0 0, .int .i64 (spoilS ⟨b, 0⟩ 5).e], .slice none 0 0]) (by simp [results, Try.results16, go_sem, hc1]) rfl ?_
        rw [HS.out]
        exact ⟨⟨_, none, 0, rfl, rv_spoilt _ HOK.out 5, BL.nil _ _, Nat.le_refl _⟩, below_set2 (below_trans' (below_box2 w A b.length c 0) HB.out) (by omega) _ _⟩
      · have HS := Lib.hid (take_some ⟨b, 0⟩ h0 h1)
        obtain ⟨k, rfl⟩ : ∃ k : Nat, n = k := ⟨n.toNat, by omega⟩
        obtain ⟨m, hm⟩ : ∃ m, m = b.length := ⟨_, rfl⟩
        simp only [Int.toNat_natCast] at *
        have hk : k ≤ m := by omega
        obtain ⟨i0, hi, hsz⟩ := u8one
        have r1 := fun w => run_upTo (P := Try.prog) Try.underlying22 hi A m c k (by omega) w
        have r2 := fun w => run_cut (P := Try.prog) Try.underlying22 hi hsz A m c k hk w
        have HM := Lib.hid hm
        have HBL := Lib.hid hb
        have HC := Lib.hid hc
        have HLL := Lib.hid hl
        obtain ⟨A', hA'⟩ : ∃ A', A' = cutA A c k := ⟨_, rfl⟩
        rw [← hA'] at r2
        have HA := Lib.hid hA'
        rw [← hm]
        clear hm hA' hi hsz h0 h1 hl hb hc hok HV cS
        go_enter Try.func16, Try.ntmps16
        go_wp2_with fail
        refine bodyPost_ret (v := .tuple #[.agg #[.slice A' (m - k) (c - k), .int .i64 0], .slice A k c]) (by simp [results, Try.results16, go_sem]) rfl ?_
        have hm := HM.out
        have hbb : Below w.heap.size w ((w.alloc (.cells #[.slice A' (m - k) (c - k), .int .i64 0] 34)).alloc (.cells #[.slice A' (m - k) (c - k), .int .i64 0] 34)) := ((Below.refl _ _).alloc (Nat.le_refl _) _).alloc (by simp) _
        have hC := HC.out
        have hL := HLL.out
        rw [HS.out]
        have hk2 : (b.take k).length = k := by simp; omega
        refine ⟨⟨_, A, c, by rw [hk2], ⟨A', c - k, by simp [hm], ?_, by simp; omega, by simp; omega, fun h => absurd rfl h⟩, (HBL.out.take k).below hbb, by rw [hk2]; omega⟩, hbb⟩
        have h1 := (HBL.out.cut (k := k) hC).below hbb
        rw [← HA.out] at h1
        exact h1
  · have HS := Lib.hid (take_spoilt hok he n)
    obtain rfl : b = [] := hok he
    have h1 : (er != 0) = true := by simpa using he
    have h2 : (er == 0) = false := by simpa using he
    obtain ⟨A, c, rfl, hb, hc, hl, _⟩ := h
    simp only [List.length_nil] at *
    clear he hb hc hl hok
    go_enter Try.func16, Try.ntmps16
    go_wp2_with fail
    refine bodyPost_ret (v := .tuple #[.agg #[.slice A 0 c, .int .i64 er], .slice none 0 0]) (by simp [results, Try.results16, go_sem]) rfl ?_
    rw [HS.out]
    exact ⟨⟨_, none, 0, rfl, ⟨A, c, rfl, BL.nil _ _, Nat.zero_le _, Nat.zero_le _, HOK.out⟩, BL.nil _ _, Nat.le_refl _⟩, ((Below.refl _ _).alloc (Nat.le_refl _) _).alloc (by simp) _⟩

theorem set2_cell {w : World} {g g' i : Nat} (h : g ≠ g') (x y : Value) : ((w.setCell ⟨g, 0, none⟩ x).setCell ⟨g, 1, none⟩ y).cell? ⟨g', i, none⟩ = w.cell? ⟨g', i, none⟩ := by
  rw [World.cell?_setCell_other _ _ _ _ (by simp <;> omega), World.cell?_setCell_other w _ _ _ (by simp <;> omega)]
theorem cell_after {W w' : World} (hb : Below W.heap.size W w') {a : Addr} {v : Value} (h : W.cell? a = some v) : w'.cell? a = some v := (hb.cell (Flow.lt_of_cell h)).trans h
theorem free_after {W w' : World} (hb : Below W.heap.size W w') {a : Addr} {v : Value} (h : W.cell? a = some v) {f : Bool} (hf : W.frozen? a = f) : w'.frozen? a = f := (hb.frozen (Flow.lt_of_cell h)).trans hf
theorem set2_free {w : World} {g g' i : Nat} (h : g ≠ g') (x y : Value) : ((w.setCell ⟨g, 0, none⟩ x).setCell ⟨g, 1, none⟩ y).frozen? ⟨g', i, none⟩ = w.frozen? ⟨g', i, none⟩ := by
  refine World.frozen?_of_block (w := w) (a := ⟨g', i, none⟩) ?_
  rw [Below.heap_setCell _ _ _ _ (show g' ≠ g by omega), Below.heap_setCell _ _ _ _ (show g' ≠ g by omega)]
/-- a block that holds a reader holds no bytes -/
theorem bl_ne {w : World} {p : Option Addr} {l : List UInt8} (h : BL w p l) {g : Nat} {a : Option Addr} {n c : Nat} {e : Int} {T : TypeId} (hg : w.heap[g]? = some (.cells #[.slice a n c, .int .i64 e] T (0, 0))) : 0 < l.length → ∀ x, p = some x → x.block ≠ g := by
  intro hl x hx hxg
  obtain ⟨b, o, e1, hc⟩ := h hl
  obtain rfl : x = ⟨b, o, none⟩ := by rw [hx] at e1; simpa using e1
  have hbg : b = g := hxg
  subst hbg
  have h0 := hc 0 hl
  simp only [World.cell?, hg, Nat.add_zero] at h0
  match o, h0 with
  | 0, h0 => simp [byteV] at h0
  | 1, h0 => simp [byteV] at h0
  | n + 2, h0 => simp at h0
theorem box_block {w w1 : World} {X : Obj} {A : Option Addr} {n c : Nat} {e : Int} (hb : Below ((w.alloc X).alloc (.cells #[.slice A n c, .int .i64 e] 34)).heap.size ((w.alloc X).alloc (.cells #[.slice A n c, .int .i64 e] 34)) w1) :
    w1.heap[w.heap.size + 1]? = some (.cells #[.slice A n c, .int .i64 e] 34 (0, 0)) := by
  rw [hb.block _ (by simp)]
  have := heap_alloc_new (w.alloc X) (.cells #[.slice A n c, .int .i64 e] 34)
  simpa using this
theorem rv_bound {w : World} {v : Value} {s : St} (h : RV w v s) (n : Int) : (takeS s n).2.length ≤ 140737488355000 := by
  obtain ⟨_, _, _, _, _, hl, _⟩ := h
  have := take_len_le s n
  omega

set_option maxHeartbeats 1000000 in
theorem RZeros_any (v : Value) (s : St) (n : Int) (w : World) (h : RV w v s) :
    Calls Try.prog 20 #[v, .int .i64 n] w fun e w' => ∃ v', e = .returned v' ∧ RV w' v' (zerosS s n) ∧ Below w.heap.size w w' := by
  have HOK := Lib.hid h.ok
  have HL := Lib.hid (rv_bound h n)
  have HV := Lib.hid h
  obtain ⟨A, c, rfl, hb, hc, hl, _⟩ := h
  have cR := fun v w h => Lib.hid (RRaw_any v s n w h)
  have cZ := fun p c l w hb hl => Lib.hid (Rzeros_any p c l w hb hl)
  have cS := fun v s x w h => Lib.hid (Rspoil_any v s x w h)
  clear hb hc hl
  cases hz : zeroB (takeS s n).2 with
  | true =>
    have HS := Lib.hid (show zerosS s n = (takeS s n).1 by simp [zerosS, hz])
    have HZ := Lib.hid hz
    clear hz
    go_enter Try.func20, Try.ntmps20
    go_wp2_with (first
      | (go_at_call 16; refine (cR _ _ (HV.out.keep (below_box2 _ _ _ _ _))).out.mono ?_; rintro e w1 ⟨⟨v', A2, c2, rfl, hrv, hbl, hlc⟩, hb⟩; have HRV := Lib.hid hrv; obtain ⟨A1, c1, rfl, hbl1, _⟩ := hrv; obtain ⟨c0', c1', f0', f1', d0', d1', g0', g1'⟩ := box_facts hb; have HB := Lib.hid hb; have HBL := Lib.hid hbl; clear hb hbl hbl1)
      | (go_at_call 31; refine (cZ _ _ _ _ (bl_set2 HBL.out c0' c1' _ _) (by have := HL.out; omega)).out.mono ?_; (rw [HZ.out]; rintro e w2 ⟨rfl, rfl⟩)))
    refine bodyPost_ret (v := .agg #[.slice A1 (takeS s n).1.b.length c1, .int .i64 (takeS s n).1.e]) (by simp [results, Try.results20, go_sem, c0', c1', d0', d1']) rfl ⟨_, rfl, ?_, ?_⟩
    · rw [HS.out]
      exact (HRV.out.set2 c0' c1' _ _).set2 ((set2_cell (by omega) _ _).trans d0') ((set2_cell (by omega) _ _).trans d1') _ _
    · exact below_set2 (below_set2 (below_trans' (below_box2 _ _ _ _ _) HB.out) (Nat.le_refl _) _ _) (by omega) _ _
  | false =>
    have HS := Lib.hid (show zerosS s n = spoilS (takeS s n).1 3 by simp [zerosS, hz])
    have HZ := Lib.hid hz
    clear hz
    go_enter Try.func20, Try.ntmps20
    go_wp2_with (first
      | (go_at_call 16; refine (cR _ _ (HV.out.keep (below_box2 _ _ _ _ _))).out.mono ?_; rintro e w1 ⟨⟨v', A2, c2, rfl, hrv, hbl, hlc⟩, hb⟩; have HRV := Lib.hid hrv; obtain ⟨A1, c1, rfl, hbl1, _⟩ := hrv; obtain ⟨c0', c1', f0', f1', d0', d1', g0', g1'⟩ := box_facts hb; have HB := Lib.hid hb; have HBL := Lib.hid hbl; clear hb hbl hbl1)
      | (go_at_call 31; refine (cZ _ _ _ _ (bl_set2 HBL.out c0' c1' _ _) (by have := HL.out; omega)).out.mono ?_; (rw [HZ.out]; rintro e w2 ⟨rfl, rfl⟩))
      | (go_at_call 28; refine (cS _ (takeS s n).1 _ _ (HRV.out.set2 c0' c1' _ _)).out.mono ?_; rintro e w3 ⟨rfl, hb⟩; have d0'' := cell_after hb ((set2_cell (by omega) _ _).trans d0'); have d1'' := cell_after hb ((set2_cell (by omega) _ _).trans d1'); have g0'' := free_after hb ((set2_cell (by omega) _ _).trans d0') ((set2_free (by omega) _ _).trans g0'); have g1'' := free_after hb ((set2_cell (by omega) _ _).trans d1') ((set2_free (by omega) _ _).trans g1'); have HB3 := Lib.hid hb; clear hb))
    refine bodyPost_ret (v := .agg #[.slice none 0 0, .int .i64 (spoilS (takeS s n).1 3).e]) (by simp [results, Try.results20, go_sem, d0'', d1'']) rfl ⟨_, rfl, ?_, ?_⟩
    · rw [HS.out]
      exact rv_spoilt _ (take_ok HOK.out n) 3
    · refine below_set2 (below_trans' (below_set2 (below_trans' (below_box2 _ _ _ _ _) HB.out) (Nat.le_refl _) _ _) HB3.out) (by omega) _ _
end Wd
end Go.Proofs.Ytkambkdpppgjpaa
