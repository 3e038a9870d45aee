/-
  NodeLd NodeHv NodeRk NodeCalls, in one text. Written by merge.py.
-/
import Derived.Test.YtlcdjbleeanpbaaNodeF
import Derived.Test.YtlcdjbleeanpbaaOwn
import Derived.Test.YtlcdjbleeanpbaaFanWayC
import Derived.Test.YtlcdjbleeanpbaaHvA
import Derived.Test.YtlcdjbleeanpbaaInts
import Derived.Test.YtlcdjbleeanpbaaNodeK3
import Derived.Test.YtlcdjbleeanpbaaSlA

namespace Go.Proofs.Ytlcdjbleeanpbaa
open Go.RowKit
namespace No
open Mem Lx Bu Lf Fa
def ldV (P : List ByteArray) (B : List Mg) (n : Nat) : List Value := (List.range n).map fun i : Nat => .int .i64 (loadN P B (i : Int) : Int)
theorem ldV_len (P : List ByteArray) (B : List Mg) (n : Nat) : (ldV P B n).length = n := by simp [ldV]
theorem ldV_nil (P : List ByteArray) (n : Nat) : ldV P [] n = List.replicate n (.int .i64 0) := by
  refine List.ext_getElem (by simp [ldV]) fun i h1 h2 => ?_
  simp [ldV, loadN]
theorem ldV_next {P : List ByteArray} {B : List Mg} {n k z : Nat} {m : Mg} (hm : B[k]? = some m) (hz : wayS P m.1 = z) : (ldV P (B.take k) n).set z (.int .i64 ((loadN P (B.take k) (z : Int) + 1 : Nat) : Int)) = ldV P (B.take (k + 1)) n := by
  refine List.ext_getElem (by simp [ldV]) fun i h1 h2 => ?_
  rw [List.getElem_set]
  simp only [ldV, List.getElem_map, List.getElem_range]
  rw [loadN_next hm, hz]
  by_cases e : z = i
  · subst e
    simp
  · have e2 : ¬ ((z : Int) = (i : Int)) := by omega
    simp [e, if_neg e2]
theorem intinfo : (Try.prog.info? 3).map (fun i => (i.zero, i.size, i.bytes)) = some (some (.int .i64 0), 1, 8) := by kernel_rfl
set_option maxRecDepth 100000 in
set_option maxHeartbeats 4000000 in
theorem Loads_new {W : World} {n : Nd} {a : At} (h : NdIn W n a) (hf : Fit n) (hp : PlainN n) : Calls Try.prog 17 #[.agg (ndCs n a)] W fun e w' => (∃ q c, e = .returned (.slice (some ⟨q, 0, none⟩) n.kids.length c) ∧ W.heap.size ≤ q ∧ IL w' (some ⟨q, 0, none⟩) (loadsN n)) ∧ Below W.heap.size W w' := by
  obtain ⟨lv, K, P, B, Q⟩ := n
  obtain ⟨kA, kc, pA, pc, bA, bc, qA, qc⟩ := a
  obtain ⟨-, hsr, hpl⟩ := hp
  have hr := srise_iff.1 hsr
  unfold ndCs
  have hP : P.length ≤ 80 := hf.piv
  have hB : B.length ≤ 150 := hf.buf
  have hK : K.length ≤ 80 := hf.kids
  have cW := fun (W1 : World) (hb : Below W.heap.size W W1) (x : Mg) (hx : x ∈ B) => Lib.hid (Way_any (c := pc) (h.piv.kept hb) x.1 (Nat.le_trans (hf.bk x hx) (by decide)) (fun m hm => Nat.le_trans (hf.pk m hm) (by decide)) hr (Nat.le_trans hf.piv (by decide)))
  have HBF := Lib.hid h.buf.1
  have HWL : Hid (∀ key, wayS P key < K.length) := fun key => by
    have := wayS_le P key
    simp only at hpl
    omega
  simp only at cW HBF hpl
  have HBT : Hid (B.take B.length = B) := List.take_length
  have HLD : Hid (loadsN ⟨lv, K, P, B, Q⟩ = (List.range K.length).map fun i : Nat => (loadN P B (i : Int) : Int)) := rfl
  clear h hf hsr hr hpl
  obtain ⟨m, hm⟩ : ∃ m, m = B.length := ⟨_, rfl⟩
  have HM : Hid (m = B.length) := hm
  simp only [← hm] at hB ⊢
  rw [← hm] at HBT
  generalize K.length = kn at *
  generalize P.length = pn at *
  generalize Q.length = qn at *
  clear hm
  have hmk := fun w => run_make_at (P := Try.prog) Try.underlying43 intinfo rfl (by omega) kn (by omega) w
  have HKN : Hid (kn ≤ 1048576) := by unfold Hid; omega
  go_enter Try.func17, Try.ntmps17
  go_upto_region 1 with fail
  have hx := heap_alloc_new W (.cells #[.int .i64 lv, .slice kA kn kc, .slice pA pn pc, .slice bA m bc, .slice qA qn qc] 31)
  have hb0 : Below W.heap.size W (W.alloc (.cells #[.int .i64 lv, .slice kA kn kc, .slice pA pn pc, .slice bA m bc, .slice qA qn qc] 31)) := (Below.refl _ _).alloc (Nat.le_refl _) _
  generalize W.alloc (.cells #[.int .i64 lv, .slice kA kn kc, .slice pA pn pc, .slice bA m bc, .slice qA qn qc] 31) = w1 at *
  have HB1 := Lib.hid hb0
  obtain ⟨g, hg⟩ : ∃ g, g = W.heap.size := ⟨_, rfl⟩
  simp only [← hg]
  rw [← hg] at hx
  have HX1 := Lib.hid hx
  obtain ⟨d0, d1, d2, d3, d4⟩ := box5 hx
  have HG := Lib.hid hg
  clear hx hb0 hg
  go_upto_region 2 with fail
  have hw0 : Ow 3 (w1.alloc (.cells (Array.replicate kn (.int .i64 0)) 3)) w1.heap.size kn (ldV P [] kn) := by
    have := ow_made 3 w1 (.int .i64 0) kn HKN.out
    rw [ldV_nil]
    simpa using this
  have hb2 : Below w1.heap.size w1 (w1.alloc (.cells (Array.replicate kn (.int .i64 0)) 3)) := (Below.refl _ _).alloc (Nat.le_refl _) _
  generalize w1.alloc (.cells (Array.replicate kn (.int .i64 0)) 3) = w2 at *
  obtain ⟨q, hq⟩ : ∃ q, q = w1.heap.size := ⟨_, rfl⟩
  simp only [← hq]
  rw [← hq] at hw0
  have hgq : g ≠ q := by
    have := (Array.getElem?_eq_some_iff.1 HX1.out).1
    omega
  have HO0 := Lib.hid hw0
  have HB2 : Hid (Below W.heap.size W w2) := bel3 HB1.out hb2
  have HX2 : Hid (w2.heap[g]? = some (.cells #[.int .i64 lv, .slice kA kn kc, .slice pA pn pc, .slice bA m bc, .slice qA qn qc] 31 (0, 0))) := kept3 HX1.out hb2
  have HQ : Hid (W.heap.size ≤ q) := by
    rw [hq]
    exact HB1.out.size
  clear hb2 hq hw0 HB1 HX1 d0 d1 d2 d3 d4 hmk
  obtain ⟨d0, d1, d2, d3, d4⟩ := box5 HX2.out
  go_upto_region 3 with fail
  clear d0 d1 d2 d3 d4
  go_wp2_with fail
  go_loopg [14] m (fun gk iv wr => ∃ k : Nat, k ≤ m ∧ gk = m - k ∧ iv = .int .i64 (k : Int) ∧ Hid (Ow 3 wr q kn (ldV P (B.take k) kn)) ∧ Hid (Below W.heap.size W wr) ∧ Hid (wr.heap[g]? = some (.cells #[.int .i64 lv, .slice kA kn kc, .slice pA pn pc, .slice bA m bc, .slice qA qn qc] 31 (0, 0))))
  case atStart => exact ⟨0, Nat.zero_le _, rfl, rfl, HO0, HB2, HX2⟩
  case round =>
    obtain ⟨k, hk, rfl, rfl, HO, HB, HX⟩ := hrel
    clear HO0 HB2 HX2
    by_cases hlt : k < m
    · have hkL : k < B.length := by rw [← HM.out]; exact hlt
      obtain ⟨x, hxx⟩ : ∃ x, x = B[k] := ⟨_, rfl⟩
      have hx' := nat_len hkL
      rw [← hxx] at hx'
      obtain ⟨b, o, e, -, c0, c1, c2⟩ := RdK.msg (HBF.out.kept HB.out) hx'
      subst e
      have cX := fun (W1 : World) (hb : Below W.heap.size W W1) => cW W1 hb x (List.mem_of_getElem? hx')
      obtain ⟨z, hz⟩ : ∃ z, z = wayS P x.1 := ⟨_, rfl⟩
      have hzk : z < kn := by rw [hz]; exact HWL.out _
      have HNX := Lib.hid (ldV_next (P := P) (n := kn) hx' hz.symm)
      rw [← hz] at cX
      obtain ⟨y, hy⟩ : ∃ y, y = loadN P (B.take k) (z : Int) := ⟨_, rfl⟩
      rw [← hy] at HNX
      have hyb : y ≤ 150 := by
        have := loadN_le P (B.take k) (z : Int)
        rw [List.length_take] at this
        omega
      have hcl : wr.cell? ⟨q, z, none⟩ = some (.int .i64 (y : Int)) := by
        rw [HO.out.cell (by rw [ldV_len]; exact hzk)]
        simp [ldV, hy]
      have HC := Lib.hid hcl
      have hw1 : IntKind.i64.wrap ((y : Int) + 1) = ((y + 1 : Nat) : Int) := by rw [IntKind.wrap_i64]; omega
      have hw3 : IntKind.i64.wrap ((k : Int) + 1) = ((k + 1 : Nat) : Int) := by rw [IntKind.wrap_i64]; omega
      clear hxx hx' hkL hz hy hcl
      go_upto_region 5 with fail
      have hx5 := heap_alloc_new wr (.cells #[.string x.1, .bool x.2.1, .string x.2.2] 40)
      have hb5 : Below wr.heap.size wr (wr.alloc (.cells #[.string x.1, .bool x.2.1, .string x.2.2] 40)) := (Below.refl _ _).alloc (Nat.le_refl _) _
      generalize wr.alloc (.cells #[.string x.1, .bool x.2.1, .string x.2.2] 40) = w5 at *
      obtain ⟨r, hr⟩ : ∃ r, r = wr.heap.size := ⟨_, rfl⟩
      simp only [← hr]
      rw [← hr] at hx5
      clear hr
      obtain ⟨-, -, d2, -, -⟩ := box5 (kept3 HX.out hb5)
      obtain ⟨e0, -, -⟩ := box3 hx5
      have HB5 := Lib.hid (bel3 HB.out hb5)
      have H5 := Lib.hid hb5
      clear c0 c1 c2 hb5 hx5
      go_upto_region 7 with (go_at_call 44; refine (cX _ HB5.out).out.mono ?_; rintro e w6 ⟨rfl, hb6⟩)
      have H56 := Lib.hid (bel3 H5.out hb6)
      have hcl : w6.cell? ⟨q, z, none⟩ = some (.int .i64 (y : Int)) := (Flow.Into.of_below (S := []) H56.out).cell HC.out (by simp)
      have HO6 := HO.out.kept H56.out
      have hfr := HO6.free z
      obtain ⟨ho7, hi7⟩ := HO6.set z (.int .i64 ((y + 1 : Nat) : Int))
      rw [HNX.out] at ho7
      have HO7 := Lib.hid ho7
      have HB7 : Hid (Below W.heap.size W (w6.setCell ⟨q, z, none⟩ (.int .i64 ((y + 1 : Nat) : Int)))) := (bel3 HB.out H56.out).setCell HQ.out _
      have HX7 : Hid ((w6.setCell ⟨q, z, none⟩ (.int .i64 ((y + 1 : Nat) : Int))).heap[g]? = some (.cells #[.int .i64 lv, .slice kA kn kc, .slice pA pn pc, .slice (some ⟨b, o, none⟩) m bc, .slice qA qn qc] 31 (0, 0))) := (set_other _ hgq).trans (kept3 HX.out H56.out)
      clear HO6 hi7 ho7 hb6 cX d2 e0
      go_wp2_with fail
      go_roundg (m - (k + 1))
      case measure => omega
      case rel => exact ⟨k + 1, hlt, rfl, by go_num, HO7, HB7, HX7⟩
    · obtain rfl : k = m := by omega
      have HIL : Hid (IL wr (some ⟨q, 0, none⟩) (loadsN ⟨lv, K, P, B, Q⟩)) := by
        intro h0
        refine ⟨q, 0, rfl, fun i hi => ?_⟩
        have ho := HO.out
        rw [HBT.out] at ho
        have hi2 : i < kn := by
          have := hi
          rw [HLD.out] at this
          simpa using this
        rw [Nat.zero_add, ho.cell (by rw [ldV_len]; exact hi2)]
        simp [ldV, HLD.out, intV]
      clear hlt cW
      go_wp2_with fail
      go_ret
      exact ⟨⟨q, kn, rfl, HQ.out, HIL.out⟩, HB.out⟩
theorem Loads_any {W : World} {n : Nd} {a : At} (h : NdIn W n a) (hf : Fit n) (hp : PlainN n) : Calls Try.prog 17 #[.agg (ndCs n a)] W fun e w' => (∃ A c, e = .returned (.slice A n.kids.length c) ∧ IL w' A (loadsN n)) ∧ Below W.heap.size W w' :=
  (Loads_new h hf hp).mono fun _ _ ⟨⟨_, c, he, _, hi⟩, hb⟩ => ⟨⟨_, c, he, hi⟩, hb⟩
end No
end Go.Proofs.Ytlcdjbleeanpbaa

namespace Go.Proofs.Ytlcdjbleeanpbaa
open Go.RowKit
namespace No
open Mem Lx Bu Lf Fa Hp
/-- the heap of kids L in box b, just the blocks of S are its own -/
def HB (f : Nat → Nat) (b : Nat) (S : List Nat) (w : World) (L : List Nat) : Prop := HS f w S b w L ∧ ∀ y, y ∈ S → y < w.heap.size
section
variable {f : Nat → Nat} {W w w' : World} {b i j n x : Nat} {S T L : List Nat}
theorem HS.rebase (h : HS f W S b w L) : ∃ S', HB f b S' w L ∧ ∀ y, y ∈ S' → y ∈ S ∨ W.heap.size ≤ y := by
  obtain ⟨⟨A, c, hv, ha⟩, hi, hs⟩ := h
  refine ⟨b :: rowS A, ⟨⟨⟨A, c, hv, fun a e => .inl (List.mem_cons_of_mem _ (rowS_in e))⟩, Flow.Into.refl _ _, by simp⟩, fun y hy => ?_⟩, fun y hy => ?_⟩
  · rcases List.mem_cons.1 hy with rfl | hy
    · exact hv.lt
    · exact (hv.blocks y hy).1
  · rcases List.mem_cons.1 hy with rfl | hy
    · exact .inl hs
    · obtain ⟨a, e, rfl⟩ := rowS_of hy
      exact ha a e
theorem HB.move (h : HB f b S w L) (hi : Flow.Into T w w') (hT : ∀ y, y ∈ T → y ∉ S) : HB f b S w' L := by
  obtain ⟨⟨⟨A, c, hv, ha⟩, _, hs⟩, hl⟩ := h
  have hA : ∀ a, A = some a → a.block ∈ S := fun a e => by
    rcases ha a e with h1 | h1
    · exact h1
    · have := (hv.row.at_ a e).2
      omega
  refine ⟨⟨⟨A, c, ⟨?_, hv.row.into hi fun a e hh => hT _ hh (hA a e), hv.off, hv.bB⟩, fun a e => .inl (hA a e)⟩, Flow.Into.refl _ _, hs⟩, fun y hy => Nat.lt_of_lt_of_le (hl y hy) hi.size⟩
  exact (hi.block b hv.lt fun hh => hT b hh hs).trans hv.box
theorem HB.kept (h : HB f b S w L) (hb : Below w.heap.size w w') : HB f b S w' L := h.move (T := []) (Flow.Into.of_below hb) (fun y hy => by cases hy)
theorem HB.bs (h : HB f b S w L) : b ∈ S := h.1.2.2
theorem as_wt2 (a b : Int) (w : World) : (Instr.typeAssert (.iface 72 (.agg #[.int .i64 a, .int .i64 b])) 20 72 true).run Try.prog w = .ok (.tuple #[.agg #[.int .i64 a, .int .i64 b], .bool true]) w := as_wt a b w
set_option maxRecDepth 100000 in
set_option maxHeartbeats 4000000 in
theorem top_any (h : HB f b S w L) (hl : L.length = n + 1) (hn : n ≤ 999) (hp : HpF (aheadN f) L L.length 0) (hx : gt L 0 = x) : Calls Try.prog 47 #[.pointer (some ⟨b, 0, none⟩)] w fun e w' => e = .returned (.agg #[.int .i64 (x : Int), .int .i64 (f x : Int)]) ∧ Flow.Into S w w' ∧ ∃ S' L', HB f b S' w' L' ∧ (∀ y, y ∈ S' → y ∈ S ∨ w.heap.size ≤ y) ∧ Took (aheadN f) L x L' := by
  subst hx
  have hta := fun w => as_wt2 ((gt L 0 : Nat) : Int) (f (gt L 0) : Int) w
  have hb0 : Below w.heap.size w (w.alloc (.cells #[.int .i64 0, .int .i64 0] 72)) := (Below.refl _ _).alloc (Nat.le_refl _) _
  have hr0 := heap_alloc_new w (.cells #[.int .i64 0, .int .i64 0] 72)
  have H1 := Lib.hid (h.kept hb0)
  have HI1 : Hid (Flow.Into S w (w.alloc (.cells #[.int .i64 0, .int .i64 0] 72))) := Flow.Into.of_below hb0
  have hS := h.2
  have cP : ∀ w1, HB f b S w1 L → Hid (Calls Try.prog 65 #[.iface 68 (.pointer (some ⟨b, 0, none⟩))] w1 fun e w' => e = .returned (.iface 72 (.agg #[.int .i64 ((gt L 0 : Nat) : Int), .int .i64 (f (gt L 0) : Int)])) ∧ ∃ L', HS f w1 S b w' L' ∧ Took (aheadN f) L (gt L 0) L') := fun w1 h1 => HeapPop_any h1.1 hl hn hp
  clear h hl hn hp hb0
  generalize gt L 0 = x at *
  go_enter Try.func47, Try.ntmps47
  go_upto_region 1 with fail
  have hsz1 : (w.alloc (.cells #[.int .i64 0, .int .i64 0] 72)).heap.size = w.heap.size + 1 := by simp
  generalize w.alloc (.cells #[.int .i64 0, .int .i64 0] 72) = w1 at *
  obtain ⟨r, hr⟩ : ∃ r, r = w.heap.size := ⟨_, rfl⟩
  simp only [← hr] at hr0 hS hsz1 ⊢
  have HR0 := Lib.hid hr0
  have HSr := Lib.hid hS
  have HZ := Lib.hid hsz1
  have HRW := Lib.hid hr
  clear hr hr0 hS hsz1
  go_upto_region 2 with (go_at_call 65; refine (cP _ H1.out).out.mono ?_; rintro e w2 ⟨rfl, L', h1, h2⟩)
  obtain ⟨S', hb2, hs2⟩ := h1.rebase
  have hrS : r ∉ S := fun hh => Nat.lt_irrefl _ (HSr.out r hh)
  have hr2 : w2.heap[r]? = some (.cells #[.int .i64 0, .int .i64 0] 72 (0, 0)) := (h1.2.1.block r (by rw [HZ.out]; omega) hrS).trans HR0.out
  have hq := heap_alloc_new w2 (.cells #[.int .i64 (x : Int), .int .i64 (f x : Int)] 72)
  have hb3 : Below w2.heap.size w2 (w2.alloc (.cells #[.int .i64 (x : Int), .int .i64 (f x : Int)] 72)) := (Below.refl _ _).alloc (Nat.le_refl _) _
  have hr3 := kept3 hr2 hb3
  have H3 := Lib.hid (hb2.kept hb3)
  have HI3 : Hid (Flow.Into S w (w2.alloc (.cells #[.int .i64 (x : Int), .int .i64 (f x : Int)] 72))) := (HI1.out.trans h1.2.1).trans (Flow.Into.of_below hb3)
  have HT := Lib.hid h2
  have HS2 := Lib.hid hs2
  clear h1 h2 hb2 hs2 hr2 hb3 H1 HI1 cP
  generalize w2.alloc (.cells #[.int .i64 (x : Int), .int .i64 (f x : Int)] 72) = w3 at *
  obtain ⟨q, hqq⟩ : ∃ q, q = w2.heap.size := ⟨_, rfl⟩
  simp only [← hqq] at hq ⊢
  clear hqq
  have z0 : w3.cell? ⟨q, 0, none⟩ = some (.int .i64 (x : Int)) := by simp [World.cell?, hq]
  have z1 : w3.cell? ⟨q, 1, none⟩ = some (.int .i64 (f x : Int)) := by simp [World.cell?, hq]
  have y0 : w3.cell? ⟨r, 0, none⟩ = some (.int .i64 0) := by simp [World.cell?, hr3]
  have y1 : w3.cell? ⟨r, 1, none⟩ = some (.int .i64 0) := by simp [World.cell?, hr3]
  have yf : ∀ i, w3.frozen? ⟨r, i, none⟩ = false := fun i => by simp [World.frozen?, hr3]
  have hin : Flow.Into [r] w3 ((w3.setCell ⟨r, 0, none⟩ (.int .i64 (x : Int))).setCell ⟨r, 1, none⟩ (.int .i64 (f x : Int))) := (into_set1 _ _ (by simp)).trans (into_set1 _ _ (by simp))
  have HE : Hid (Flow.Into S w ((w3.setCell ⟨r, 0, none⟩ (.int .i64 (x : Int))).setCell ⟨r, 1, none⟩ (.int .i64 (f x : Int)))) := into_of HI3.out hin fun y hy => by
    obtain rfl : y = r := by simpa using hy
    exact .inr (by rw [← HRW.out]; exact Nat.le_refl _)
  have H5 : Hid (HB f b S' ((w3.setCell ⟨r, 0, none⟩ (.int .i64 (x : Int))).setCell ⟨r, 1, none⟩ (.int .i64 (f x : Int))) L') := H3.out.move hin fun y hy hh => by
    obtain rfl : y = r := by simpa using hy
    rcases HS2.out _ hh with h4 | h4
    · exact hrS h4
    · rw [HZ.out] at h4
      omega
  have HSE : Hid (∀ y, y ∈ S' → y ∈ S ∨ w.heap.size ≤ y) := fun y hy => by
    rcases HS2.out y hy with h4 | h4
    · exact .inl h4
    · refine .inr ?_
      rw [HZ.out, HRW.out] at h4
      omega
  have hw5 : ((w3.setCell ⟨r, 0, none⟩ (.int .i64 (x : Int))).setCell ⟨r, 1, none⟩ (.int .i64 (f x : Int))).heap[r]? = some (.cells #[.int .i64 (x : Int), .int .i64 (f x : Int)] 72 (0, 0)) := by
    simp [World.setCell, Array.getElem?_modify, hr3]
  clear hr3 hq hin HS2 HZ
  go_wp2_with fail
  generalize (w3.setCell ⟨r, 0, none⟩ (.int .i64 (x : Int))).setCell ⟨r, 1, none⟩ (.int .i64 (f x : Int)) = w5 at *
  have x0 : w5.cell? ⟨r, 0, none⟩ = some (.int .i64 (x : Int)) := by simp [World.cell?, hw5]
  have x1 : w5.cell? ⟨r, 1, none⟩ = some (.int .i64 (f x : Int)) := by simp [World.cell?, hw5]
  exact bodyPost_ret (v := .agg #[.int .i64 (x : Int), .int .i64 (f x : Int)]) (by simp [results, Try.results47, go_sem, x0, x1]) rfl ⟨rfl, HE.out, S', L', H5.out, HSE.out, HT.out⟩
theorem range_perm_next {k : Nat} {L' : List Nat} (h : L'.Perm (List.range k ++ [k])) : L'.Perm (List.range (k + 1)) := by rw [List.range_succ]; exact h
set_option maxRecDepth 100000 in
set_option maxHeartbeats 4000000 in
theorem weigh_any {W : World} {n : Nd} {a : At} (h : NdIn W n a) (hf : Fit n) (hp : PlainN n) : Calls Try.prog 45 #[.agg (ndCs n a)] W fun e w' => (∃ b S L, e = .returned (.pointer (some ⟨b, 0, none⟩)) ∧ HB (ldN n) b S w' L ∧ (∀ y, y ∈ S → W.heap.size ≤ y) ∧ HpF (aheadN (ldN n)) L L.length 0 ∧ L.Perm (List.range n.kids.length)) ∧ Below W.heap.size W w' := by
  have cL := fun (W1 : World) (hb : Below W.heap.size W W1) => Lib.hid (Loads_new (h.kept hb) hf hp)
  have hK : n.kids.length ≤ 80 := hf.kids
  have HLL : Hid ((loadsN n).length = n.kids.length) := loadsN_len n
  have HLA : Hid (∀ i (h : i < (loadsN n).length), (loadsN n)[i] = (ldN n i : Int)) := fun i h => loadsN_at h
  obtain ⟨f, hff⟩ : ∃ f, f = ldN n := ⟨_, rfl⟩
  rw [← hff] at HLA ⊢
  clear hff
  generalize loadsN n = M at *
  clear h hf hp
  unfold ndCs at *
  generalize n.kids.length = kn at *
  generalize n.piv.length = pn at *
  generalize n.buf.length = bn at *
  generalize n.prs.length = qn at *
  obtain ⟨kA, kc, pA, pc, bA, bc, qA, qc⟩ := a
  generalize n.lv = lv at *
  simp only at *
  go_enter Try.func45, Try.ntmps45
  go_upto_region 1 with fail
  have hx := heap_alloc_new W (.cells #[.int .i64 lv, .slice kA kn kc, .slice pA pn pc, .slice bA bn bc, .slice qA qn qc] 31)
  have hb0 : Below W.heap.size W (W.alloc (.cells #[.int .i64 lv, .slice kA kn kc, .slice pA pn pc, .slice bA bn bc, .slice qA qn qc] 31)) := (Below.refl _ _).alloc (Nat.le_refl _) _
  generalize W.alloc (.cells #[.int .i64 lv, .slice kA kn kc, .slice pA pn pc, .slice bA bn bc, .slice qA qn qc] 31) = w1 at *
  obtain ⟨g, hg⟩ : ∃ g, g = W.heap.size := ⟨_, rfl⟩
  simp only [← hg] at hx ⊢
  clear hg
  go_upto_region 2 with fail
  obtain ⟨h0, h1, hb1⟩ := two_new w1 (.cells #[] 72) (.cells #[.slice (some ⟨w1.heap.size, 0, none⟩) 0 0] 86)
  have hvk : VK (WtK f) ((w1.alloc (.cells #[] 72)).alloc (.cells #[.slice (some ⟨w1.heap.size, 0, none⟩) 0 0] 86)) 0 (some ⟨w1.heap.size, 0, none⟩) 0 [] := (VK.lit (K := WtK f) w1 0 (Nat.zero_le _)).kept ((Below.refl _ _).alloc (Nat.le_refl _) _)
  have hz1 : ((w1.alloc (.cells #[] 72)).alloc (.cells #[.slice (some ⟨w1.heap.size, 0, none⟩) 0 0] 86)).heap.size = w1.heap.size + 2 := by simp
  have hx2 := kept3 hx hb1
  generalize (w1.alloc (.cells #[] 72)).alloc (.cells #[.slice (some ⟨w1.heap.size, 0, none⟩) 0 0] 86) = w2 at *
  have HB2 := Lib.hid (bel3 hb0 hb1)
  have hWs := hb0.size
  obtain ⟨r, hr⟩ : ∃ r, r = w1.heap.size := ⟨_, rfl⟩
  obtain ⟨b, hb⟩ : ∃ b, b = r + 1 := ⟨_, rfl⟩
  simp only [← hr] at h0 h1 hvk hz1 hWs ⊢
  simp only [← hb] at h1 ⊢
  have hH : HB f b [b, r] w2 [] := ⟨⟨⟨some ⟨r, 0, none⟩, 0, ⟨h1, hvk, fun a e => by cases e; simp only [ne_eq]; omega, Nat.zero_le _⟩, fun a e => by cases e; exact .inl (by simp)⟩, Flow.Into.refl _ _, by simp⟩, fun y hy => by
    rcases List.mem_cons.1 hy with rfl | hy
    · omega
    · obtain rfl : y = r := by simpa using hy
      omega⟩
  have H0 := Lib.hid hH
  have HSG : Hid (∀ y, y ∈ [b, r] → W.heap.size ≤ y) := fun y hy => by
    rcases List.mem_cons.1 hy with rfl | hy
    · omega
    · obtain rfl : y = r := by simpa using hy
      omega
  generalize [b, r] = S at *
  obtain ⟨d0, d1, d2, d3, d4⟩ := box5 hx2
  clear h0 h1 hb1 hvk hz1 hx hb0 hWs hr hb hH hx2
  go_upto_region 3 with (go_at_call 17; refine (cL _ HB2.out).out.mono ?_; rintro e w3 ⟨⟨q, c, rfl, hq, hil⟩, hb3⟩)
  have H3 := Lib.hid (H0.out.kept hb3)
  have HQS : Hid (q ∉ S) := fun hh => by
    have := H0.out.2 q hh
    omega
  have HIL := Lib.hid hil
  have HB3 := Lib.hid (bel3 HB2.out hb3)
  have H30 : Hid (∃ L, HS f w3 S b w3 L ∧ HpF (aheadN f) L L.length 0 ∧ L.Perm (List.range 0)) := ⟨[], H3.out.1, fun j h1 h2 => by simp at h2, List.Perm.refl _⟩
  have hqz : q < w3.heap.size ∨ kn = 0 := by
    rcases Nat.eq_zero_or_pos kn with h0 | h0
    · exact .inr h0
    · exact .inl (hil.lt (by rw [HLL.out]; exact h0) _ rfl)
  have HQZ := Lib.hid hqz
  clear hq hil hb3 d0 d1 d2 d3 d4 HB2 H0 cL H3 hqz
  go_wp2_with fail
  go_loopg [11] kn (fun gk iv wr => ∃ k : Nat, k ≤ kn ∧ gk = kn - k ∧ iv = .int .i64 (k : Int) ∧ Hid (∃ L, HS f w3 S b wr L ∧ HpF (aheadN f) L L.length 0 ∧ L.Perm (List.range k)))
  case atStart => exact ⟨0, Nat.zero_le _, rfl, rfl, H30⟩
  case round =>
    obtain ⟨k, hk, rfl, rfl, HI⟩ := hrel
    clear H30
    obtain ⟨L, HI⟩ := HI.out
    have HI := Lib.hid HI
    by_cases hlt : k < kn
    · have hkM : k < M.length := by rw [HLL.out]; exact hlt
      obtain ⟨q', o', e', hc⟩ := (HIL.out.into HI.out.1.2.1 (fun a e => by cases e; exact HQS.out)) (by omega)
      obtain ⟨rfl, rfl⟩ : q = q' ∧ o' = 0 := by
        simp only [Option.some.injEq, Addr.mk.injEq] at e'
        exact ⟨e'.1, e'.2.1.symm⟩
      have hcl := hc k hkM
      rw [HLA.out k hkM, Nat.zero_add] at hcl
      unfold intV at hcl
      have hlen : L.length = k := by rw [HI.out.2.2.length_eq, List.length_range]
      have cP := Lib.hid (HeapPush_any HI.out.1 k (by omega) HI.out.2.1)
      have hw3 : IntKind.i64.wrap ((k : Int) + 1) = ((k + 1 : Nat) : Int) := by rw [IntKind.wrap_i64]; omega
      have HPM := Lib.hid HI.out.2.2
      clear hc e' hkM hlen HI
      go_wp2_with (go_at_call 64; refine cP.out.mono ?_; rintro e w4 ⟨rfl, L', h1, h2, h3⟩)
      have HR : Hid (∃ L, HS f w3 S b w4 L ∧ HpF (aheadN f) L L.length 0 ∧ L.Perm (List.range (k + 1))) := ⟨L', h1, h2, range_perm_next (h3.trans (List.Perm.append_right _ HPM.out))⟩
      clear h1 h2 h3 hcl cP
      go_wp2_with fail
      go_roundg (kn - (k + 1))
      case measure => omega
      case rel => exact ⟨k + 1, hlt, rfl, by go_num, HR⟩
    · obtain rfl : k = kn := by omega
      obtain ⟨S', hh, hs⟩ := HI.out.1.rebase
      have HE := Lib.hid hh
      have HSE : Hid (∀ y, y ∈ S' → W.heap.size ≤ y) := fun y hy => by
        rcases hs y hy with h1 | h1
        · exact HSG.out y h1
        · exact Nat.le_trans HB3.out.size h1
      have HBE : Hid (Below W.heap.size W wr) := HB3.out.trans ⟨HI.out.1.2.1.os, HI.out.1.2.1.tape, HI.out.1.2.1.output, HI.out.1.2.1.size, fun i hi => HI.out.1.2.1.block i (Nat.lt_of_lt_of_le hi HB3.out.size) fun hh => absurd (HSG.out i hh) (by omega)⟩
      clear hh hs hlt
      go_wp2_with fail
      go_ret
      exact ⟨⟨b, S', L, rfl, HE.out, HSE.out, HI.out.2.1, HI.out.2.2⟩, HBE.out⟩
end
end No
end Go.Proofs.Ytlcdjbleeanpbaa

namespace Go.Proofs.Ytlcdjbleeanpbaa
open Go.RowKit
namespace No
open Mem Lx Bu Lf Fa Hp
def natV (i : Nat) : Value := .int .i64 (i : Int)
/-- where Rank is: some kids are out, in a row of its own, the others in the heap -/
structure RkS (f : Nat → Nat) (W : World) (b kn : Nat) (wr : World) (A : Option Addr) (c : Nat) (out rest : List Nat) : Prop where
  heap : ∃ S, HB f b S wr rest ∧ (∀ a, A = some a → a.block ∉ S) ∧ ∀ y, y ∈ S → W.heap.size ≤ y
  hp : HpF (aheadN f) rest rest.length 0
  pop : Popd f kn out rest
  row : VO 3 wr W.heap.size A c (out.map natV)
  below : Below W.heap.size W wr
section
variable {f : Nat → Nat} {W w w' : World} {b kn c : Nat} {A : Option Addr} {out rest : List Nat}
theorem RkS.kept (h : RkS f W b kn w A c out rest) (hb : Below w.heap.size w w') : RkS f W b kn w' A c out rest := by
  obtain ⟨⟨S, h1, h2, h3⟩, h4, h5, h6, h7⟩ := h
  exact ⟨⟨S, h1.kept hb, h2, h3⟩, h4, h5, h6.kept hb, bel3 h7 hb⟩
theorem RkS.cell (h : RkS f W b kn w A c out rest) : ∃ A' c', w.cell? ⟨b, 0, none⟩ = some (.slice A' rest.length c') := by
  obtain ⟨⟨S, h1, h2, h3⟩, _⟩ := h
  exact h1.1.cell
theorem RkS.len (h : RkS f W b kn w A c out rest) : out.length + rest.length = kn := by
  have := h.pop.perm.length_eq
  simpa using this
/-- the top is taken: what is left, and where -/
theorem RkS.top (h : RkS f W b kn w A c out rest) {n x : Nat} (hl : rest.length = n + 1) (hn : n ≤ 999) (hx : gt rest 0 = x) : Hid (Calls Try.prog 47 #[.pointer (some ⟨b, 0, none⟩)] w fun e w' => e = .returned (.agg #[.int .i64 (x : Int), .int .i64 (f x : Int)]) ∧ ∃ rest', (∃ S, HB f b S w' rest' ∧ (∀ a, A = some a → a.block ∉ S) ∧ ∀ y, y ∈ S → W.heap.size ≤ y) ∧ HpF (aheadN f) rest' rest'.length 0 ∧ Popd f kn (out ++ [x]) rest' ∧ VO 3 w' W.heap.size A c (out.map natV) ∧ Below W.heap.size W w') := by
  obtain ⟨⟨S, h1, h2, h3⟩, h4, h5, h6, h7⟩ := h
  refine (top_any h1 hl hn h4 hx).mono fun e w' ⟨he, hi, S', L', g1, g2, g3⟩ => ⟨he, L', ⟨S', g1, fun a ha hh => ?_, fun y hy => ?_⟩, g3.heap, h5.step g3, h6.into hi h2, ?_⟩
  · rcases g2 _ hh with g4 | g4
    · exact h2 a ha g4
    · have := (h6.at_ a ha).2
      omega
  · rcases g2 y hy with g4 | g4
    · exact h3 y g4
    · exact Nat.le_trans h7.size g4
  · exact h7.trans ⟨hi.os, hi.tape, hi.output, hi.size, fun i hi2 => hi.block i (Nat.lt_of_lt_of_le hi2 h7.size) fun hh => absurd (h3 i hh) (by omega)⟩
theorem RkS.app {rest' : List Nat} {x : Nat} {A' : Option Addr} {c' : Nat} (hh : ∃ S, HB f b S w rest' ∧ (∀ a, A = some a → a.block ∉ S) ∧ ∀ y, y ∈ S → W.heap.size ≤ y) (hp : HpF (aheadN f) rest' rest'.length 0) (ho : Popd f kn (out ++ [x]) rest') (hb : Below W.heap.size W w) (ha : Appd 3 W.heap.size w w' A A' c' (out.map natV ++ [natV x])) : RkS f W b kn w' A' c' (out ++ [x]) rest' := by
  obtain ⟨S, h1, h2, h3⟩ := hh
  have hin : Flow.Into (rowS A) w w' := ⟨ha.below.os, ha.below.tape, ha.below.output, ha.below.size, fun k hk hn => ha.block k hk fun a e e2 => hn (e2 ▸ rowS_in e)⟩
  refine ⟨⟨S, h1.move hin fun y hy => ?_, fun a' e hm => ?_, h3⟩, hp, ho, ?_, hb.trans ha.below⟩
  · obtain ⟨a, e, rfl⟩ := rowS_of hy
    exact h2 a e
  · rcases ha.row a' e with ⟨a, e1, e2⟩ | e2
    · exact h2 a e1 (e2 ▸ hm)
    · have := h1.2 _ hm
      omega
  · rw [List.map_append]
    exact ha.vo
end
theorem box1i {w : World} {b : Nat} {v : Value} {U : TypeId} (h : w.heap[b]? = some (.cells #[v] U (0, 0))) : w.cell? ⟨b, 0, none⟩ = some v := by simp [World.cell?, h]
theorem wt_fst (a b : Int) (w : World) : (Instr.field 72 (.agg #[.int .i64 a, .int .i64 b]) 0).run Try.prog w = .ok (.int .i64 a) w := by kernel_rfl
set_option maxRecDepth 100000 in
set_option maxHeartbeats 4000000 in
theorem Rank_any {W : World} {n : Nd} {a : At} (h : NdIn W n a) (hf : Fit n) (hp : PlainN n) : Calls Try.prog 18 #[.agg (ndCs n a)] W fun e w' => (∃ (r : List Nat) (A : Option Addr) (c : Nat), e = .returned (.slice A n.kids.length c) ∧ RankN n r ∧ IL w' A (r.map fun i : Nat => (i : Int))) ∧ Below W.heap.size W w' := by
  have cW := fun (W1 : World) (hb : Below W.heap.size W W1) => Lib.hid (weigh_any (h.kept hb) hf hp)
  have hK : n.kids.length ≤ 80 := hf.kids
  have HRK : Hid (∀ out, Popd (ldN n) n.kids.length out [] → RankN n out) := fun out h => h.rank
  obtain ⟨f, hff⟩ : ∃ f, f = ldN n := ⟨_, rfl⟩
  rw [← hff] at HRK cW
  clear hff h hf hp
  unfold ndCs at *
  generalize n.kids.length = kn at *
  generalize n.piv.length = pn at *
  generalize n.buf.length = bn at *
  generalize n.prs.length = qn at *
  obtain ⟨kA, kc, pA, pc, bA, bc, qA, qc⟩ := a
  obtain ⟨lv, hlv⟩ : ∃ lv, lv = n.lv := ⟨_, rfl⟩
  simp only [← hlv] at cW ⊢
  clear hlv
  have hmk := fun w => run_make_room (P := Try.prog) Try.underlying43 intinfo (by decide) kn (by omega) w
  have hfd := fun (a b : Int) (w : World) => wt_fst a b w
  go_enter Try.func18, Try.ntmps18
  go_upto_region 1 with fail
  have hx := heap_alloc_new W (.cells #[.int .i64 lv, .slice kA kn kc, .slice pA pn pc, .slice bA bn bc, .slice qA qn qc] 31)
  have hb0 : Below W.heap.size W (W.alloc (.cells #[.int .i64 lv, .slice kA kn kc, .slice pA pn pc, .slice bA bn bc, .slice qA qn qc] 31)) := (Below.refl _ _).alloc (Nat.le_refl _) _
  generalize W.alloc (.cells #[.int .i64 lv, .slice kA kn kc, .slice pA pn pc, .slice bA bn bc, .slice qA qn qc] 31) = w1 at *
  obtain ⟨g, hg⟩ : ∃ g, g = W.heap.size := ⟨_, rfl⟩
  simp only [← hg] at hx ⊢
  obtain ⟨d0, d1, d2, d3, d4⟩ := box5 hx
  have HB0 := Lib.hid hb0
  clear hg hx hb0
  go_upto_region 2 with (go_at_call 45; refine (cW _ HB0.out).out.mono ?_; rintro e w2 ⟨⟨b, S, L, rfl, hh, hs, hpf, hpm⟩, hb2⟩)
  have HB2 := Lib.hid (bel3 HB0.out hb2)
  obtain ⟨A0, c0, hcl⟩ := hh.1.cell
  have hLn : L.length = kn := by rw [hpm.length_eq, List.length_range]
  rw [hLn] at hcl
  have HH2 := Lib.hid hh
  have HSW : Hid (∀ y, y ∈ S → W.heap.size ≤ y) := fun y hy => Nat.le_trans HB0.out.size (hs y hy)
  have HPF := Lib.hid hpf
  have HPM := Lib.hid hpm
  have HL := Lib.hid hLn
  have cN := fun w => HLen_any A0 kn c0 w
  clear d0 d1 d2 d3 d4 hh hs hpf hpm hLn hb2 cW HB0
  go_upto_region 3 with (go_at_call 46; refine (cN _).mono ?_; rintro e w3 ⟨rfl, rfl⟩)
  have hr3 : RkS f W b kn (w2.alloc (.cells (Array.replicate kn (.int .i64 0)) 3)) (some ⟨w2.heap.size, 0, none⟩) kn [] L := by
    have hb3 : Below w2.heap.size w2 (w2.alloc (.cells (Array.replicate kn (.int .i64 0)) 3)) := (Below.refl _ _).alloc (Nat.le_refl _) _
    refine ⟨⟨S, HH2.out.kept hb3, fun a e hm => ?_, HSW.out⟩, HPF.out, Popd.none HPM.out, ?_, bel3 HB2.out hb3⟩
    · cases e
      exact Nat.lt_irrefl _ (HH2.out.2 _ hm)
    · have := VO.made 3 w2 W.heap.size (.int .i64 0) kn HB2.out.size (by omega)
      simpa using this
  have H3 := Lib.hid hr3
  generalize w2.alloc (.cells (Array.replicate kn (.int .i64 0)) 3) = w3 at *
  generalize w2.heap.size = q3 at *
  clear hcl HH2 HSW HPF HPM hr3 hmk cN HB2
  go_wp2_with fail
  go_loopg [4] kn (fun gk av wr => ∃ (A : Option Addr) (c k : Nat) (out rest : List Nat), av = .slice A k c ∧ k ≤ kn ∧ gk = kn - k ∧ Hid (out.length = k) ∧ Hid (RkS f W b kn wr A c out rest))
  case atStart => exact ⟨_, _, 0, [], L, rfl, Nat.zero_le _, rfl, rfl, H3⟩
  case round =>
    obtain ⟨A, c, k, out, rest, rfl, hk, rfl, HO, HR⟩ := hrel
    clear H3
    obtain ⟨A1, c1, hcl⟩ := HR.out.cell
    have hlen := HR.out.len
    rw [HO.out] at hlen
    by_cases hlt : k < kn
    · obtain ⟨m, hm⟩ : ∃ m, rest.length = m + 1 := ⟨rest.length - 1, by omega⟩
      obtain ⟨x, hx⟩ : ∃ x, gt rest 0 = x := ⟨_, rfl⟩
      have cT := fun w (hb : Below wr.heap.size wr w) => (HR.out.kept hb).top hm (by omega) hx
      obtain ⟨r, hr⟩ : ∃ r, r = rest.length := ⟨_, rfl⟩
      rw [← hr] at hcl hm
      have cN := fun w => HLen_any A1 r c1 w
      have hr0 : (0 : Int) < (r : Int) := by omega
      have hk2 : k + 1 ≤ 1048576 := by omega
      clear hm hx hr hlen
      go_upto_region 4 with (go_at_call 46; refine (cN _).mono ?_; rintro e w4 ⟨rfl, rfl⟩)
      have HSR := Lib.hid (show Below wr.heap.size wr wr from Below.refl _ _)
      clear hcl cN hr0 HR
      go_wp2_with (first
        | (go_at_call 47; refine (cT _ HSR.out).out.mono ?_; rintro e w5 ⟨rfl, rest', hh, hp, ho, hv, hb⟩
           have HH := Lib.hid hh
           have HP := Lib.hid hp
           have HPO := Lib.hid ho
           have HV := Lib.hid hv
           have HB := Lib.hid hb
           have hl5 : (out.map natV).length = k := by rw [List.length_map]; exact HO.out
           have HL5 := Lib.hid hl5
           have hbx := (Below.refl w5.heap.size w5).alloc (Nat.le_refl _) (.cells #[.int .i64 (x : Int)] 3)
           have HBX := Lib.hid hbx
           have hnx := heap_alloc_new w5 (.cells #[.int .i64 (x : Int)] 3)
           have hcx : (w5.alloc (.cells #[.int .i64 (x : Int)] 3)).cell? ⟨w5.heap.size, 0, none⟩ = some (.int .i64 (x : Int)) := box1i hnx
           have HCX := Lib.hid hcx
           have hsz := Lib.hid (Nat.le_trans hb.size hbx.size)
           clear hh hp ho hv hb hl5 hbx hnx hcx)
        | (with_reducible refine wpList_append_one rfl (.tmp 17) (.tmp 21) 43 rfl 3 Try.underlying43 (.int .i64 0) 8 intinfo rfl (by decide) W.heap.size A k c (out.map natV) rfl HL5.out (HV.out.kept HBX.out) w5.heap.size 1 (.int .i64 (x : Int)) rfl HCX.out rfl hk2 hsz.out ?_; intro A' c' w6 hd))
      have HN : Hid (RkS f W b kn w6 A' c' (out ++ [x]) rest') := by
        obtain ⟨S, g1, g2, g3⟩ := HH.out
        exact RkS.app ⟨S, g1.kept HBX.out, g2, g3⟩ HP.out HPO.out (bel3 HB.out HBX.out) hd.out
      have HO2 : Hid ((out ++ [x]).length = k + 1) := by unfold Hid; rw [List.length_append, HO.out]; rfl
      clear HH HP HPO HV HB HL5 HBX HCX hsz hd cT HSR
      go_wp2_with fail
      go_roundg (kn - (k + 1))
      case measure => omega
      case rel => exact ⟨A', c', k + 1, out ++ [x], rest', rfl, hlt, rfl, HO2, HN⟩
    · obtain rfl : k = kn := by omega
      have hr0 : rest = [] := List.eq_nil_of_length_eq_zero (by omega)
      subst hr0
      rw [List.length_nil] at hcl
      have cN := fun w => HLen_any A1 0 c1 w
      have HRN := Lib.hid (HRK.out out HR.out.pop)
      have HIL : Hid (IL wr A (out.map fun i : Nat => (i : Int))) := by
        intro h0
        have hv := HR.out.row
        rw [List.length_map] at h0
        obtain ⟨q, e, hc⟩ := hv.cell (by rw [List.length_map]; exact h0)
        refine ⟨q, 0, e, fun i hi => ?_⟩
        rw [List.length_map] at hi
        rw [Nat.zero_add, hc i (by rw [List.length_map]; exact hi)]
        simp [natV, intV]
      have HB := Lib.hid HR.out.below
      clear hlt hlen
      go_wp2_with (go_at_call 46; refine (cN _).mono ?_; rintro e w4 ⟨rfl, rfl⟩)
      go_ret
      exact ⟨⟨out, A, c, rfl, HRN.out, HIL.out⟩, HB.out⟩
theorem heav_of {f : Nat → Nat} {kn x : Nat} (hx : x < kn) (h : ∀ y, y < kn → y ≠ x → aheadN f y x = false) : x = heavN f kn := by
  by_cases e : heavN f kn = x
  · exact e.symm
  · have hm := heavN_lt f (show 0 < kn by omega)
    have h1 := not_ahead.1 (h _ hm e)
    have t1 := heavN_top f kn x hx
    rcases h1 with h1 | ⟨h1, h2⟩
    · omega
    · have t2 := heavN_first f kn x (by omega)
      omega
theorem Took.heav {f : Nat → Nat} {kn x : Nat} {L L' : List Nat} (h : Took (aheadN f) L x L') (hp : L.Perm (List.range kn)) : x = heavN f kn := by
  have hm : ∀ y, y < kn ↔ y = x ∨ y ∈ L' := fun y => by
    have h1 := (h.perm.symm.trans hp).mem_iff (a := y)
    rw [List.mem_cons, List.mem_range] at h1
    exact h1.symm
  refine heav_of ((hm x).2 (.inl rfl)) fun y hy hne => ?_
  rcases (hm y).1 hy with e | e
  · exact absurd e hne
  · exact h.least y e
set_option maxRecDepth 100000 in
set_option maxHeartbeats 4000000 in
theorem Heaviest_any {W : World} {n : Nd} {a : At} (h : NdIn W n a) (hf : Fit n) (hp : PlainN n) : Calls Try.prog 19 #[.agg (ndCs n a)] W fun e w' => e = .returned (.tuple #[.int .i64 (heavN (ldN n) n.kids.length : Int), .int .i64 (ldN n (heavN (ldN n) n.kids.length) : Int)]) ∧ Below W.heap.size W w' := by
  have cW := fun (W1 : World) (hb : Below W.heap.size W W1) => Lib.hid (weigh_any (h.kept hb) hf hp)
  have hK : n.kids.length ≤ 80 := hf.kids
  have hK0 : 0 < n.kids.length := by have := hp.2.2; omega
  obtain ⟨f, hff⟩ : ∃ f, f = ldN n := ⟨_, rfl⟩
  rw [← hff] at cW ⊢
  clear hff h hf hp
  unfold ndCs at *
  generalize n.kids.length = kn at *
  generalize n.piv.length = pn at *
  generalize n.buf.length = bn at *
  generalize n.prs.length = qn at *
  obtain ⟨kA, kc, pA, pc, bA, bc, qA, qc⟩ := a
  obtain ⟨lv, hlv⟩ : ∃ lv, lv = n.lv := ⟨_, rfl⟩
  simp only [← hlv] at cW ⊢
  clear hlv
  go_enter Try.func19, Try.ntmps19
  go_upto_region 1 with fail
  have hx := heap_alloc_new W (.cells #[.int .i64 lv, .slice kA kn kc, .slice pA pn pc, .slice bA bn bc, .slice qA qn qc] 31)
  have hb0 : Below W.heap.size W (W.alloc (.cells #[.int .i64 lv, .slice kA kn kc, .slice pA pn pc, .slice bA bn bc, .slice qA qn qc] 31)) := (Below.refl _ _).alloc (Nat.le_refl _) _
  generalize W.alloc (.cells #[.int .i64 lv, .slice kA kn kc, .slice pA pn pc, .slice bA bn bc, .slice qA qn qc] 31) = w1 at *
  obtain ⟨g, hg⟩ : ∃ g, g = W.heap.size := ⟨_, rfl⟩
  simp only [← hg] at hx ⊢
  obtain ⟨d0, d1, d2, d3, d4⟩ := box5 hx
  have HB0 := Lib.hid hb0
  clear hg hx hb0
  go_upto_region 2 with (go_at_call 45; refine (cW _ HB0.out).out.mono ?_; rintro e w2 ⟨⟨b, S, L, rfl, hh, hs, hpf, hpm⟩, hb2⟩)
  have HB2 := Lib.hid (bel3 HB0.out hb2)
  obtain ⟨A0, c0, hcl⟩ := hh.1.cell
  have hLn : L.length = kn := by rw [hpm.length_eq, List.length_range]
  rw [hLn] at hcl
  have HSW : Hid (∀ y, y ∈ S → W.heap.size ≤ y) := fun y hy => Nat.le_trans HB0.out.size (hs y hy)
  have cN := fun w => HLen_any A0 kn c0 w
  obtain ⟨m, hm⟩ : ∃ m, kn = m + 1 := ⟨kn - 1, by omega⟩
  obtain ⟨x, hxx⟩ : ∃ x, gt L 0 = x := ⟨_, rfl⟩
  have HPM := Lib.hid hpm
  have cT : Hid (Calls Try.prog 47 #[.pointer (some ⟨b, 0, none⟩)] w2 fun e w' => e = .returned (.agg #[.int .i64 (x : Int), .int .i64 (f x : Int)]) ∧ Hid (x = heavN f kn) ∧ Below W.heap.size W w') := (top_any hh (hLn.trans hm) (by omega) hpf hxx).mono fun e w' ⟨he, hi, S', L', g1, g2, g3⟩ => ⟨he, Took.heav g3 HPM.out, HB2.out.trans ⟨hi.os, hi.tape, hi.output, hi.size, fun i hi2 => hi.block i (Nat.lt_of_lt_of_le hi2 HB2.out.size) fun hh => absurd (HSW.out i hh) (by omega)⟩⟩
  have hk0 : ((kn : Int) == 0) = false := by simp; omega
  clear d0 d1 d2 d3 d4 hh hs hpf hpm hLn hb2 cW HB0 hm hxx hK0 hK
  go_upto_region 4 with (go_at_call 46; refine (cN _).mono ?_; rintro e w3 ⟨rfl, rfl⟩)
  go_upto_region 5 with (go_at_call 47; refine cT.out.mono ?_; rintro e w4 ⟨rfl, hxh, hb4⟩)
  have HXH := hxh
  have hb5 := hb4.alloc hb4.size (.cells #[.int .i64 (x : Int), .int .i64 (f x : Int)] 72)
  have hx5 := heap_alloc_new w4 (.cells #[.int .i64 (x : Int), .int .i64 (f x : Int)] 72)
  generalize w4.alloc (.cells #[.int .i64 (x : Int), .int .i64 (f x : Int)] 72) = w5 at *
  obtain ⟨q, hq⟩ : ∃ q, q = w4.heap.size := ⟨_, rfl⟩
  simp only [← hq] at hx5 ⊢
  have z0 : w5.cell? ⟨q, 0, none⟩ = some (.int .i64 (x : Int)) := by simp [World.cell?, hx5]
  have z1 : w5.cell? ⟨q, 1, none⟩ = some (.int .i64 (f x : Int)) := by simp [World.cell?, hx5]
  have HB5 := Lib.hid hb5
  clear hb5 hx5 hq hcl cN cT hxh hb4 hk0
  go_quiet (fail)
  go_wp2_with fail
  rw [← HXH.out]
  exact bodyPost_ret (v := .tuple #[.int .i64 (x : Int), .int .i64 (f x : Int)]) (by simp [results, Try.results19, go_sem]) rfl ⟨rfl, HB5.out.trans ((below_dnH _ _).mono HB5.out.size)⟩
end No
end Go.Proofs.Ytlcdjbleeanpbaa

namespace Go.Proofs.Ytlcdjbleeanpbaa
open Go.RowKit
namespace No
open Mem Lx Bu Lf Fa
set_option maxRecDepth 100000 in
set_option maxHeartbeats 4000000 in
theorem SameSz_any {W : World} {n n' : Nd} {a a' : At} (h : NdIn W n a) (h' : NdIn W n' a') (hs : Sz n) (hs' : Sz n') : Calls Try.prog 14 #[.agg (ndCs n a), .agg (ndCs n' a')] W fun e w' => (∃ v : Bool, e = .returned (.bool v) ∧ (v = true ↔ n = n')) ∧ Below W.heap.size W w' := by
  obtain ⟨b1, hb1⟩ := bool_of (n.kids = n'.kids)
  obtain ⟨b2, hb2⟩ := bool_of (n.piv = n'.piv)
  obtain ⟨b3, hb3⟩ := bool_of (n.buf = n'.buf)
  obtain ⟨b4, hb4⟩ := bool_of (n.prs = n'.prs)
  have c1 : ∀ (W1 : World), Below W.heap.size W W1 → Hid (Calls Try.prog 34 #[.slice a.kA n.kids.length a.kc, .slice a'.kA n'.kids.length a'.kc] W1 fun e w' => e = .returned (.bool b1) ∧ Below W1.heap.size W1 w') := fun W1 hb => (EqualK_any (c := a.kc) (c' := a'.kc) (h.kept hb).kids.1 (h'.kept hb).kids.1 (Nat.le_trans hs.kl (by decide))).mono fun e w' ⟨⟨v, he, hv⟩, hb⟩ => ⟨by rw [he, bool_one hv hb1], hb⟩
  have c2 : ∀ (W1 : World), Below W.heap.size W W1 → Hid (Calls Try.prog 35 #[.slice a.pA n.piv.length a.pc, .slice a'.pA n'.piv.length a'.pc] W1 fun e w' => e = .returned (.bool b2) ∧ Below W1.heap.size W1 w') := fun W1 hb => (EqualS_any (c := a.pc) (c' := a'.pc) (h.kept hb).piv.1 (h'.kept hb).piv.1 (Nat.le_trans hs.pl (by decide))).mono fun e w' ⟨⟨v, he, hv⟩, hb⟩ => ⟨by rw [he, bool_one hv hb2], hb⟩
  have c3 : ∀ (W1 : World), Below W.heap.size W W1 → Hid (Calls Try.prog 36 #[.slice a.bA n.buf.length a.bc, .slice a'.bA n'.buf.length a'.bc] W1 fun e w' => e = .returned (.bool b3) ∧ Below W1.heap.size W1 w') := fun W1 hb => (Bu.Same_any (c := a.bc) (c' := a'.bc) (h.kept hb).buf.1 (h'.kept hb).buf.1 (Nat.le_trans hs.bl (by decide)) (Nat.le_trans hs'.bl (by decide))).mono fun e w' ⟨⟨v, he, hv⟩, hb⟩ => ⟨by rw [he, bool_one hv hb3], hb⟩
  have c4 : ∀ (W1 : World), Below W.heap.size W W1 → Hid (Calls Try.prog 37 #[.slice a.qA n.prs.length a.qc, .slice a'.qA n'.prs.length a'.qc] W1 fun e w' => e = .returned (.bool b4) ∧ Below W1.heap.size W1 w') := fun W1 hb => (Lf.Same_any (c := a.qc) (c' := a'.qc) (h.kept hb).prs.1 (h'.kept hb).prs.1 (Nat.le_trans hs.ql (by decide)) (Nat.le_trans hs'.ql (by decide))).mono fun e w' ⟨⟨v, he, hv⟩, hb⟩ => ⟨by rw [he, bool_one hv hb4], hb⟩
  have HP : Hid (∀ v : Bool, v = (decide (n.lv = n'.lv) && b1 && b2 && b3 && b4) → (v = true ↔ n = n')) := fun v hv => by
    subst hv
    rw [nd_eq, Bool.and_eq_true, Bool.and_eq_true, Bool.and_eq_true, Bool.and_eq_true, hb1, hb2, hb3, hb4, decide_eq_true_iff, and_assoc, and_assoc, and_assoc]
  generalize hPP : (n = n') = PP at *
  clear hPP h h' hs hs' hb1 hb2 hb3 hb4
  obtain ⟨lv, K, P, B, Q⟩ := n
  obtain ⟨kA, kc, pA, pc, bA, bc, qA, qc⟩ := a
  obtain ⟨lv', K', P', B', Q'⟩ := n'
  obtain ⟨kA', kc', pA', pc', bA', bc', qA', qc'⟩ := a'
  unfold ndCs at *
  simp only at *
  generalize K.length = kn at *
  generalize P.length = pn at *
  generalize B.length = bn at *
  generalize Q.length = qn at *
  generalize K'.length = kn' at *
  generalize P'.length = pn' at *
  generalize B'.length = bn' at *
  generalize Q'.length = qn' at *
  go_enter Try.func14, Try.ntmps14
  go_upto_region 1 with fail
  have h3 := two_new W (.cells #[.int .i64 lv, .slice kA kn kc, .slice pA pn pc, .slice bA bn bc, .slice qA qn qc] 31) (.cells #[.int .i64 lv', .slice kA' kn' kc', .slice pA' pn' pc', .slice bA' bn' bc', .slice qA' qn' qc'] 31)
  generalize (W.alloc (.cells #[.int .i64 lv, .slice kA kn kc, .slice pA pn pc, .slice bA bn bc, .slice qA qn qc] 31)).alloc (.cells #[.int .i64 lv', .slice kA' kn' kc', .slice pA' pn' pc', .slice bA' bn' bc', .slice qA' qn' qc'] 31) = w1 at *
  have HB := Lib.hid h3.2.2
  obtain ⟨g, hg⟩ : ∃ g, g = W.heap.size := ⟨_, rfl⟩
  simp only [← hg]
  have HX : Hid (w1.heap[g]? = some (.cells #[.int .i64 lv, .slice kA kn kc, .slice pA pn pc, .slice bA bn bc, .slice qA qn qc] 31 (0, 0))) := by rw [hg]; exact h3.1
  have HY : Hid (w1.heap[g + 1]? = some (.cells #[.int .i64 lv', .slice kA' kn' kc', .slice pA' pn' pc', .slice bA' bn' bc', .slice qA' qn' qc'] 31 (0, 0))) := by rw [hg]; exact h3.2.1
  clear h3 hg
  obtain ⟨d0, d1, d2, d3, d4⟩ := box5 HX.out
  obtain ⟨e0, e1, e2, e3, e4⟩ := box5 HY.out
  by_cases hlv : lv = lv'
  case neg =>
    have hne : ¬ (lv = lv') := hlv
    go_wp2_with (first
      | (go_at_call 34; refine (c1 _ HB.out).out.mono ?_; rintro e w2 ⟨rfl, hb⟩; replace HB := Lib.hid (HB.out.trans (hb.mono HB.out.size)); replace HX := Lib.hid (kept3 HX.out hb); replace HY := Lib.hid (kept3 HY.out hb); replace d1 := (box5 HX.out).2.1; replace d2 := (box5 HX.out).2.2.1; replace d3 := (box5 HX.out).2.2.2.1; replace d4 := (box5 HX.out).2.2.2.2; replace e1 := (box5 HY.out).2.1; replace e2 := (box5 HY.out).2.2.1; replace e3 := (box5 HY.out).2.2.2.1; replace e4 := (box5 HY.out).2.2.2.2; clear hb)
      | (go_at_call 35; refine (c2 _ HB.out).out.mono ?_; rintro e w2 ⟨rfl, hb⟩; replace HB := Lib.hid (HB.out.trans (hb.mono HB.out.size)); replace HX := Lib.hid (kept3 HX.out hb); replace HY := Lib.hid (kept3 HY.out hb); replace d1 := (box5 HX.out).2.1; replace d2 := (box5 HX.out).2.2.1; replace d3 := (box5 HX.out).2.2.2.1; replace d4 := (box5 HX.out).2.2.2.2; replace e1 := (box5 HY.out).2.1; replace e2 := (box5 HY.out).2.2.1; replace e3 := (box5 HY.out).2.2.2.1; replace e4 := (box5 HY.out).2.2.2.2; clear hb)
      | (go_at_call 36; refine (c3 _ HB.out).out.mono ?_; rintro e w2 ⟨rfl, hb⟩; replace HB := Lib.hid (HB.out.trans (hb.mono HB.out.size)); replace HX := Lib.hid (kept3 HX.out hb); replace HY := Lib.hid (kept3 HY.out hb); replace d1 := (box5 HX.out).2.1; replace d2 := (box5 HX.out).2.2.1; replace d3 := (box5 HX.out).2.2.2.1; replace d4 := (box5 HX.out).2.2.2.2; replace e1 := (box5 HY.out).2.1; replace e2 := (box5 HY.out).2.2.1; replace e3 := (box5 HY.out).2.2.2.1; replace e4 := (box5 HY.out).2.2.2.2; clear hb)
      | (go_at_call 37; refine (c4 _ HB.out).out.mono ?_; rintro e w2 ⟨rfl, hb⟩; replace HB := Lib.hid (HB.out.trans (hb.mono HB.out.size)); replace HX := Lib.hid (kept3 HX.out hb); replace HY := Lib.hid (kept3 HY.out hb); replace d1 := (box5 HX.out).2.1; replace d2 := (box5 HX.out).2.2.1; replace d3 := (box5 HX.out).2.2.2.1; replace d4 := (box5 HX.out).2.2.2.2; replace e1 := (box5 HY.out).2.1; replace e2 := (box5 HY.out).2.2.1; replace e3 := (box5 HY.out).2.2.2.1; replace e4 := (box5 HY.out).2.2.2.2; clear hb))
    go_ret
    exact ⟨⟨false, rfl, HP.out false (by simp [hlv])⟩, HB.out⟩
  subst hlv
  cases b1 with
  | false =>
    go_wp2_with (first
      | (go_at_call 34; refine (c1 _ HB.out).out.mono ?_; rintro e w2 ⟨rfl, hb⟩; replace HB := Lib.hid (HB.out.trans (hb.mono HB.out.size)); replace HX := Lib.hid (kept3 HX.out hb); replace HY := Lib.hid (kept3 HY.out hb); replace d1 := (box5 HX.out).2.1; replace d2 := (box5 HX.out).2.2.1; replace d3 := (box5 HX.out).2.2.2.1; replace d4 := (box5 HX.out).2.2.2.2; replace e1 := (box5 HY.out).2.1; replace e2 := (box5 HY.out).2.2.1; replace e3 := (box5 HY.out).2.2.2.1; replace e4 := (box5 HY.out).2.2.2.2; clear hb)
      | (go_at_call 35; refine (c2 _ HB.out).out.mono ?_; rintro e w2 ⟨rfl, hb⟩; replace HB := Lib.hid (HB.out.trans (hb.mono HB.out.size)); replace HX := Lib.hid (kept3 HX.out hb); replace HY := Lib.hid (kept3 HY.out hb); replace d1 := (box5 HX.out).2.1; replace d2 := (box5 HX.out).2.2.1; replace d3 := (box5 HX.out).2.2.2.1; replace d4 := (box5 HX.out).2.2.2.2; replace e1 := (box5 HY.out).2.1; replace e2 := (box5 HY.out).2.2.1; replace e3 := (box5 HY.out).2.2.2.1; replace e4 := (box5 HY.out).2.2.2.2; clear hb)
      | (go_at_call 36; refine (c3 _ HB.out).out.mono ?_; rintro e w2 ⟨rfl, hb⟩; replace HB := Lib.hid (HB.out.trans (hb.mono HB.out.size)); replace HX := Lib.hid (kept3 HX.out hb); replace HY := Lib.hid (kept3 HY.out hb); replace d1 := (box5 HX.out).2.1; replace d2 := (box5 HX.out).2.2.1; replace d3 := (box5 HX.out).2.2.2.1; replace d4 := (box5 HX.out).2.2.2.2; replace e1 := (box5 HY.out).2.1; replace e2 := (box5 HY.out).2.2.1; replace e3 := (box5 HY.out).2.2.2.1; replace e4 := (box5 HY.out).2.2.2.2; clear hb)
      | (go_at_call 37; refine (c4 _ HB.out).out.mono ?_; rintro e w2 ⟨rfl, hb⟩; replace HB := Lib.hid (HB.out.trans (hb.mono HB.out.size)); replace HX := Lib.hid (kept3 HX.out hb); replace HY := Lib.hid (kept3 HY.out hb); replace d1 := (box5 HX.out).2.1; replace d2 := (box5 HX.out).2.2.1; replace d3 := (box5 HX.out).2.2.2.1; replace d4 := (box5 HX.out).2.2.2.2; replace e1 := (box5 HY.out).2.1; replace e2 := (box5 HY.out).2.2.1; replace e3 := (box5 HY.out).2.2.2.1; replace e4 := (box5 HY.out).2.2.2.2; clear hb))
    go_ret
    exact ⟨⟨false, rfl, HP.out false (by simp)⟩, HB.out⟩
  | true =>
    cases b2 with
    | false =>
      go_wp2_with (first
        | (go_at_call 34; refine (c1 _ HB.out).out.mono ?_; rintro e w2 ⟨rfl, hb⟩; replace HB := Lib.hid (HB.out.trans (hb.mono HB.out.size)); replace HX := Lib.hid (kept3 HX.out hb); replace HY := Lib.hid (kept3 HY.out hb); replace d1 := (box5 HX.out).2.1; replace d2 := (box5 HX.out).2.2.1; replace d3 := (box5 HX.out).2.2.2.1; replace d4 := (box5 HX.out).2.2.2.2; replace e1 := (box5 HY.out).2.1; replace e2 := (box5 HY.out).2.2.1; replace e3 := (box5 HY.out).2.2.2.1; replace e4 := (box5 HY.out).2.2.2.2; clear hb)
        | (go_at_call 35; refine (c2 _ HB.out).out.mono ?_; rintro e w2 ⟨rfl, hb⟩; replace HB := Lib.hid (HB.out.trans (hb.mono HB.out.size)); replace HX := Lib.hid (kept3 HX.out hb); replace HY := Lib.hid (kept3 HY.out hb); replace d1 := (box5 HX.out).2.1; replace d2 := (box5 HX.out).2.2.1; replace d3 := (box5 HX.out).2.2.2.1; replace d4 := (box5 HX.out).2.2.2.2; replace e1 := (box5 HY.out).2.1; replace e2 := (box5 HY.out).2.2.1; replace e3 := (box5 HY.out).2.2.2.1; replace e4 := (box5 HY.out).2.2.2.2; clear hb)
        | (go_at_call 36; refine (c3 _ HB.out).out.mono ?_; rintro e w2 ⟨rfl, hb⟩; replace HB := Lib.hid (HB.out.trans (hb.mono HB.out.size)); replace HX := Lib.hid (kept3 HX.out hb); replace HY := Lib.hid (kept3 HY.out hb); replace d1 := (box5 HX.out).2.1; replace d2 := (box5 HX.out).2.2.1; replace d3 := (box5 HX.out).2.2.2.1; replace d4 := (box5 HX.out).2.2.2.2; replace e1 := (box5 HY.out).2.1; replace e2 := (box5 HY.out).2.2.1; replace e3 := (box5 HY.out).2.2.2.1; replace e4 := (box5 HY.out).2.2.2.2; clear hb)
        | (go_at_call 37; refine (c4 _ HB.out).out.mono ?_; rintro e w2 ⟨rfl, hb⟩; replace HB := Lib.hid (HB.out.trans (hb.mono HB.out.size)); replace HX := Lib.hid (kept3 HX.out hb); replace HY := Lib.hid (kept3 HY.out hb); replace d1 := (box5 HX.out).2.1; replace d2 := (box5 HX.out).2.2.1; replace d3 := (box5 HX.out).2.2.2.1; replace d4 := (box5 HX.out).2.2.2.2; replace e1 := (box5 HY.out).2.1; replace e2 := (box5 HY.out).2.2.1; replace e3 := (box5 HY.out).2.2.2.1; replace e4 := (box5 HY.out).2.2.2.2; clear hb))
      go_ret
      exact ⟨⟨false, rfl, HP.out false (by simp)⟩, HB.out⟩
    | true =>
      cases b3 with
      | false =>
        go_wp2_with (first
          | (go_at_call 34; refine (c1 _ HB.out).out.mono ?_; rintro e w2 ⟨rfl, hb⟩; replace HB := Lib.hid (HB.out.trans (hb.mono HB.out.size)); replace HX := Lib.hid (kept3 HX.out hb); replace HY := Lib.hid (kept3 HY.out hb); replace d1 := (box5 HX.out).2.1; replace d2 := (box5 HX.out).2.2.1; replace d3 := (box5 HX.out).2.2.2.1; replace d4 := (box5 HX.out).2.2.2.2; replace e1 := (box5 HY.out).2.1; replace e2 := (box5 HY.out).2.2.1; replace e3 := (box5 HY.out).2.2.2.1; replace e4 := (box5 HY.out).2.2.2.2; clear hb)
          | (go_at_call 35; refine (c2 _ HB.out).out.mono ?_; rintro e w2 ⟨rfl, hb⟩; replace HB := Lib.hid (HB.out.trans (hb.mono HB.out.size)); replace HX := Lib.hid (kept3 HX.out hb); replace HY := Lib.hid (kept3 HY.out hb); replace d1 := (box5 HX.out).2.1; replace d2 := (box5 HX.out).2.2.1; replace d3 := (box5 HX.out).2.2.2.1; replace d4 := (box5 HX.out).2.2.2.2; replace e1 := (box5 HY.out).2.1; replace e2 := (box5 HY.out).2.2.1; replace e3 := (box5 HY.out).2.2.2.1; replace e4 := (box5 HY.out).2.2.2.2; clear hb)
          | (go_at_call 36; refine (c3 _ HB.out).out.mono ?_; rintro e w2 ⟨rfl, hb⟩; replace HB := Lib.hid (HB.out.trans (hb.mono HB.out.size)); replace HX := Lib.hid (kept3 HX.out hb); replace HY := Lib.hid (kept3 HY.out hb); replace d1 := (box5 HX.out).2.1; replace d2 := (box5 HX.out).2.2.1; replace d3 := (box5 HX.out).2.2.2.1; replace d4 := (box5 HX.out).2.2.2.2; replace e1 := (box5 HY.out).2.1; replace e2 := (box5 HY.out).2.2.1; replace e3 := (box5 HY.out).2.2.2.1; replace e4 := (box5 HY.out).2.2.2.2; clear hb)
          | (go_at_call 37; refine (c4 _ HB.out).out.mono ?_; rintro e w2 ⟨rfl, hb⟩; replace HB := Lib.hid (HB.out.trans (hb.mono HB.out.size)); replace HX := Lib.hid (kept3 HX.out hb); replace HY := Lib.hid (kept3 HY.out hb); replace d1 := (box5 HX.out).2.1; replace d2 := (box5 HX.out).2.2.1; replace d3 := (box5 HX.out).2.2.2.1; replace d4 := (box5 HX.out).2.2.2.2; replace e1 := (box5 HY.out).2.1; replace e2 := (box5 HY.out).2.2.1; replace e3 := (box5 HY.out).2.2.2.1; replace e4 := (box5 HY.out).2.2.2.2; clear hb))
        go_ret
        exact ⟨⟨false, rfl, HP.out false (by simp)⟩, HB.out⟩
      | true =>
        go_wp2_with (first
          | (go_at_call 34; refine (c1 _ HB.out).out.mono ?_; rintro e w2 ⟨rfl, hb⟩; replace HB := Lib.hid (HB.out.trans (hb.mono HB.out.size)); replace HX := Lib.hid (kept3 HX.out hb); replace HY := Lib.hid (kept3 HY.out hb); replace d1 := (box5 HX.out).2.1; replace d2 := (box5 HX.out).2.2.1; replace d3 := (box5 HX.out).2.2.2.1; replace d4 := (box5 HX.out).2.2.2.2; replace e1 := (box5 HY.out).2.1; replace e2 := (box5 HY.out).2.2.1; replace e3 := (box5 HY.out).2.2.2.1; replace e4 := (box5 HY.out).2.2.2.2; clear hb)
          | (go_at_call 35; refine (c2 _ HB.out).out.mono ?_; rintro e w2 ⟨rfl, hb⟩; replace HB := Lib.hid (HB.out.trans (hb.mono HB.out.size)); replace HX := Lib.hid (kept3 HX.out hb); replace HY := Lib.hid (kept3 HY.out hb); replace d1 := (box5 HX.out).2.1; replace d2 := (box5 HX.out).2.2.1; replace d3 := (box5 HX.out).2.2.2.1; replace d4 := (box5 HX.out).2.2.2.2; replace e1 := (box5 HY.out).2.1; replace e2 := (box5 HY.out).2.2.1; replace e3 := (box5 HY.out).2.2.2.1; replace e4 := (box5 HY.out).2.2.2.2; clear hb)
          | (go_at_call 36; refine (c3 _ HB.out).out.mono ?_; rintro e w2 ⟨rfl, hb⟩; replace HB := Lib.hid (HB.out.trans (hb.mono HB.out.size)); replace HX := Lib.hid (kept3 HX.out hb); replace HY := Lib.hid (kept3 HY.out hb); replace d1 := (box5 HX.out).2.1; replace d2 := (box5 HX.out).2.2.1; replace d3 := (box5 HX.out).2.2.2.1; replace d4 := (box5 HX.out).2.2.2.2; replace e1 := (box5 HY.out).2.1; replace e2 := (box5 HY.out).2.2.1; replace e3 := (box5 HY.out).2.2.2.1; replace e4 := (box5 HY.out).2.2.2.2; clear hb)
          | (go_at_call 37; refine (c4 _ HB.out).out.mono ?_; rintro e w2 ⟨rfl, hb⟩; replace HB := Lib.hid (HB.out.trans (hb.mono HB.out.size)); replace HX := Lib.hid (kept3 HX.out hb); replace HY := Lib.hid (kept3 HY.out hb); replace d1 := (box5 HX.out).2.1; replace d2 := (box5 HX.out).2.2.1; replace d3 := (box5 HX.out).2.2.2.1; replace d4 := (box5 HX.out).2.2.2.2; replace e1 := (box5 HY.out).2.1; replace e2 := (box5 HY.out).2.2.1; replace e3 := (box5 HY.out).2.2.2.1; replace e4 := (box5 HY.out).2.2.2.2; clear hb))
        go_ret
        exact ⟨⟨b4, rfl, HP.out b4 (by simp)⟩, HB.out⟩
theorem Fit.toSz {n : Nd} (h : Fit n) : Sz n := ⟨fun p hp => Nat.le_trans (h.pk p hp) (by decide), fun p hp => Nat.le_trans (h.bk p hp) (by decide), fun p hp => Nat.le_trans (h.qk p hp) (by decide), Nat.le_trans h.kids (by decide), Nat.le_trans h.piv (by decide), Nat.le_trans h.buf (by decide), Nat.le_trans h.prs (by decide)⟩
theorem Same_any {W : World} {n n' : Nd} {a a' : At} (h : NdIn W n a) (h' : NdIn W n' a') (hf : Fit n) (hf' : Fit n') : Calls Try.prog 14 #[.agg (ndCs n a), .agg (ndCs n' a')] W fun e w' => (∃ v : Bool, e = .returned (.bool v) ∧ (v = true ↔ n = n')) ∧ Below W.heap.size W w' := SameSz_any h h' hf.toSz hf'.toSz
theorem Fr.lower {α : Type} {K : Kind α} {w : World} {B B' : Nat} {A : Option Addr} {c : Nat} {L : List α} (h : Fr K w B A c L) (hb : B' ≤ B) : Fr K w B' A c L := ⟨h.rc, fun h0 => by
  obtain ⟨g, o, C, e, h1, h2⟩ := h.own h0
  exact ⟨g, o, C, e, Nat.le_trans hb h1, h2⟩⟩
theorem FrNd.lower {w : World} {B B' : Nat} {n : Nd} {a : At} (h : FrNd w B n a) (hb : B' ≤ B) : FrNd w B' n a := ⟨h.kids.lower hb, h.piv.lower hb, h.buf.lower hb, h.prs.lower hb⟩
def EvFr {α : Type} (K : Kind α) (B : Nat) (L : List α) (n : Nat) (v : Value) (w : World) : Prop := ∃ A c, v = .slice A n c ∧ Fr K w B A c L
theorem set_five {w : World} {b : Nat} {u0 u1 u2 u3 u4 : Value} {U : TypeId} (h : w.heap[b]? = some (.cells #[u0, u1, u2, u3, u4] U (0, 0))) (v0 v1 v2 v3 v4 : Value) : (((((w.setCell ⟨b, 0, none⟩ v0).setCell ⟨b, 1, none⟩ v1).setCell ⟨b, 2, none⟩ v2).setCell ⟨b, 3, none⟩ v3).setCell ⟨b, 4, none⟩ v4).heap[b]? = some (.cells #[v0, v1, v2, v3, v4] U (0, 0)) := by
  simp [World.setCell, Array.getElem?_modify, h]
set_option maxRecDepth 100000 in
set_option maxHeartbeats 4000000 in
theorem Clone_any {W : World} {n : Nd} {a : At} (h : NdIn W n a) (hf : Fit n) : Calls Try.prog 13 #[.agg (ndCs n a)] W fun e w' => (∃ a', e = .returned (.agg (ndCs n a')) ∧ FrNd w' W.heap.size n a') ∧ Below W.heap.size W w' := by
  have c1 : ∀ W1, Below W.heap.size W W1 → ∀ s, s ≤ W1.heap.size → Hid (Calls Try.prog 30 #[.slice a.kA n.kids.length a.kc] W1 fun e w' => (∃ A c, e = .returned (.slice A n.kids.length c) ∧ Fr KdK w' s A c n.kids) ∧ Below W1.heap.size W1 w') := fun W1 hb s hs => (CloneK_any (c := a.kc) (h.kept hb).kids.1 (Nat.le_trans hf.kids (by decide))).mono fun e w' ⟨⟨A, c, he, hv⟩, hb2⟩ => ⟨⟨A, c, he, Fr.of_vk (hv.mono hs)⟩, hb2⟩
  have c2 : ∀ W1, Below W.heap.size W W1 → ∀ s, s ≤ W1.heap.size → Hid (Calls Try.prog 31 #[.slice a.pA n.piv.length a.pc] W1 fun e w' => (∃ A c, e = .returned (.slice A n.piv.length c) ∧ Fr StK w' s A c n.piv) ∧ Below W1.heap.size W1 w') := fun W1 hb s hs => (CloneS_any (c := a.pc) (h.kept hb).piv.1 (Nat.le_trans hf.piv (by decide))).mono fun e w' ⟨⟨A, c, he, hv⟩, hb2⟩ => ⟨⟨A, c, he, Fr.of_vk (hv.mono hs)⟩, hb2⟩
  have c3 : ∀ W1, Below W.heap.size W W1 → ∀ s, s ≤ W1.heap.size → Hid (Calls Try.prog 32 #[.slice a.bA n.buf.length a.bc] W1 fun e w' => (∃ A c, e = .returned (.slice A n.buf.length c) ∧ Fr MgK w' s A c n.buf) ∧ Below W1.heap.size W1 w') := fun W1 hb s hs => (CloneM_any (c := a.bc) (h.kept hb).buf.1 (Nat.le_trans hf.buf (by decide))).mono fun e w' ⟨⟨A, c, he, hv⟩, hb2⟩ => ⟨⟨A, c, he, Fr.of_vk (VK.mono hv hs)⟩, hb2⟩
  have c4 : ∀ W1, Below W.heap.size W W1 → ∀ s, s ≤ W1.heap.size → Hid (Calls Try.prog 33 #[.slice a.qA n.prs.length a.qc] W1 fun e w' => (∃ A c, e = .returned (.slice A n.prs.length c) ∧ Fr PrK w' s A c n.prs) ∧ Below W1.heap.size W1 w') := fun W1 hb s hs => (CloneP_any (c := a.qc) (h.kept hb).prs.1 (Nat.le_trans hf.prs (by decide))).mono fun e w' ⟨⟨A, c, he, hv⟩, hb2⟩ => ⟨⟨A, c, he, Fr.of_vk (VK.mono hv hs)⟩, hb2⟩
  clear h hf
  obtain ⟨lv, K, P, B, Q⟩ := n
  obtain ⟨kA, kc, pA, pc, bA, bc, qA, qc⟩ := a
  unfold ndCs at *
  simp only at *
  obtain ⟨kn, hkn⟩ : ∃ k, k = K.length := ⟨_, rfl⟩
  obtain ⟨pn, hpn⟩ : ∃ k, k = P.length := ⟨_, rfl⟩
  obtain ⟨bn, hbn⟩ : ∃ k, k = B.length := ⟨_, rfl⟩
  obtain ⟨qn, hqn⟩ : ∃ k, k = Q.length := ⟨_, rfl⟩
  simp only [← hkn, ← hpn, ← hbn, ← hqn] at *
  clear hkn hpn hbn hqn
  go_enter Try.func13, Try.ntmps13
  go_upto_region 1 with fail
  have h3 := two_new W (.cells #[.int .i64 lv, .slice kA kn kc, .slice pA pn pc, .slice bA bn bc, .slice qA qn qc] 31) (.cells #[.int .i64 0, .slice none 0 0, .slice none 0 0, .slice none 0 0, .slice none 0 0] 31)
  generalize (W.alloc (.cells #[.int .i64 lv, .slice kA kn kc, .slice pA pn pc, .slice bA bn bc, .slice qA qn qc] 31)).alloc (.cells #[.int .i64 0, .slice none 0 0, .slice none 0 0, .slice none 0 0, .slice none 0 0] 31) = w1 at *
  have HB := Lib.hid h3.2.2
  obtain ⟨g, hg⟩ : ∃ g, g = W.heap.size := ⟨_, rfl⟩
  obtain ⟨r, hr⟩ : ∃ r, r = g + 1 := ⟨_, rfl⟩
  rw [← hg] at h3
  simp only [← hg]
  rw [← hr] at h3
  simp only [← hr]
  have HX := Lib.hid h3.1
  have HY := Lib.hid h3.2.1
  have HR : Hid (W.heap.size ≤ r) := by unfold Hid; omega
  clear h3 hg hr
  obtain ⟨d0, d1, d2, d3, d4⟩ := box5 HX.out
  obtain ⟨s, hs⟩ : ∃ s, s = w1.heap.size := ⟨_, rfl⟩
  have HS : Hid (s ≤ w1.heap.size) := by rw [hs]; exact Nat.le_refl _
  have HRs : Hid (r < s) := by rw [hs]; exact (Array.getElem?_eq_some_iff.1 HY.out).1
  clear hs
  have z0 := fun q : Drift.Tide [] w1 [] => Drift.Tide.cell d0 (by simp) q
  have z1 := fun q : Drift.Tide [] w1 [] => Drift.Tide.cell d1 (by simp) q
  have z2 := fun q : Drift.Tide [] w1 [] => Drift.Tide.cell d2 (by simp) q
  have z3 := fun q : Drift.Tide [] w1 [] => Drift.Tide.cell d3 (by simp) q
  have z4 := fun q : Drift.Tide [] w1 [] => Drift.Tide.cell d4 (by simp) q
  clear d0 d1 d2 d3 d4
  refine Drift.wp_region_drift [] [(0,[]),(1,[]),(2,[]),(3,[]),(5,[]),(6,[]),(8,[]),(9,[]),(11,[]),(12,[]),(4,[]),(7,[]),(10,[]),(13,[]),(14,[])] [4, 7, 10, 13] [] (by kernel_rfl) (by kernel_rfl) (by simp) ?_
  simp only [Drift.pick, Drift.opsAt, List.getElem?_toArray, List.getElem?_cons_zero, List.getElem?_cons_succ, List.cons_append, List.nil_append, List.filterMap_nil]
  repeat (refine Drift.walk_step (fun K hK => ?_); go_simp; (refine hK _ ?_; clear hK K))
  refine Drift.walk_event rfl Drift.mkwalk_nil (EvFr KdK s K kn) (fun W2 hk _ => ?_) (fun v w2 hv hI _ hTd => ?_)
  · go_simp
    go_at_call 30
    refine (c1 W2 (HB.out.trans (hk.mono HB.out.size)) s (Nat.le_trans HS.out hk.size)).out.mono ?_
    rintro e w' ⟨⟨A, c, rfl, h1⟩, hb⟩
    exact ⟨_, rfl, ⟨A, c, rfl, h1⟩, Flow.Into.of_below hb⟩
  obtain ⟨A1, n1, rfl, h1⟩ := hv
  have HF1 := Lib.hid h1
  have HB1 : Hid (Below W.heap.size W w2) := HB.out.trans (hI.below.mono HB.out.size)
  have HI1 : Hid (Flow.Into [] w1 w2) := hI
  clear h1 hI hTd
  refine Drift.walk_event rfl Drift.mkwalk_nil (EvFr StK s P pn) (fun W2 hk _ => ?_) (fun v w3 hv hI _ hTd => ?_)
  · go_simp
    go_at_call 31
    refine (c2 W2 (HB1.out.trans (hk.mono HB1.out.size)) s (Nat.le_trans HS.out (Nat.le_trans HI1.out.size hk.size))).out.mono ?_
    rintro e w' ⟨⟨A, c, rfl, h1⟩, hb⟩
    exact ⟨_, rfl, ⟨A, c, rfl, h1⟩, Flow.Into.of_below hb⟩
  obtain ⟨A2, n2, rfl, h1⟩ := hv
  have HF2 := Lib.hid h1
  replace HF1 := Lib.hid (HF1.out.kept hI.below)
  have HB2 : Hid (Below W.heap.size W w3) := HB1.out.trans (hI.below.mono HB1.out.size)
  have HI2 : Hid (Flow.Into [] w1 w3) := HI1.out.trans hI
  clear h1 hI hTd
  refine Drift.walk_event rfl Drift.mkwalk_nil (EvFr MgK s B bn) (fun W2 hk _ => ?_) (fun v w4 hv hI _ hTd => ?_)
  · go_simp
    go_at_call 32
    refine (c3 W2 (HB2.out.trans (hk.mono HB2.out.size)) s (Nat.le_trans HS.out (Nat.le_trans HI2.out.size hk.size))).out.mono ?_
    rintro e w' ⟨⟨A, c, rfl, h1⟩, hb⟩
    exact ⟨_, rfl, ⟨A, c, rfl, h1⟩, Flow.Into.of_below hb⟩
  obtain ⟨A3, n3, rfl, h1⟩ := hv
  have HF3 := Lib.hid h1
  replace HF1 := Lib.hid (HF1.out.kept hI.below)
  replace HF2 := Lib.hid (HF2.out.kept hI.below)
  have HB3 : Hid (Below W.heap.size W w4) := HB2.out.trans (hI.below.mono HB2.out.size)
  have HI3 : Hid (Flow.Into [] w1 w4) := HI2.out.trans hI
  clear h1 hI hTd
  refine Drift.walk_event rfl Drift.mkwalk_nil (EvFr PrK s Q qn) (fun W2 hk _ => ?_) (fun v w5 hv hI _ hTd => ?_)
  · go_simp
    go_at_call 33
    refine (c4 W2 (HB3.out.trans (hk.mono HB3.out.size)) s (Nat.le_trans HS.out (Nat.le_trans HI3.out.size hk.size))).out.mono ?_
    rintro e w' ⟨⟨A, c, rfl, h1⟩, hb⟩
    exact ⟨_, rfl, ⟨A, c, rfl, h1⟩, Flow.Into.of_below hb⟩
  obtain ⟨A4, n4, rfl, h1⟩ := hv
  have HF4 := Lib.hid h1
  replace HF1 := Lib.hid (HF1.out.kept hI.below)
  replace HF2 := Lib.hid (HF2.out.kept hI.below)
  replace HF3 := Lib.hid (HF3.out.kept hI.below)
  have HB4 : Hid (Below W.heap.size W w5) := HB3.out.trans (hI.below.mono HB3.out.size)
  have HI4 : Hid (Flow.Into [] w1 w5) := HI3.out.trans hI
  clear h1 hI hTd
  repeat (refine Drift.walk_step (fun K hK => ?_); go_simp; (refine hK _ ?_; clear hK K))
  refine Drift.walk_nil ?_
  intro w6 hb6 _
  have hy6 := kept3 (kept3 HY.out (HI4.out.below)) hb6
  have h6 : FrNd w6 s ⟨lv, K, P, B, Q⟩ ⟨A1, n1, A2, n2, A3, n3, A4, n4⟩ := ⟨HF1.out.kept hb6, HF2.out.kept hb6, HF3.out.kept hb6, HF4.out.kept hb6⟩
  have HB6 := Lib.hid (HB4.out.trans (hb6.mono HB4.out.size))
  have hr := HRs.out
  have hws : W.heap.size ≤ s := by have := HR.out; omega
  have h7 := (((((h6.set hr (i := 0) (.int .i64 lv)).set hr (i := 1) (.slice A1 kn n1)).set hr (i := 2) (.slice A2 pn n2)).set hr (i := 3) (.slice A3 bn n3)).set hr (i := 4) (.slice A4 qn n4)).lower hws
  have hy7 := set_five hy6 (.int .i64 lv) (.slice A1 kn n1) (.slice A2 pn n2) (.slice A3 bn n3) (.slice A4 qn n4)
  have hb7 : Below W.heap.size W (((((w6.setCell ⟨r, 0, none⟩ (.int .i64 lv)).setCell ⟨r, 1, none⟩ (.slice A1 kn n1)).setCell ⟨r, 2, none⟩ (.slice A2 pn n2)).setCell ⟨r, 3, none⟩ (.slice A3 bn n3)).setCell ⟨r, 4, none⟩ (.slice A4 qn n4)) := ((((HB6.out.setCell HR.out _).setCell HR.out _).setCell HR.out _).setCell HR.out _).setCell HR.out _
  have H7 := Lib.hid h7
  have HB7 := Lib.hid hb7
  have HY7 := Lib.hid hy7
  obtain ⟨y0, y1, y2, y3, y4⟩ := box5 hy6
  have yf : ∀ i, w6.frozen? ⟨r, i, none⟩ = false := fun i => by simp [World.frozen?, hy6]
  clear h6 h7 hb7 hy7 hb6 hy6 hr hws HF1 HF2 HF3 HF4 HB1 HB2 HB3 HB4 HI1 HI2 HI3 HI4 c1 c2 c3 c4 z0 z1 z2 z3 z4 HX HY HB6
  simp only [List.length_cons, List.length_nil, List.drop_succ_cons, List.drop_zero, Nat.zero_add, Nat.reduceAdd]
  go_wp2_with fail
  generalize ((((w6.setCell ⟨r, 0, none⟩ (.int .i64 lv)).setCell ⟨r, 1, none⟩ (.slice A1 kn n1)).setCell ⟨r, 2, none⟩ (.slice A2 pn n2)).setCell ⟨r, 3, none⟩ (.slice A3 bn n3)).setCell ⟨r, 4, none⟩ (.slice A4 qn n4) = w7 at *
  obtain ⟨x0, x1, x2, x3, x4⟩ := box5 HY7.out
  exact bodyPost_ret (v := .agg #[.int .i64 lv, .slice A1 kn n1, .slice A2 pn n2, .slice A3 bn n3, .slice A4 qn n4]) (by simp [results, Try.results13, go_sem, x0, x1, x2, x3, x4]) rfl ⟨⟨⟨A1, n1, A2, n2, A3, n3, A4, n4⟩, rfl, H7.out⟩, HB7.out⟩

set_option maxRecDepth 100000 in
set_option maxHeartbeats 4000000 in
theorem Find_any {W : World} {n : Nd} {a : At} (h : NdIn W n a) (hf : Fit n) (b : Nat) (_ : b < 4294967296) : Calls Try.prog 23 #[.agg (ndCs n a), .int .u32 (b : Int)] W fun e w' => (∃ (v : Nat) (ok : Bool), e = .returned (.tuple #[.int .i64 (v : Int), .bool ok]) ∧ FindP n.kids b v ok) ∧ Below W.heap.size W w' := by
  have cI := fun W1 (hb : Below W.heap.size W W1) => Lib.hid (IndexK_any (c := a.kc) (h.kept hb).kids.1 b (Nat.le_trans hf.kids (by decide)))
  have HK : Hid (n.kids.length ≤ 80) := hf.kids
  clear h hf
  obtain ⟨lv, K, P, B, Q⟩ := n
  obtain ⟨kA, kc, pA, pc, bA, bc, qA, qc⟩ := a
  unfold ndCs at *
  simp only at *
  obtain ⟨kn, hkn⟩ : ∃ k, k = K.length := ⟨_, rfl⟩
  rw [← hkn] at cI HK ⊢
  have HKN := Lib.hid hkn
  generalize P.length = pn at *
  generalize B.length = bn at *
  generalize Q.length = qn at *
  clear hkn
  go_enter Try.func23, Try.ntmps23
  go_upto_region 1 with fail
  have hx := heap_alloc_new W (.cells #[.int .i64 lv, .slice kA kn kc, .slice pA pn pc, .slice bA bn bc, .slice qA qn qc] 31)
  have hb0 : Below W.heap.size W (W.alloc (.cells #[.int .i64 lv, .slice kA kn kc, .slice pA pn pc, .slice bA bn bc, .slice qA qn qc] 31)) := (Below.refl _ _).alloc (Nat.le_refl _) _
  generalize W.alloc (.cells #[.int .i64 lv, .slice kA kn kc, .slice pA pn pc, .slice bA bn bc, .slice qA qn qc] 31) = w1 at *
  obtain ⟨g, hg⟩ : ∃ g, g = W.heap.size := ⟨_, rfl⟩
  simp only [← hg] at hx ⊢
  obtain ⟨-, d1, -, -, -⟩ := box5 hx
  have HB0 := Lib.hid hb0
  clear hg hx hb0
  go_upto_region 2 with (go_at_call 49; refine (cI _ HB0.out).out.mono ?_; rintro e w2 ⟨⟨z, rfl, hz⟩, rfl⟩)
  rcases hz with ⟨v, rfl, h1, h2⟩ | ⟨rfl, h1⟩
  · have HF : Hid (FindP K b v true) := .inl ⟨rfl, h1, h2⟩
    have hv0 : ¬ ((v : Int) < 0) := by omega
    clear h1 h2 cI d1
    go_wp2_with fail
    exact bodyPost_ret (v := .tuple #[.int .i64 (v : Int), .bool true]) (by simp [results, Try.results23, go_sem]) rfl ⟨⟨v, .inr ⟨rfl, HF.out⟩⟩, HB0.out⟩
  · have HF : Hid (FindP K b 0 false) := .inr ⟨rfl, rfl, h1⟩
    clear h1 cI d1
    go_wp2_with fail
    exact bodyPost_ret (v := .tuple #[.int .i64 0, .bool false]) (by simp [results, Try.results23, go_sem]) rfl ⟨⟨0, false, rfl, HF.out⟩, HB0.out⟩
end No
end Go.Proofs.Ytlcdjbleeanpbaa
