/-
  Nodes in memory; the document's node: Load, Heaviest, Ahead.
-/
import Derived.Test.YtlcdjbleeanpbaaKidK
import Derived.Test.YtlcdjbleeanpbaaStrK
import Derived.Test.YtlcdjbleeanpbaaMsgK
import Derived.Test.YtlcdjbleeanpbaaPairK
import Derived.Test.YtlcdjbleeanpbaaFanR
namespace Go.Proofs.Ytlcdjbleeanpbaa
open Go.RowKit
namespace No
open Mem Lx Bu Lf Fa
/-- a node -/
structure Nd where
  lv : Int
  kids : List Nat
  piv : List ByteArray
  buf : List Mg
  prs : List Pr
/-- where its lists lie, and their room -/
structure At where
  kA : Option Addr
  kc : Nat
  pA : Option Addr
  pc : Nat
  bA : Option Addr
  bc : Nat
  qA : Option Addr
  qc : Nat
def ndCs (n : Nd) (a : At) : Array Value := #[.int .i64 n.lv, .slice a.kA n.kids.length a.kc, .slice a.pA n.piv.length a.pc, .slice a.bA n.buf.length a.bc, .slice a.qA n.prs.length a.qc]
structure NdIn (w : World) (n : Nd) (a : At) : Prop where
  kids : KC w a.kA a.kc n.kids
  piv : SC w a.pA a.pc n.piv
  buf : RC MgK w a.bA a.bc n.buf
  prs : PC w a.qA a.qc n.prs
theorem NdIn.kept {w w' : World} {n : Nd} {a : At} (h : NdIn w n a) (hb : Below w.heap.size w w') : NdIn w' n a := ⟨h.kids.kept hb, h.piv.kept hb, h.buf.kept hb, h.prs.kept hb⟩
theorem box5 {w : World} {b : Nat} {c0 c1 c2 c3 c4 : Value} {U : TypeId} (h : w.heap[b]? = some (.cells #[c0, c1, c2, c3, c4] U (0, 0))) : w.cell? ⟨b, 0, none⟩ = some c0 ∧ w.cell? ⟨b, 1, none⟩ = some c1 ∧ w.cell? ⟨b, 2, none⟩ = some c2 ∧ w.cell? ⟨b, 3, none⟩ = some c3 ∧ w.cell? ⟨b, 4, none⟩ = some c4 := by
  simp [World.cell?, h]
/-- how many messages go one way -/
def loadN (P : List ByteArray) (B : List Mg) (i : Int) : Nat := (B.filter fun m => decide ((wayS P m.1 : Int) = i)).length
theorem loadN_next {P : List ByteArray} {B : List Mg} {i : Int} {k : Nat} {m : Mg} (hm : B[k]? = some m) : loadN P (B.take (k + 1)) i = loadN P (B.take k) i + if (wayS P m.1 : Int) = i then 1 else 0 := by
  have hk := (List.getElem?_eq_some_iff.1 hm).1
  have e : B[k] = m := (List.getElem?_eq_some_iff.1 hm).2
  unfold loadN
  rw [List.take_succ_eq_append_getElem hk, List.filter_append, List.length_append, e]
  by_cases h : (wayS P m.1 : Int) = i <;> simp [h]
theorem loadN_le (P : List ByteArray) (B : List Mg) (i : Int) : loadN P B i ≤ B.length := List.length_filter_le _ _
set_option maxRecDepth 100000 in
set_option maxHeartbeats 4000000 in
theorem RLoad_any {W : World} {n : Nd} {a : At} (h : NdIn W n a) (i : Int) (hp : ∀ p, p ∈ n.piv → p.size ≤ maxLen) (hl : n.piv.length ≤ 1048576) (hb : n.buf.length ≤ 1048576) : Calls Try.prog 21 #[.agg (ndCs n a), .int .i64 i] W fun e w' => e = .returned (.int .i64 (loadN n.piv n.buf i : Int)) ∧ Below W.heap.size W w' := by
  obtain ⟨lv, K, P, B, Q⟩ := n
  obtain ⟨kA, kc, pA, pc, bA, bc, qA, qc⟩ := a
  unfold ndCs
  simp only at *
  have cW := fun (W1 : World) (hb : Below W.heap.size W W1) (key : ByteArray) => Lib.hid (RWay_any (c := pc) (h.piv.1.kept hb) key hp hl)
  have HBF := Lib.hid h.buf.1
  have HT : Hid (loadN P (B.take B.length) i = loadN P B i) := by unfold Hid; rw [List.take_length]
  clear h hp hl
  simp only at cW HBF
  generalize hm : B.length = m at *
  have HM := Lib.hid hm
  generalize K.length = kn at *
  generalize P.length = pn at *
  generalize Q.length = qn at *
  clear hm
  go_enter Try.func21, Try.ntmps21
  go_upto_region 1 with fail
  have hx := heap_alloc_new W (.cells #[.int .i64 lv, .slice kA kn kc, .slice pA pn pc, .slice bA m bc, .slice qA qn qc] 31)
  have hb0 : Below W.heap.size W (W.alloc (.cells #[.int .i64 lv, .slice kA kn kc, .slice pA pn pc, .slice bA m bc, .slice qA qn qc] 31)) := (Below.refl _ _).alloc (Nat.le_refl _) _
  generalize W.alloc (.cells #[.int .i64 lv, .slice kA kn kc, .slice pA pn pc, .slice bA m bc, .slice qA qn qc] 31) = w1 at *
  have HB1 := Lib.hid hb0
  obtain ⟨g, hg⟩ : ∃ g, g = W.heap.size := ⟨_, rfl⟩
  simp only [← hg]
  rw [← hg] at hx
  have HX1 := Lib.hid hx
  clear hx hb0 hg
  go_wp2_with fail
  go_loopg [5, 6] m (fun gk nv iv wr => ∃ k j : Nat, k ≤ m ∧ gk = m - k ∧ iv = .int .i64 (k : Int) ∧ nv = .int .i64 (j : Int) ∧ j ≤ k ∧ Hid (loadN P (B.take k) i = j) ∧ Hid (Below W.heap.size W wr) ∧ Hid (wr.heap[g]? = some (.cells #[.int .i64 lv, .slice kA kn kc, .slice pA pn pc, .slice bA m bc, .slice qA qn qc] 31 (0, 0))))
  case atStart => exact ⟨0, 0, Nat.zero_le _, rfl, rfl, rfl, Nat.le_refl _, rfl, HB1, HX1⟩
  case round =>
    clear HB1 HX1
    obtain ⟨k, j, hk, rfl, rfl, rfl, hj, HJ, HB, HX⟩ := hrel
    obtain ⟨-, -, d2, d3, -⟩ := box5 HX.out
    by_cases hlt : k < m
    · have hkL : k < B.length := by rw [HM.out]; exact hlt
      obtain ⟨x, hxx⟩ : ∃ x, x = B[k] := ⟨_, rfl⟩
      have hx' := nat_len hkL
      rw [← hxx] at hx'
      obtain ⟨b, o, e, -, c0, -, -⟩ := RdK.msg (HBF.out.kept HB.out) hx'
      subst e
      have HS := Lib.hid (loadN_next (P := P) (i := i) hx')
      have hw2 : IntKind.i64.wrap ((k : Int) + 1) = ((k + 1 : Nat) : Int) := by rw [IntKind.wrap_i64]; omega
      have hw3 : IntKind.i64.wrap ((j : Int) + 1) = ((j + 1 : Nat) : Int) := by rw [IntKind.wrap_i64]; omega
      have cX := fun (W1 : World) (hb : Below W.heap.size W W1) => cW W1 hb x.1
      have z0 := fun q : Drift.Tide [] wr [] => Drift.Tide.cell c0 (by simp) q
      have z2 := fun q : Drift.Tide [] wr [] => Drift.Tide.cell d2 (by simp) q
      have z3 := fun q : Drift.Tide [] wr [] => Drift.Tide.cell d3 (by simp) q
      generalize (wayS P x.1 : Int) = z at *
      clear hxx hx' hkL c0
      go_upto_region 5 with fail
      refine Drift.wp_region_drift [] [(0,[]),(1,[]),(2,[]),(3,[]),(4,[]),(5,[]),(6,[]),(7,[]),(8,[]),(9,[]),(10,[])] [] [] (by kernel_rfl) (by kernel_rfl) (by simp) ?_
      simp only [Drift.pick, Drift.opsAt, List.getElem?_toArray, List.getElem?_cons_zero, List.getElem?_cons_succ, List.cons_append, List.nil_append, List.filterMap_nil]
      repeat (refine Drift.walk_step (fun K hK => ?_); go_simp; first | (refine hK _ ?_; clear hK K) | (apply Exists.intro; refine ⟨fun q => ?_, hK _ ?_⟩; (go_at_call 48; exact (cX _ (HB.out.trans (q.into.below.mono HB.out.size))).out); clear hK K))
      refine Drift.walk_nil ?_
      intro w2 hb2 _
      have HB2 := Lib.hid (HB.out.trans (hb2.mono HB.out.size))
      have HX2 : Hid (w2.heap[g]? = some (.cells #[.int .i64 lv, .slice kA kn kc, .slice pA pn pc, .slice (some ⟨b, o, none⟩) m bc, .slice qA qn qc] 31 (0, 0))) := kept3 HX.out hb2
      clear z0 z2 z3 hb2 cX d2 d3 HB HX
      simp only [List.length_cons, List.length_nil, List.drop_succ_cons, List.drop_nil, Nat.zero_add, Nat.reduceAdd]
      by_cases hz : z = i
      · have HJ2 : Hid (loadN P (B.take (k + 1)) i = j + 1) := by
          unfold Hid
          rw [HS.out, HJ.out, if_pos hz]
        subst hz
        clear HS
        go_wp2_with fail
        go_roundg (m - (k + 1))
        case measure => omega
        case rel => exact ⟨k + 1, j + 1, hlt, rfl, by go_num, by go_num, by omega, HJ2, HB2, HX2⟩
      · have HJ2 : Hid (loadN P (B.take (k + 1)) i = j) := by
          unfold Hid
          rw [HS.out, HJ.out, if_neg hz]
          rfl
        clear HS
        go_wp2_with fail
        go_roundg (m - (k + 1))
        case measure => omega
        case rel => exact ⟨k + 1, j, hlt, rfl, by go_num, rfl, by omega, HJ2, HB2, HX2⟩
    · obtain rfl : k = m := by omega
      have HE : Hid (loadN P B i = j) := by rw [← HT.out]; exact HJ.out
      clear hlt cW
      go_wp2_with fail
      go_ret
      exact ⟨by rw [HE.out]; rfl, HB.out⟩
end No
end Go.Proofs.Ytlcdjbleeanpbaa
