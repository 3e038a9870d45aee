/-
  A list of 32-bit numbers as an argument, opened; a node as an argument, opened.
-/
import Derived.Test.YtlcdjbleeanpbaaMsgArgs
import Derived.Test.YtlcdjbleeanpbaaPairArgs
import Derived.Test.YtlcdjbleeanpbaaStrArgs
import Derived.Test.YtlcdjbleeanpbaaNodeK
namespace Go.Proofs.Ytlcdjbleeanpbaa
open Go.RowKit Go.WideShapes Go.ChangeShapes Go.Deep
namespace No
open Mem
set_option maxRecDepth 100000 in
theorem open_kids_t {H : Type} {enc : TypeId × Value → H} {W : World} {v : Value} {d : DataW H} {p : List MemPlace} {fuel : Nat} (hf : DataW.trod enc Try.prog W 0 (fun _ => true) true fuel 26 [v] = some (d, p)) :
    ∃ (A : Option Addr) (L : List Nat) (c : Nat), v = .slice A L.length c ∧ KC W A c L ∧ L.length ≤ c ∧ c ≤ maxLen ∧ ∀ n, n ∈ L → n < 4294967296 := by
  rcases open_ints Try.underlying26 Try.underlying38 (by kernel_rfl) hf with ⟨hcs, _⟩ | ⟨a, len, cap, zs, hcs, _, hl, hm, hz, _, hcell, hwz⟩
  · obtain rfl : v = _ := by simpa using hcs
    exact ⟨none, [], 0, rfl, RC.nil _ _ _, Nat.le_refl _, Nat.zero_le _, fun n hn => by cases hn⟩
  · obtain rfl : v = _ := by simpa using hcs
    simp only [if_true] at hz
    have htl : (zs.take len).length = len := by simp; omega
    have hnat : ∀ z, z ∈ zs → ∃ n : Nat, z = (n : Int) ∧ n < 4294967296 := fun z hz' => Args.nat_of_u32 (hwz z hz')
    refine ⟨some a, (zs.take len).map Int.toNat, cap, by rw [List.length_map, htl], ⟨fun hpos => ?_, by rw [List.length_map, htl]; exact hl⟩, by rw [List.length_map, htl]; exact hl, hm, fun n hn => ?_⟩
    · rw [List.length_map, htl] at hpos
      obtain ⟨b, o, sp⟩ := a
      have h0 := hcell 0 (by omega)
      obtain rfl : sp = none := by simpa [Addr.add] using World.cell?_spot h0
      have hb : b < W.heap.size := by
        rcases Nat.lt_or_ge b W.heap.size with h' | h'
        · exact h'
        · simp [Addr.add, World.cell?, Array.getElem?_eq_none h'] at h0
      refine ⟨b, o, rfl, hb, fun i x hx j u hu => ?_⟩
      rw [List.getElem?_map, Option.map_eq_some_iff] at hx
      obtain ⟨z, hx, rfl⟩ := hx
      obtain ⟨hi, hx⟩ := List.getElem?_eq_some_iff.1 hx
      rw [htl] at hi
      have h1 := hcell i (by omega)
      have e : (⟨b, o, none⟩ : Addr).add i = ⟨b, o + i, none⟩ := by unfold Addr.add; split <;> simp_all
      rw [e] at h1
      have hj : j = 0 := by
        have := (List.getElem?_eq_some_iff.1 hu).1
        simp only [KdK, List.length_cons, List.length_nil] at this
        omega
      subst hj
      rw [List.getElem_take] at hx
      obtain ⟨n, hn, -⟩ := hnat z (by rw [← hx]; exact List.getElem_mem _)
      obtain rfl : Value.int .u32 (z.toNat : Int) = u := by simpa [KdK] using hu
      have hk : KdK.k = 1 := rfl
      rw [hk, Nat.mul_one, Nat.add_zero, h1]
      have e2 : zs.getD i 0 = z := by simp [List.getD, show i < zs.length by omega, hx]
      first | rw [e2, hn]; rfl | (simp [List.getD, show i < zs.length by omega, hx, hn])
    · obtain ⟨z, hz', rfl⟩ := List.mem_map.1 hn
      obtain ⟨n, rfl, hlt⟩ := hnat z (List.mem_of_mem_take hz')
      simpa using hlt
/-- what an argument's node keeps: lists that memory has room for, values that memory reaches -/
structure NdOk (n : Nd) : Prop where
  lv : -9223372036854775808 ≤ n.lv ∧ n.lv ≤ 9223372036854775807
  kids : n.kids.length ≤ maxLen
  piv : n.piv.length ≤ maxLen
  buf : n.buf.length ≤ maxLen
  prs : n.prs.length ≤ maxLen
  kid : ∀ k, k ∈ n.kids → k < 4294967296
  val : ∀ m, m ∈ n.prs → m.2.size ≤ reachBytes
theorem array5 {α : Type} {cs : Array α} (h : cs.size = 5) : ∃ c0 c1 c2 c3 c4, cs = #[c0, c1, c2, c3, c4] := by
  obtain ⟨l⟩ := cs
  match l, h with
  | [c0, c1, c2, c3, c4], _ => exact ⟨c0, c1, c2, c3, c4, rfl⟩
theorem node_one : oneCellFields Try.prog (Try.prog.fieldsOf 31) = true := by kernel_rfl
set_option maxRecDepth 100000 in
theorem open_node {H : Type} {enc : TypeId × Value → H} {W : World} {v : Value} {d : DataW H} {p : List MemPlace} {r : Reach} {b0 : Nat} (hv : Value.okWide Try.prog W r b0 31 v) (h : DataW.Trod enc Try.prog W 0 (fun _ => true) true 31 v d p) (hw : ∀ n ∈ d.weights Try.prog 31, n ≤ reachBytes) :
    ∃ (n : Nd) (a : At), v = .agg (ndCs n a) ∧ NdIn W n a ∧ NdOk n := by
  have hu : Try.prog.underlying 31 = some (.struct (Try.prog.fieldsOf 31)) := by kernel_rfl
  obtain ⟨cs, rfl, hsz⟩ := okWide_struct hu hv
  have h5 : Try.prog.cellsOf 31 = 5 := by kernel_rfl
  rw [h5] at hsz
  obtain ⟨fuel, hf⟩ := h
  obtain ⟨ys, n', _, hD, hlen, hyl, hfl⟩ := DataW.trod_struct hu hf
  have hsz2 : (Try.prog.fieldsOf 31).size = 5 := by kernel_rfl
  have each : ∀ (j : Nat) (u : Value) (T : TypeId), cs[j]? = some u → ((Try.prog.fieldsOf 31)[j]?.map fun f => f.type) = some T → ∃ y : DataW H × List MemPlace, DataW.trod enc Try.prog W 0 (fun _ => true) true n' T [u] = some y ∧ ∀ k ∈ y.1.weights Try.prog T, k ≤ reachBytes := fun j u T hj hT => by
    rw [Option.map_eq_some_iff] at hT
    obtain ⟨f, hfj, rfl⟩ := hT
    obtain ⟨ho, hk⟩ := hone_of node_one j f hfj
    have h1 := hfl j f hfj
    rw [ho, hk] at h1
    have hu1 : ((Value.agg cs).cells.toList.drop j).take 1 = [u] := by
      simp only [Value.cells]
      have hl : cs.toList[j]? = some u := by simpa using hj
      rw [List.getElem?_eq_some_iff] at hl
      obtain ⟨h2, h3⟩ := hl
      rw [List.drop_eq_getElem_cons h2, h3]
      rfl
    rw [hu1] at h1
    have hj' : j < ys.length := by
      rw [hyl]
      exact (Array.getElem?_eq_some_iff.1 hfj).1
    rw [List.getElem?_eq_getElem hj'] at h1
    refine ⟨_, h1, fun k hk => hw k ?_⟩
    simp only [Prod.mk.injEq] at hD
    rw [hD.1]
    simp only [DataW.weights, hu]
    refine Args.w_each (j := j) (t := f.type) (d := (ys[j]'hj').1) ?_ ?_ k hk
    · rw [List.getElem?_map, Array.getElem?_toList, hfj]; rfl
    · rw [List.getElem?_map, List.getElem?_eq_getElem hj']; rfl
  obtain ⟨c0, c1, c2, c3, c4, rfl⟩ := array5 hsz
  obtain ⟨⟨y0, q0⟩, k0, -⟩ := each 0 c0 3 rfl (by decide +kernel)
  obtain ⟨⟨y1, q1⟩, k1, -⟩ := each 1 c1 26 rfl (by decide +kernel)
  obtain ⟨⟨y2, q2⟩, k2, -⟩ := each 2 c2 27 rfl (by decide +kernel)
  obtain ⟨⟨y3, q3⟩, k3, -⟩ := each 3 c3 28 rfl (by decide +kernel)
  obtain ⟨⟨y4, q4⟩, k4, w4⟩ := each 4 c4 29 rfl (by decide +kernel)
  obtain ⟨z, hz, -, hwf⟩ := DataW.trod_int Try.underlying3 k0
  obtain rfl : c0 = _ := by simpa using hz
  obtain ⟨kA, K, kc, rfl, hK, lK, mK, bK⟩ := open_kids_t k1
  obtain ⟨pA, P, pc, rfl, hP, lP, mP⟩ := Fa.open_strs_t k2
  obtain ⟨bA, B, bc, rfl, hB, lB, mB⟩ := Bu.open_msgs_t k3
  obtain ⟨qA, Q, qc, rfl, hQ, lQ, mQ, wQ⟩ := Lf.open_prs_t k4
  exact ⟨⟨z, K, P, B, Q⟩, ⟨kA, kc, pA, pc, bA, bc, qA, qc⟩, rfl, ⟨hK, hP, hB, hQ⟩, ⟨Args.i64_bounds hwf, Nat.le_trans lK mK, Nat.le_trans lP mP, Nat.le_trans lB mB, Nat.le_trans lQ mQ, bK, fun m hm => w4 _ (wQ m hm).2⟩⟩
end No
end Go.Proofs.Ytlcdjbleeanpbaa
