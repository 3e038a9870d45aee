/-
  PairArgs, StrArgs, KidArgs, NodeG, NodeR1, Conf4, RowE, Box5. Put together by pack.py.
-/
import Derived.Test.YtgpbioljldkmaaaGreatPkAB
import Derived.Test.YtgpbioljldkmaaaGreatPkAG
import Derived.SliceStrings
import Derived.Test.YtgpbioljldkmaaaGreatPkAH
import Derived.Test.YtgpbioljldkmaaaGreatPkAA
import Derived.Test.YtgpbioljldkmaaaGreatPqDrift

namespace Go.Proofs.YtgpbioljldkmaaaGreat
open Go.RowKit Go.WideShapes Go.ChangeShapes
namespace Lf
open Mem Bu
set_option maxRecDepth 100000 in
theorem open_prs_t {H : Type} {enc : TypeId × Value → H} {W : World} {v : Value} {d : DataW H} {p : List MemPlace} {fuel : Nat} (h : DataW.trod enc Tryz.prog W 0 (fun _ => true) true fuel 27 [v] = some (d, p)) :
    ∃ (A : Option Addr) (L : List Pr) (c : Nat), v = .slice A L.length c ∧ PC W A c L ∧ L.length ≤ c ∧ c ≤ maxLen ∧ ∀ m, m ∈ L → m.1.size ∈ d.weights Tryz.prog 27 ∧ m.2.size ∈ d.weights Tryz.prog 27 := by
  obtain ⟨A, len, c, rfl, hl, hm, hc⟩ := Args.open_structs_t Tryz.underlying27 Tryz.underlying51 (by kernel_rfl) (by kernel_rfl) (by decide) h
  by_cases h0 : 0 < len
  · obtain ⟨b, o, rfl, hcell⟩ := hc h0
    have each : ∀ i, i < len → ∃ m : Pr, W.cell? ⟨b, o + (i * 2 + 0), none⟩ = some (.string m.1) ∧ W.cell? ⟨b, o + (i * 2 + 1), none⟩ = some (.string m.2) ∧ m.1.size ∈ d.weights Tryz.prog 27 ∧ m.2.size ∈ d.weights Tryz.prog 27 := by
      intro i hi
      obtain ⟨u0, y0, n0, h0, k0, z0⟩ := hcell i hi 0 _ rfl
      obtain ⟨u1, y1, n1, h1, k1, z1⟩ := hcell i hi 1 _ rfl
      obtain ⟨s0, e0, rfl, _⟩ := DataW.trod_string Tryz.underlying9 k0
      obtain ⟨s1, e1, rfl, _⟩ := DataW.trod_string Tryz.underlying9 k1
      obtain rfl : u0 = _ := by simpa using e0
      obtain rfl : u1 = _ := by simpa using e1
      exact ⟨(s0, s1), h0, h1, z0 _ (by simp [DataW.weights]), z1 _ (by simp [DataW.weights])⟩
    have each' : ∀ i, ∃ m : Pr, i < len → W.cell? ⟨b, o + (i * 2 + 0), none⟩ = some (.string m.1) ∧ W.cell? ⟨b, o + (i * 2 + 1), none⟩ = some (.string m.2) ∧ m.1.size ∈ d.weights Tryz.prog 27 ∧ m.2.size ∈ d.weights Tryz.prog 27 := fun i => by
      by_cases hi : i < len
      · obtain ⟨m, hm⟩ := each i hi
        exact ⟨m, fun _ => hm⟩
      · exact ⟨(⟨#[]⟩, ⟨#[]⟩), fun h => absurd h hi⟩
    let F := fun i => Classical.choose (each' i)
    have hF : ∀ i, i < len → W.cell? ⟨b, o + (i * 2 + 0), none⟩ = some (.string (F i).1) ∧ W.cell? ⟨b, o + (i * 2 + 1), none⟩ = some (.string (F i).2) ∧ (F i).1.size ∈ d.weights Tryz.prog 27 ∧ (F i).2.size ∈ d.weights Tryz.prog 27 := fun i => Classical.choose_spec (each' i)
    have hb : b < W.heap.size := by
      have := (hF 0 h0).1
      rcases Nat.lt_or_ge b W.heap.size with h' | h'
      · exact h'
      · simp [World.cell?, Array.getElem?_eq_none h'] at this
    refine ⟨some ⟨b, o, none⟩, (List.range len).map F, c, by simp, ⟨fun _ => ⟨b, o, rfl, hb, fun i x hx j u hu => ?_⟩, by simpa using hl⟩, by simpa using hl, hm, fun m hmm => ?_⟩
    rotate_left
    · obtain ⟨i, hi, rfl⟩ := List.mem_map.1 hmm
      exact (hF i (by simpa using hi)).2.2
    obtain ⟨hi, hx⟩ := List.getElem?_eq_some_iff.1 hx
    have hi' : i < len := by simpa using hi
    obtain rfl : F i = x := by simpa using hx
    obtain ⟨e0, e1, -⟩ := hF i hi'
    match j, hu with
    | 0, hu =>
      obtain rfl : Value.string (F i).1 = u := by simpa [PrK] using hu
      exact e0
    | 1, hu =>
      obtain rfl : Value.string (F i).2 = u := by simpa [PrK] using hu
      exact e1
    | j + 2, hu => simp [PrK] at hu
  · obtain rfl : len = 0 := by omega
    exact ⟨A, [], c, rfl, ⟨fun h => absurd h (by simp), Nat.zero_le _⟩, Nat.zero_le _, hm, fun m hmm => by cases hmm⟩
end Lf
end Go.Proofs.YtgpbioljldkmaaaGreat

namespace Go.Proofs.YtgpbioljldkmaaaGreat
open Go.RowKit Go.WideShapes Go.ChangeShapes
namespace Fa
open Mem
set_option maxRecDepth 100000 in
theorem open_strs_t {H : Type} {enc : TypeId × Value → H} {W : World} {v : Value} {d : DataW H} {p : List MemPlace} {fuel : Nat} (hf : DataW.trod enc Tryz.prog W 0 (fun _ => true) true fuel 25 [v] = some (d, p)) :
    ∃ (A : Option Addr) (L : List ByteArray) (c : Nat), v = .slice A L.length c ∧ SC W A c L ∧ L.length ≤ c ∧ c ≤ maxLen := by
  rcases open_strings Tryz.underlying25 Tryz.underlying9 (by kernel_rfl) hf with ⟨hcs, _⟩ | ⟨a, len, cap, ss, hcs, _, hl, hm, hz, _, hcell⟩
  · obtain rfl : v = _ := by simpa using hcs
    exact ⟨none, [], 0, rfl, RC.nil _ _ _, Nat.le_refl _, Nat.zero_le _⟩
  · obtain rfl : v = _ := by simpa using hcs
    simp only [if_true] at hz
    have htl : (ss.take len).length = len := by simp; omega
    refine ⟨some a, ss.take len, cap, by rw [htl], ⟨fun hpos => ?_, by rw [htl]; exact hl⟩, by rw [htl]; exact hl, hm⟩
    rw [htl] at hpos
    obtain ⟨b, o, sp⟩ := a
    have h0 := hcell.1 0 (by omega)
    obtain rfl : sp = none := by simpa [Addr.add] using World.cell?_spot h0
    have hb : b < W.heap.size := by
      rcases Nat.lt_or_ge b W.heap.size with h' | h'
      · exact h'
      · simp [Addr.add, World.cell?, Array.getElem?_eq_none h'] at h0
    refine ⟨b, o, rfl, hb, fun i x hx j u hu => ?_⟩
    obtain ⟨hi, hx⟩ := List.getElem?_eq_some_iff.1 hx
    rw [htl] at hi
    have h1 := hcell.1 i (by omega)
    have e : (⟨b, o, none⟩ : Addr).add i = ⟨b, o + i, none⟩ := by unfold Addr.add; split <;> simp_all
    rw [e] at h1
    have hj : j = 0 := by
      have := (List.getElem?_eq_some_iff.1 hu).1
      simp only [StK, List.length_cons, List.length_nil] at this
      omega
    subst hj
    obtain rfl : Value.string x = u := by simpa [StK] using hu
    have hk : StK.k = 1 := rfl
    rw [hk, Nat.mul_one, Nat.add_zero, h1, ← hx]
    simp [List.getD, show i < ss.length by omega]
end Fa
end Go.Proofs.YtgpbioljldkmaaaGreat

namespace Go.Proofs.YtgpbioljldkmaaaGreat
open Go.RowKit Go.WideShapes Go.ChangeShapes Go.Deep
namespace No
open Mem
set_option maxRecDepth 100000 in
theorem open_kids_t {H : Type} {enc : TypeId × Value → H} {W : World} {v : Value} {d : DataW H} {p : List MemPlace} {fuel : Nat} (hf : DataW.trod enc Tryz.prog W 0 (fun _ => true) true fuel 24 [v] = some (d, p)) :
    ∃ (A : Option Addr) (L : List Nat) (c : Nat), v = .slice A L.length c ∧ KC W A c L ∧ L.length ≤ c ∧ c ≤ maxLen ∧ ∀ n, n ∈ L → n < 4294967296 := by
  rcases open_ints Tryz.underlying24 Tryz.underlying59 (by kernel_rfl) hf with ⟨hcs, _⟩ | ⟨a, len, cap, zs, hcs, _, hl, hm, hz, _, hcell, hwz⟩
  · obtain rfl : v = _ := by simpa using hcs
    exact ⟨none, [], 0, rfl, RC.nil _ _ _, Nat.le_refl _, Nat.zero_le _, fun n hn => by cases hn⟩
  · obtain rfl : v = _ := by simpa using hcs
    simp only [if_true] at hz
    have htl : (zs.take len).length = len := by simp; omega
    have hnat : ∀ z, z ∈ zs → ∃ n : Nat, z = (n : Int) ∧ n < 4294967296 := fun z hz' => Args.nat_of_u32 (hwz z hz')
    refine ⟨some a, (zs.take len).map Int.toNat, cap, by rw [List.length_map, htl], ⟨fun hpos => ?_, by rw [List.length_map, htl]; exact hl⟩, by rw [List.length_map, htl]; exact hl, hm, fun n hn => ?_⟩
    · rw [List.length_map, htl] at hpos
      obtain ⟨b, o, sp⟩ := a
      have h0 := hcell 0 (by omega)
      obtain rfl : sp = none := by simpa [Addr.add] using World.cell?_spot h0
      have hb : b < W.heap.size := by
        rcases Nat.lt_or_ge b W.heap.size with h' | h'
        · exact h'
        · simp [Addr.add, World.cell?, Array.getElem?_eq_none h'] at h0
      refine ⟨b, o, rfl, hb, fun i x hx j u hu => ?_⟩
      rw [List.getElem?_map, Option.map_eq_some_iff] at hx
      obtain ⟨z, hx, rfl⟩ := hx
      obtain ⟨hi, hx⟩ := List.getElem?_eq_some_iff.1 hx
      rw [htl] at hi
      have h1 := hcell i (by omega)
      have e : (⟨b, o, none⟩ : Addr).add i = ⟨b, o + i, none⟩ := by unfold Addr.add; split <;> simp_all
      rw [e] at h1
      have hj : j = 0 := by
        have := (List.getElem?_eq_some_iff.1 hu).1
        simp only [KdK, List.length_cons, List.length_nil] at this
        omega
      subst hj
      rw [List.getElem_take] at hx
      obtain ⟨n, hn, -⟩ := hnat z (by rw [← hx]; exact List.getElem_mem _)
      obtain rfl : Value.int .u32 (z.toNat : Int) = u := by simpa [KdK] using hu
      have hk : KdK.k = 1 := rfl
      rw [hk, Nat.mul_one, Nat.add_zero, h1]
      have e2 : zs.getD i 0 = z := by simp [List.getD, show i < zs.length by omega, hx]
      first | rw [e2, hn]; rfl | (simp [List.getD, show i < zs.length by omega, hx, hn])
    · obtain ⟨z, hz', rfl⟩ := List.mem_map.1 hn
      obtain ⟨n, rfl, hlt⟩ := hnat z (List.mem_of_mem_take hz')
      simpa using hlt
/-- what an argument's node keeps: lists that memory has room for, values that memory reaches -/
structure NdOk (n : Nd) : Prop where
  lv : -9223372036854775808 ≤ n.lv ∧ n.lv ≤ 9223372036854775807
  kids : n.kids.length ≤ maxLen
  piv : n.piv.length ≤ maxLen
  buf : n.buf.length ≤ maxLen
  prs : n.prs.length ≤ maxLen
  kid : ∀ k, k ∈ n.kids → k < 4294967296
  val : ∀ m, m ∈ n.prs → m.2.size ≤ reachBytes
theorem array5 {α : Type} {cs : Array α} (h : cs.size = 5) : ∃ c0 c1 c2 c3 c4, cs = #[c0, c1, c2, c3, c4] := by
  obtain ⟨l⟩ := cs
  match l, h with
  | [c0, c1, c2, c3, c4], _ => exact ⟨c0, c1, c2, c3, c4, rfl⟩
theorem node_one : oneCellFields Tryz.prog (Tryz.prog.fieldsOf 29) = true := by kernel_rfl
set_option maxRecDepth 100000 in
theorem open_node {H : Type} {enc : TypeId × Value → H} {W : World} {v : Value} {d : DataW H} {p : List MemPlace} {r : Reach} {b0 : Nat} (hv : Value.okWide Tryz.prog W r b0 29 v) (h : DataW.Trod enc Tryz.prog W 0 (fun _ => true) true 29 v d p) (hw : ∀ n ∈ d.weights Tryz.prog 29, n ≤ reachBytes) :
    ∃ (n : Nd) (a : At), v = .agg (ndCs n a) ∧ NdIn W n a ∧ NdOk n := by
  have hu : Tryz.prog.underlying 29 = some (.struct (Tryz.prog.fieldsOf 29)) := by kernel_rfl
  obtain ⟨cs, rfl, hsz⟩ := okWide_struct hu hv
  have h5 : Tryz.prog.cellsOf 29 = 5 := by kernel_rfl
  rw [h5] at hsz
  obtain ⟨fuel, hf⟩ := h
  obtain ⟨ys, n', _, hD, hlen, hyl, hfl⟩ := DataW.trod_struct hu hf
  have hsz2 : (Tryz.prog.fieldsOf 29).size = 5 := by kernel_rfl
  have each : ∀ (j : Nat) (u : Value) (T : TypeId), cs[j]? = some u → ((Tryz.prog.fieldsOf 29)[j]?.map fun f => f.type) = some T → ∃ y : DataW H × List MemPlace, DataW.trod enc Tryz.prog W 0 (fun _ => true) true n' T [u] = some y ∧ ∀ k ∈ y.1.weights Tryz.prog T, k ≤ reachBytes := fun j u T hj hT => by
    rw [Option.map_eq_some_iff] at hT
    obtain ⟨f, hfj, rfl⟩ := hT
    obtain ⟨ho, hk⟩ := hone_of node_one j f hfj
    have h1 := hfl j f hfj
    rw [ho, hk] at h1
    have hu1 : ((Value.agg cs).cells.toList.drop j).take 1 = [u] := by
      simp only [Value.cells]
      have hl : cs.toList[j]? = some u := by simpa using hj
      rw [List.getElem?_eq_some_iff] at hl
      obtain ⟨h2, h3⟩ := hl
      rw [List.drop_eq_getElem_cons h2, h3]
      rfl
    rw [hu1] at h1
    have hj' : j < ys.length := by
      rw [hyl]
      exact (Array.getElem?_eq_some_iff.1 hfj).1
    rw [List.getElem?_eq_getElem hj'] at h1
    refine ⟨_, h1, fun k hk => hw k ?_⟩
    simp only [Prod.mk.injEq] at hD
    rw [hD.1]
    simp only [DataW.weights, hu]
    refine Args.w_each (j := j) (t := f.type) (d := (ys[j]'hj').1) ?_ ?_ k hk
    · rw [List.getElem?_map, Array.getElem?_toList, hfj]; rfl
    · rw [List.getElem?_map, List.getElem?_eq_getElem hj']; rfl
  obtain ⟨c0, c1, c2, c3, c4, rfl⟩ := array5 hsz
  obtain ⟨⟨y0, q0⟩, k0, -⟩ := each 0 c0 3 rfl (by decide +kernel)
  obtain ⟨⟨y1, q1⟩, k1, -⟩ := each 1 c1 24 rfl (by decide +kernel)
  obtain ⟨⟨y2, q2⟩, k2, -⟩ := each 2 c2 25 rfl (by decide +kernel)
  obtain ⟨⟨y3, q3⟩, k3, -⟩ := each 3 c3 26 rfl (by decide +kernel)
  obtain ⟨⟨y4, q4⟩, k4, w4⟩ := each 4 c4 27 rfl (by decide +kernel)
  obtain ⟨z, hz, -, hwf⟩ := DataW.trod_int Tryz.underlying3 k0
  obtain rfl : c0 = _ := by simpa using hz
  obtain ⟨kA, K, kc, rfl, hK, lK, mK, bK⟩ := open_kids_t k1
  obtain ⟨pA, P, pc, rfl, hP, lP, mP⟩ := Fa.open_strs_t k2
  obtain ⟨bA, B, bc, rfl, hB, lB, mB⟩ := Bu.open_msgs_t k3
  obtain ⟨qA, Q, qc, rfl, hQ, lQ, mQ, wQ⟩ := Lf.open_prs_t k4
  exact ⟨⟨z, K, P, B, Q⟩, ⟨kA, kc, pA, pc, bA, bc, qA, qc⟩, rfl, ⟨hK, hP, hB, hQ⟩, ⟨Args.i64_bounds hwf, Nat.le_trans lK mK, Nat.le_trans lP mP, Nat.le_trans lB mB, Nat.le_trans lQ mQ, bK, fun m hm => w4 _ (wQ m hm).2⟩⟩
end No
end Go.Proofs.YtgpbioljldkmaaaGreat

namespace Go.Proofs.YtgpbioljldkmaaaGreat
open Go.RowKit
namespace No
open Mem Lx Bu Lf Fa
/-- a node that is not too much for a statement -/
structure Fit (n : Nd) : Prop where
  kids : n.kids.length ≤ 80
  piv : n.piv.length ≤ 80
  buf : n.buf.length ≤ 150
  prs : n.prs.length ≤ 150
  pk : ∀ p, p ∈ n.piv → p.size ≤ 200
  bk : ∀ m, m ∈ n.buf → m.1.size ≤ 200
  qk : ∀ m, m ∈ n.prs → m.1.size ≤ 200
set_option maxRecDepth 100000 in
set_option maxHeartbeats 4000000 in
theorem Great_any {W : World} {n : Nd} {a : At} (h : NdIn W n a) (hok : NdOk n) : Calls Tryz.prog 7 #[.agg (ndCs n a)] W fun e w' => (∃ v : Bool, e = .returned (.bool v) ∧ (v = false ↔ Fit n)) ∧ Below W.heap.size W w' := by
  obtain ⟨P, hP⟩ : ∃ P : Prop, P = Fit n := ⟨_, rfl⟩
  have HP : Hid (P → Fit n) := fun h => by rw [hP] at h; exact h
  have HQ : Hid (Fit n → P) := fun h => by rw [hP]; exact h
  rw [← hP]
  clear hP
  obtain ⟨lv, K, L, B, Q⟩ := n
  obtain ⟨kA, kc, pA, pc, bA, bc, qA, qc⟩ := a
  have h2 := hok.kids
  have h3 := hok.piv
  have h4 := hok.buf
  have h5 := hok.prs
  have HL : Hid (SL W pA L) := h.piv.1
  have HB : Hid (RdK MgK W bA B) := h.buf.1
  have HR : Hid (PL W qA Q) := h.prs.1
  unfold ndCs
  simp only at *
  unfold maxLen at h2 h3 h4 h5
  generalize hkn : K.length = kn at *
  generalize hpn : L.length = pn at *
  generalize hbn : B.length = bn at *
  generalize hqn : Q.length = qn at *
  have HKN := Lib.hid hkn
  have HPN := Lib.hid hpn
  have HBN := Lib.hid hbn
  have HQN := Lib.hid hqn
  clear h hok hkn hpn hbn hqn
  go_enter Tryz.func7, Tryz.ntmps7
  go_upto_region 1 with fail
  have hx := heap_alloc_new W (.cells #[.int .i64 lv, .slice kA kn kc, .slice pA pn pc, .slice bA bn bc, .slice qA qn qc] 29)
  have hb0 : Below W.heap.size W (W.alloc (.cells #[.int .i64 lv, .slice kA kn kc, .slice pA pn pc, .slice bA bn bc, .slice qA qn qc] 29)) := (Below.refl _ _).alloc (Nat.le_refl _) _
  generalize W.alloc (.cells #[.int .i64 lv, .slice kA kn kc, .slice pA pn pc, .slice bA bn bc, .slice qA qn qc] 29) = w1 at *
  have HW := Lib.hid hb0
  obtain ⟨g, hg⟩ : ∃ g, g = W.heap.size := ⟨_, rfl⟩
  simp only [← hg]
  rw [← hg] at hx
  obtain ⟨d0, d1, d2, d3, d4⟩ := box5 hx
  clear hx hb0 hg d0
  by_cases e0 : kn ≤ 80
  case neg =>
    have hd : (80 : Int) < (kn : Int) := by omega
    have HNO : Hid (¬ P) := fun h => e0 (by rw [← HKN.out]; exact (HP.out h).kids)
    clear e0
    go_wp2_with fail
    go_ret
    exact ⟨⟨true, rfl, (fun h => by cases h), fun h => absurd h HNO.out⟩, HW.out⟩
  have n0 : decide ((80 : Int) < (kn : Int)) = false := by simp; omega
  by_cases e1 : pn ≤ 80
  case neg =>
    have hd : (80 : Int) < (pn : Int) := by omega
    have HNO : Hid (¬ P) := fun h => e1 (by rw [← HPN.out]; exact (HP.out h).piv)
    clear e1
    go_wp2_with fail
    go_ret
    exact ⟨⟨true, rfl, (fun h => by cases h), fun h => absurd h HNO.out⟩, HW.out⟩
  have n1 : decide ((80 : Int) < (pn : Int)) = false := by simp; omega
  by_cases e2 : bn ≤ 150
  case neg =>
    have hd : (150 : Int) < (bn : Int) := by omega
    have HNO : Hid (¬ P) := fun h => e2 (by rw [← HBN.out]; exact (HP.out h).buf)
    clear e2
    go_wp2_with fail
    go_ret
    exact ⟨⟨true, rfl, (fun h => by cases h), fun h => absurd h HNO.out⟩, HW.out⟩
  have n2 : decide ((150 : Int) < (bn : Int)) = false := by simp; omega
  by_cases e3 : qn ≤ 150
  case neg =>
    have hd : (150 : Int) < (qn : Int) := by omega
    have HNO : Hid (¬ P) := fun h => e3 (by rw [← HQN.out]; exact (HP.out h).prs)
    clear e3
    go_wp2_with fail
    go_ret
    exact ⟨⟨true, rfl, (fun h => by cases h), fun h => absurd h HNO.out⟩, HW.out⟩
  have n3 : decide ((150 : Int) < (qn : Int)) = false := by simp; omega
  have HE : Hid (kn ≤ 80 ∧ pn ≤ 80 ∧ bn ≤ 150 ∧ qn ≤ 150) := ⟨e0, e1, e2, e3⟩
  clear e0 e1 e2 e3
  go_upto_block 0 with fail
  clear n0 n1 n2 n3
  go_cut [] (fun wx => Hid (∀ y, y ∈ L → y.size ≤ 200) ∧ w1 = wx)
  case first =>
    go_wp2_with fail
    go_loopg [3] pn (fun gk iv wx => ∃ j : Nat, j ≤ pn ∧ gk = pn - j ∧ iv = .int .i64 (j : Int) ∧ Hid (∀ (i : Nat) (y : ByteArray), i < j → L[i]? = some y → y.size ≤ 200) ∧ w1 = wx)
    case atStart => exact ⟨0, Nat.zero_le _, rfl, rfl, fun i x hi => by omega, rfl⟩
    case round =>
      obtain ⟨j, hj, rfl, rfl, HJ, rfl⟩ := hrel
      by_cases hlt2 : j < pn
      · have hjL : j < L.length := by rw [HPN.out]; exact hlt2
        obtain ⟨x, hxx⟩ : ∃ x, x = L[j] := ⟨_, rfl⟩
        have hx' := nat_lenS hjL
        rw [← hxx] at hx'
        obtain ⟨b, o, e, -, c0⟩ := RdK.str (HL.out.kept HW.out) hx'
        subst e
        have HXX := Lib.hid hx'
        have hw3 : IntKind.i64.wrap ((j : Int) + 1) = ((j + 1 : Nat) : Int) := by rw [IntKind.wrap_i64]; omega
        clear hxx hx' hjL
        by_cases hz : x.size ≤ 200
        · have HJ2 : Hid (∀ (i : Nat) (y : ByteArray), i < j + 1 → L[i]? = some y → y.size ≤ 200) := fun i y hi hy => by
            by_cases e : i = j
            · subst e
              rw [HXX.out] at hy
              cases hy
              exact hz
            · exact HJ.out i y (by omega) hy
          have hd : decide (200 < (x.size : Int)) = false := by simp; omega
          clear hz
          go_wp2_with fail
          go_roundg (pn - (j + 1))
          case measure => omega
          case rel => exact ⟨j + 1, hlt2, rfl, by go_num, HJ2, rfl⟩
        · have hd : (200 : Int) < (x.size : Int) := by omega
          have HNO : Hid (¬ P) := fun h => hz ((HP.out h).pk x (List.mem_of_getElem? HXX.out))
          clear hz
          go_wp2_with fail
          go_ret
          exact ⟨⟨true, rfl, (fun h => by cases h), fun h => absurd h HNO.out⟩, HW.out⟩
      · have HZ : Hid (∀ y, y ∈ L → y.size ≤ 200) := fun x hx => by
          obtain ⟨i, hi⟩ := List.getElem?_of_mem hx
          have := (List.getElem?_eq_some_iff.1 hi).1
          rw [HPN.out] at this
          exact HJ.out i x (by omega) hi
        obtain rfl : j = pn := by omega
        clear hlt2
        go_wp2_with fail
        go_meet
        exact ⟨HZ, rfl⟩
  case rest =>
  obtain ⟨Hx0, rfl⟩ := hcut
  go_upto_block 2 with fail
  skip
  go_cut [] (fun wx => Hid (∀ y, y ∈ B → y.1.size ≤ 200) ∧ w1 = wx)
  case first =>
    go_wp2_with fail
    go_loopg [4] bn (fun gk iv wx => ∃ j : Nat, j ≤ bn ∧ gk = bn - j ∧ iv = .int .i64 (j : Int) ∧ Hid (∀ (i : Nat) (y : Mg), i < j → B[i]? = some y → y.1.size ≤ 200) ∧ w1 = wx)
    case atStart => exact ⟨0, Nat.zero_le _, rfl, rfl, fun i x hi => by omega, rfl⟩
    case round =>
      obtain ⟨j, hj, rfl, rfl, HJ, rfl⟩ := hrel
      by_cases hlt2 : j < bn
      · have hjL : j < B.length := by rw [HBN.out]; exact hlt2
        obtain ⟨x, hxx⟩ : ∃ x, x = B[j] := ⟨_, rfl⟩
        have hx' := nat_len hjL
        rw [← hxx] at hx'
        obtain ⟨b, o, e, -, c0, -, -⟩ := RdK.msg (HB.out.kept HW.out) hx'
        subst e
        have HXX := Lib.hid hx'
        have hw3 : IntKind.i64.wrap ((j : Int) + 1) = ((j + 1 : Nat) : Int) := by rw [IntKind.wrap_i64]; omega
        clear hxx hx' hjL
        by_cases hz : x.1.size ≤ 200
        · have HJ2 : Hid (∀ (i : Nat) (y : Mg), i < j + 1 → B[i]? = some y → y.1.size ≤ 200) := fun i y hi hy => by
            by_cases e : i = j
            · subst e
              rw [HXX.out] at hy
              cases hy
              exact hz
            · exact HJ.out i y (by omega) hy
          have hd : decide (200 < (x.1.size : Int)) = false := by simp; omega
          clear hz
          go_wp2_with fail
          go_roundg (bn - (j + 1))
          case measure => omega
          case rel => exact ⟨j + 1, hlt2, rfl, by go_num, HJ2, rfl⟩
        · have hd : (200 : Int) < (x.1.size : Int) := by omega
          have HNO : Hid (¬ P) := fun h => hz ((HP.out h).bk x (List.mem_of_getElem? HXX.out))
          clear hz
          go_wp2_with fail
          go_ret
          exact ⟨⟨true, rfl, (fun h => by cases h), fun h => absurd h HNO.out⟩, HW.out⟩
      · have HZ : Hid (∀ y, y ∈ B → y.1.size ≤ 200) := fun x hx => by
          obtain ⟨i, hi⟩ := List.getElem?_of_mem hx
          have := (List.getElem?_eq_some_iff.1 hi).1
          rw [HBN.out] at this
          exact HJ.out i x (by omega) hi
        obtain rfl : j = bn := by omega
        clear hlt2
        go_wp2_with fail
        go_meet
        exact ⟨HZ, rfl⟩
  case rest =>
  obtain ⟨Hx1, rfl⟩ := hcut
  go_upto_block 4 with fail
  skip
  go_cut [] (fun wx => Hid (∀ y, y ∈ Q → y.1.size ≤ 200) ∧ w1 = wx)
  case first =>
    go_wp2_with fail
    go_loopg [5] qn (fun gk iv wx => ∃ j : Nat, j ≤ qn ∧ gk = qn - j ∧ iv = .int .i64 (j : Int) ∧ Hid (∀ (i : Nat) (y : Pr), i < j → Q[i]? = some y → y.1.size ≤ 200) ∧ w1 = wx)
    case atStart => exact ⟨0, Nat.zero_le _, rfl, rfl, fun i x hi => by omega, rfl⟩
    case round =>
      obtain ⟨j, hj, rfl, rfl, HJ, rfl⟩ := hrel
      by_cases hlt2 : j < qn
      · have hjL : j < Q.length := by rw [HQN.out]; exact hlt2
        obtain ⟨x, hxx⟩ : ∃ x, x = Q[j] := ⟨_, rfl⟩
        have hx' := nat_len hjL
        rw [← hxx] at hx'
        obtain ⟨b, o, e, -, c0, -⟩ := RdK.pair (HR.out.kept HW.out) hx'
        subst e
        have HXX := Lib.hid hx'
        have hw3 : IntKind.i64.wrap ((j : Int) + 1) = ((j + 1 : Nat) : Int) := by rw [IntKind.wrap_i64]; omega
        clear hxx hx' hjL
        by_cases hz : x.1.size ≤ 200
        · have HJ2 : Hid (∀ (i : Nat) (y : Pr), i < j + 1 → Q[i]? = some y → y.1.size ≤ 200) := fun i y hi hy => by
            by_cases e : i = j
            · subst e
              rw [HXX.out] at hy
              cases hy
              exact hz
            · exact HJ.out i y (by omega) hy
          have hd : decide (200 < (x.1.size : Int)) = false := by simp; omega
          clear hz
          go_wp2_with fail
          go_roundg (qn - (j + 1))
          case measure => omega
          case rel => exact ⟨j + 1, hlt2, rfl, by go_num, HJ2, rfl⟩
        · have hd : (200 : Int) < (x.1.size : Int) := by omega
          have HNO : Hid (¬ P) := fun h => hz ((HP.out h).qk x (List.mem_of_getElem? HXX.out))
          clear hz
          go_wp2_with fail
          go_ret
          exact ⟨⟨true, rfl, (fun h => by cases h), fun h => absurd h HNO.out⟩, HW.out⟩
      · have HZ : Hid (∀ y, y ∈ Q → y.1.size ≤ 200) := fun x hx => by
          obtain ⟨i, hi⟩ := List.getElem?_of_mem hx
          have := (List.getElem?_eq_some_iff.1 hi).1
          rw [HQN.out] at this
          exact HJ.out i x (by omega) hi
        obtain rfl : j = qn := by omega
        clear hlt2
        go_wp2_with fail
        go_meet
        exact ⟨HZ, rfl⟩
  case rest =>
  obtain ⟨Hx2, rfl⟩ := hcut
  have HT : Hid P := HQ.out ⟨by rw [HKN.out]; exact HE.out.1, by rw [HPN.out]; exact HE.out.2.1, by rw [HBN.out]; exact HE.out.2.2.1, by rw [HQN.out]; exact HE.out.2.2.2, Hx0.out, Hx1.out, Hx2.out⟩
  go_wp2_with fail
  go_ret
  exact ⟨⟨false, rfl, (fun _ => HT.out), fun _ => rfl⟩, HW.out⟩
end No
end Go.Proofs.YtgpbioljldkmaaaGreat

namespace Go.Proofs.YtgpbioljldkmaaaGreat
open Go.RowKit
namespace No
open Mem Lx Bu Lf Fa
set_option maxRecDepth 100000 in
set_option maxHeartbeats 2000000 in
theorem RKey_any (c : Cfg) (key : ByteArray) (W : World) : Calls Tryz.prog 77 #[.agg (cfCs c), .string key] W fun e w' => e = .returned (.bool (keyB c key)) ∧ Below W.heap.size W w' := by
  have HP := Lib.hid (show keyB c key = (decide (1 ≤ (key.size : Int)) && decide ((key.size : Int) ≤ c.key)) from rfl)
  generalize keyB c key = v at *
  unfold cfCs
  obtain ⟨cB, cY, cF, cN, cU, cL, cK, cV⟩ := c
  simp only at *
  by_cases h1 : 1 ≤ (key.size : Int)
  · have HR : Hid (v = decide ((key.size : Int) ≤ cK)) := Lib.hid (by rw [HP.out]; simp [h1])
    clear HP
    go_enter Tryz.func77, Tryz.ntmps77
    go_wp2_with fail
    go_ret
    exact ⟨ret_bool HR.out.symm, (Below.refl _ _).alloc (Nat.le_refl _) _⟩
  · have HR : Hid (v = false) := Lib.hid (by rw [HP.out]; simp [h1])
    have h2 : decide (1 ≤ (key.size : Int)) = false := by simpa using h1
    clear HP h1
    go_enter Tryz.func77, Tryz.ntmps77
    go_wp2_with fail
    go_ret
    exact ⟨ret_bool HR.out.symm, (Below.refl _ _).alloc (Nat.le_refl _) _⟩

set_option maxRecDepth 100000 in
set_option maxHeartbeats 8000000 in
theorem Router_sz {W : World} (c : Cfg) (lo hi : ByteArray) (top : Bool) {n : Nd} {a : At} (h : NdIn W n a) (hf : Sz n) (hlo : lo.size ≤ maxLen) : Calls Tryz.prog 54 #[.agg (cfCs c), spanV lo hi top, .agg (ndCs n a)] W fun e w' => (∃ v : Bool, e = .returned (.bool v) ∧ (v = true ↔ OuterP c lo hi top n)) ∧ Below W.heap.size W w' := by
  obtain ⟨P, hP⟩ : ∃ P : Prop, P = OuterP c lo hi top n := ⟨_, rfl⟩
  have HP : Hid (P → OuterP c lo hi top n) := fun h => by rw [hP] at h; exact h
  have HQ : Hid (OuterP c lo hi top n → P) := fun h => by rw [hP]; exact h
  rw [← hP]
  clear hP
  have cK := fun (k : ByteArray) (w : World) => Lib.hid (RKey_any c k w)
  obtain ⟨lv, K, L, B, Q⟩ := n
  obtain ⟨kA, kc, pA, pc, bA, bc, qA, qc⟩ := a
  have l1 := hf.kl
  have l2 := hf.pl
  have l3 := hf.bl
  have l4 := hf.ql
  have HKI : Hid (KL W kA K) := h.kids.1
  have HPI : Hid (SL W pA L) := h.piv.1
  have HBU : Hid (RdK MgK W bA B) := h.buf.1
  have HPR : Hid (PL W qA Q) := h.prs.1
  have HSK : Hid (∀ p, p ∈ L → p.size ≤ maxLen) := hf.piv
  have HSB : Hid (∀ m, m ∈ B → m.1.size ≤ maxLen) := hf.buf
  have HSQ : Hid (∀ m, m ∈ Q → m.1.size ≤ maxLen) := hf.prs
  have cI := fun (k : ByteArray) (w : World) (hk : k.size ≤ maxLen) => Lib.hid (RIn_any lo hi top k w hlo hk)
  have cR := fun (w : World) (hb : Below W.heap.size W w) => Lib.hid (Lf.RRight_any (c := qc) (HPR.out.kept hb) HSQ.out (Nat.le_trans l4 (by decide)))
  obtain ⟨cB, cY, cF, cN, cU, cL, cKy, cV⟩ := c
  unfold ndCs cfCs
  unfold cfCs at cK
  simp only at *
  generalize hkn : K.length = kn at *
  generalize hpn : L.length = pn at *
  generalize hbn : B.length = bn at *
  generalize hqn : Q.length = qn at *
  have HKN := Lib.hid hkn
  have HPN := Lib.hid hpn
  have HBN := Lib.hid hbn
  have HQN := Lib.hid hqn
  clear h hf hkn hpn hbn hqn hlo
  go_enter Tryz.func54, Tryz.ntmps54
  go_upto_region 1 with fail
  have HB0 := Lib.hid (B3.new W (.cells #[.int .i64 cB, .int .i64 cY, .int .i64 cF, .int .i64 cN, .int .i64 cU, .int .i64 cL, .int .i64 cKy, .int .i64 cV] 23) (.cells #[.string lo, .string hi, .bool top] 66) (.cells #[.int .i64 lv, .slice kA kn kc, .slice pA pn pc, .slice bA bn bc, .slice qA qn qc] 29))
  generalize ((W.alloc (.cells #[.int .i64 cB, .int .i64 cY, .int .i64 cF, .int .i64 cN, .int .i64 cU, .int .i64 cL, .int .i64 cKy, .int .i64 cV] 23)).alloc (.cells #[.string lo, .string hi, .bool top] 66)).alloc (.cells #[.int .i64 lv, .slice kA kn kc, .slice pA pn pc, .slice bA bn bc, .slice qA qn qc] 29) = w1 at *
  obtain ⟨g, hg⟩ : ∃ g, g = W.heap.size := ⟨_, rfl⟩
  rw [← hg] at HB0
  simp only [← hg]
  clear hg
  go_upto_block 0 with fail
  go_cut [] (fun wx => Hid (∀ p, p ∈ Q → PrOk ⟨cB, cY, cF, cN, cU, cL, cKy, cV⟩ lo hi top p) ∧ Hid (B3 W g (.cells #[.int .i64 cB, .int .i64 cY, .int .i64 cF, .int .i64 cN, .int .i64 cU, .int .i64 cL, .int .i64 cKy, .int .i64 cV] 23) (.cells #[.string lo, .string hi, .bool top] 66) (.cells #[.int .i64 lv, .slice kA kn kc, .slice pA pn pc, .slice bA bn bc, .slice qA qn qc] 29) wx))
  case first =>
    go_wp2_with fail
    go_loopg [7] qn (fun gk iv wx => ∃ j : Nat, j ≤ qn ∧ gk = qn - j ∧ iv = .int .i64 (j : Int) ∧ Hid (∀ (i : Nat) (y : Pr), i < j → Q[i]? = some y → PrOk ⟨cB, cY, cF, cN, cU, cL, cKy, cV⟩ lo hi top y) ∧ Hid (B3 W g (.cells #[.int .i64 cB, .int .i64 cY, .int .i64 cF, .int .i64 cN, .int .i64 cU, .int .i64 cL, .int .i64 cKy, .int .i64 cV] 23) (.cells #[.string lo, .string hi, .bool top] 66) (.cells #[.int .i64 lv, .slice kA kn kc, .slice pA pn pc, .slice bA bn bc, .slice qA qn qc] 29) wx))
    case atStart => exact ⟨0, Nat.zero_le _, rfl, rfl, fun i x hi => by omega, HB0⟩
    case round =>
      clear HB0
      obtain ⟨j, hj, rfl, rfl, HJ, HB⟩ := hrel
      obtain ⟨d0, d1, d2, d3, d4⟩ := box5 HB.out.z
      by_cases hlt : j < qn
      · have hjL : j < Q.length := by rw [HQN.out]; exact hlt
        obtain ⟨x, hxx⟩ : ∃ x, x = Q[j] := ⟨_, rfl⟩
        have hx' := nat_len hjL
        rw [← hxx] at hx'
        obtain ⟨b, o, e, -, c0, c1⟩ := RdK.pair (HPR.out.kept HB.out.below) hx'
        subst e
        have HXX := Lib.hid hx'
        have hsz := HSQ.out x (List.mem_of_getElem? hx')
        have hw3 : IntKind.i64.wrap ((j : Int) + 1) = ((j + 1 : Nat) : Int) := by rw [IntKind.wrap_i64]; omega
        clear hxx hx' hjL
        go_upto_region 5 with fail
        have hba : Below wr.heap.size wr (wr.alloc (.cells #[.string x.1, .string x.2] 51)) := (Below.refl _ _).alloc (Nat.le_refl _) _
        have hnew := heap_alloc_new wr (.cells #[.string x.1, .string x.2] 51)
        have HB2 := Lib.hid (HB.out.kept hba)
        generalize wr.alloc (.cells #[.string x.1, .string x.2] 51) = w2 at *
        generalize wr.heap.size = u at *
        have HU := Lib.hid hnew
        clear hba hnew HB d0 d1 d2 d3 d4 c0 c1
        obtain ⟨f0, f1⟩ : w2.cell? ⟨u, 0, none⟩ = some (.string x.1) ∧ w2.cell? ⟨u, 1, none⟩ = some (.string x.2) := by simp [World.cell?, HU.out]
        obtain ⟨e0, e1, e2⟩ := box3 HB2.out.y
        obtain ⟨g0, g1, g2, g3, g4, g5, g6, g7⟩ := box8 HB2.out.x
        have HOK : Hid (keyB ⟨cB, cY, cF, cN, cU, cL, cKy, cV⟩ x.1 = true → inB lo hi top x.1 = true → (x.2.size : Int) ≤ cV → PrOk ⟨cB, cY, cF, cN, cU, cL, cKy, cV⟩ lo hi top x) := fun a b c => ⟨a, b, c⟩
        have HNK : Hid (keyB ⟨cB, cY, cF, cN, cU, cL, cKy, cV⟩ x.1 = false → ¬ P) := fun e hp => by
          have := ((HP.out hp).each x (List.mem_of_getElem? HXX.out)).1
          rw [e] at this
          cases this
        have HNI : Hid (inB lo hi top x.1 = false → ¬ P) := fun e hp => by
          have := ((HP.out hp).each x (List.mem_of_getElem? HXX.out)).2.1
          rw [e] at this
          cases this
        have HNV : Hid (¬ (x.2.size : Int) ≤ cV → ¬ P) := fun e hp => e ((HP.out hp).each x (List.mem_of_getElem? HXX.out)).2.2
        have cX := fun w => cK x.1 w
        have cY' := fun w => cI x.1 w hsz
        generalize keyB ⟨cB, cY, cF, cN, cU, cL, cKy, cV⟩ x.1 = kb at *
        generalize inB lo hi top x.1 = ib at *
        clear hsz
        go_upto_region 5 with fail
        cases kb with
        | false =>
          have HNO := Lib.hid (HNK.out rfl)
          clear HNK HNI HNV HOK
          go_wp2_with (first | (go_at_call 77; refine (cX _).out.mono ?_; rintro e w3 ⟨rfl, hb⟩; replace HU := Lib.hid (kept3 HU.out hb); replace HB2 := Lib.hid (HB2.out.kept hb); clear hb f0 f1 e0 e1 e2 g0 g1 g2 g3 g4 g5 g6 g7; obtain ⟨f0, f1⟩ : w3.cell? ⟨u, 0, none⟩ = some (.string x.1) ∧ w3.cell? ⟨u, 1, none⟩ = some (.string x.2) := (by simp [World.cell?, HU.out]); obtain ⟨e0, e1, e2⟩ := box3 HB2.out.y; obtain ⟨g0, g1, g2, g3, g4, g5, g6, g7⟩ := box8 HB2.out.x) | (go_at_call 78; refine (cY' _).out.mono ?_; rintro e w3 ⟨rfl, hb⟩; replace HU := Lib.hid (kept3 HU.out hb); replace HB2 := Lib.hid (HB2.out.kept hb); clear hb f0 f1 e0 e1 e2 g0 g1 g2 g3 g4 g5 g6 g7; obtain ⟨f0, f1⟩ : w3.cell? ⟨u, 0, none⟩ = some (.string x.1) ∧ w3.cell? ⟨u, 1, none⟩ = some (.string x.2) := (by simp [World.cell?, HU.out]); obtain ⟨e0, e1, e2⟩ := box3 HB2.out.y; obtain ⟨g0, g1, g2, g3, g4, g5, g6, g7⟩ := box8 HB2.out.x))
          go_ret
          exact ⟨⟨false, rfl, (fun h => by cases h), fun h => absurd h HNO.out⟩, HB2.out.below⟩
        | true =>
          cases ib with
          | false =>
            have HNO := Lib.hid (HNI.out rfl)
            clear HNK HNI HNV HOK
            go_wp2_with (first | (go_at_call 77; refine (cX _).out.mono ?_; rintro e w3 ⟨rfl, hb⟩; replace HU := Lib.hid (kept3 HU.out hb); replace HB2 := Lib.hid (HB2.out.kept hb); clear hb f0 f1 e0 e1 e2 g0 g1 g2 g3 g4 g5 g6 g7; obtain ⟨f0, f1⟩ : w3.cell? ⟨u, 0, none⟩ = some (.string x.1) ∧ w3.cell? ⟨u, 1, none⟩ = some (.string x.2) := (by simp [World.cell?, HU.out]); obtain ⟨e0, e1, e2⟩ := box3 HB2.out.y; obtain ⟨g0, g1, g2, g3, g4, g5, g6, g7⟩ := box8 HB2.out.x) | (go_at_call 78; refine (cY' _).out.mono ?_; rintro e w3 ⟨rfl, hb⟩; replace HU := Lib.hid (kept3 HU.out hb); replace HB2 := Lib.hid (HB2.out.kept hb); clear hb f0 f1 e0 e1 e2 g0 g1 g2 g3 g4 g5 g6 g7; obtain ⟨f0, f1⟩ : w3.cell? ⟨u, 0, none⟩ = some (.string x.1) ∧ w3.cell? ⟨u, 1, none⟩ = some (.string x.2) := (by simp [World.cell?, HU.out]); obtain ⟨e0, e1, e2⟩ := box3 HB2.out.y; obtain ⟨g0, g1, g2, g3, g4, g5, g6, g7⟩ := box8 HB2.out.x))
            go_ret
            exact ⟨⟨false, rfl, (fun h => by cases h), fun h => absurd h HNO.out⟩, HB2.out.below⟩
          | true =>
            by_cases hv : (x.2.size : Int) ≤ cV
            · have HJ2 : Hid (∀ (i : Nat) (y : Pr), i < j + 1 → Q[i]? = some y → PrOk ⟨cB, cY, cF, cN, cU, cL, cKy, cV⟩ lo hi top y) := fun i y hi hy => by
                by_cases e : i = j
                · subst e
                  rw [HXX.out] at hy
                  cases hy
                  exact HOK.out rfl rfl hv
                · exact HJ.out i y (by omega) hy
              have hd : decide (cV < (x.2.size : Int)) = false := by simp; omega
              clear hv HNK HNI HNV HOK
              go_wp2_with (first | (go_at_call 77; refine (cX _).out.mono ?_; rintro e w3 ⟨rfl, hb⟩; replace HU := Lib.hid (kept3 HU.out hb); replace HB2 := Lib.hid (HB2.out.kept hb); clear hb f0 f1 e0 e1 e2 g0 g1 g2 g3 g4 g5 g6 g7; obtain ⟨f0, f1⟩ : w3.cell? ⟨u, 0, none⟩ = some (.string x.1) ∧ w3.cell? ⟨u, 1, none⟩ = some (.string x.2) := (by simp [World.cell?, HU.out]); obtain ⟨e0, e1, e2⟩ := box3 HB2.out.y; obtain ⟨g0, g1, g2, g3, g4, g5, g6, g7⟩ := box8 HB2.out.x) | (go_at_call 78; refine (cY' _).out.mono ?_; rintro e w3 ⟨rfl, hb⟩; replace HU := Lib.hid (kept3 HU.out hb); replace HB2 := Lib.hid (HB2.out.kept hb); clear hb f0 f1 e0 e1 e2 g0 g1 g2 g3 g4 g5 g6 g7; obtain ⟨f0, f1⟩ : w3.cell? ⟨u, 0, none⟩ = some (.string x.1) ∧ w3.cell? ⟨u, 1, none⟩ = some (.string x.2) := (by simp [World.cell?, HU.out]); obtain ⟨e0, e1, e2⟩ := box3 HB2.out.y; obtain ⟨g0, g1, g2, g3, g4, g5, g6, g7⟩ := box8 HB2.out.x))
              go_roundg (qn - (j + 1))
              case measure => omega
              case rel => exact ⟨j + 1, hlt, rfl, by go_num, HJ2, HB2⟩
            · have HNO := Lib.hid (HNV.out hv)
              have hd : cV < (x.2.size : Int) := by omega
              clear hv HNK HNI HNV HOK
              go_wp2_with (first | (go_at_call 77; refine (cX _).out.mono ?_; rintro e w3 ⟨rfl, hb⟩; replace HU := Lib.hid (kept3 HU.out hb); replace HB2 := Lib.hid (HB2.out.kept hb); clear hb f0 f1 e0 e1 e2 g0 g1 g2 g3 g4 g5 g6 g7; obtain ⟨f0, f1⟩ : w3.cell? ⟨u, 0, none⟩ = some (.string x.1) ∧ w3.cell? ⟨u, 1, none⟩ = some (.string x.2) := (by simp [World.cell?, HU.out]); obtain ⟨e0, e1, e2⟩ := box3 HB2.out.y; obtain ⟨g0, g1, g2, g3, g4, g5, g6, g7⟩ := box8 HB2.out.x) | (go_at_call 78; refine (cY' _).out.mono ?_; rintro e w3 ⟨rfl, hb⟩; replace HU := Lib.hid (kept3 HU.out hb); replace HB2 := Lib.hid (HB2.out.kept hb); clear hb f0 f1 e0 e1 e2 g0 g1 g2 g3 g4 g5 g6 g7; obtain ⟨f0, f1⟩ : w3.cell? ⟨u, 0, none⟩ = some (.string x.1) ∧ w3.cell? ⟨u, 1, none⟩ = some (.string x.2) := (by simp [World.cell?, HU.out]); obtain ⟨e0, e1, e2⟩ := box3 HB2.out.y; obtain ⟨g0, g1, g2, g3, g4, g5, g6, g7⟩ := box8 HB2.out.x))
              go_ret
              exact ⟨⟨false, rfl, (fun h => by cases h), fun h => absurd h HNO.out⟩, HB2.out.below⟩
      · have HZ : Hid (∀ p, p ∈ Q → PrOk ⟨cB, cY, cF, cN, cU, cL, cKy, cV⟩ lo hi top p) := fun x hx => by
          obtain ⟨i, hi⟩ := List.getElem?_of_mem hx
          have := (List.getElem?_eq_some_iff.1 hi).1
          rw [HQN.out] at this
          exact HJ.out i x (by omega) hi
        obtain rfl : j = qn := by omega
        clear hlt
        go_wp2_with fail
        go_meet
        exact ⟨HZ, HB⟩
  case rest =>
  clear HB0
  obtain ⟨HZ, HB⟩ := hcut
  obtain ⟨d0, d1, d2, d3, d4⟩ := box5 HB.out.z
  obtain ⟨g0, g1, g2, g3, g4, g5, g6, g7⟩ := box8 HB.out.x
  by_cases ekn : kn = 0
  case neg =>
    have hd : ((kn : Int) == 0) = false := by simp; omega
    have HNO : Hid (¬ P) := fun h => ekn (by rw [← HKN.out]; exact (HP.out h).kids)
    clear ekn
    go_wp2_with fail
    go_ret
    exact ⟨⟨false, rfl, (fun h => by cases h), fun h => absurd h HNO.out⟩, HB.out.below⟩
  subst ekn
  by_cases epn : pn = 0
  case neg =>
    have hd : ((pn : Int) == 0) = false := by simp; omega
    have HNO : Hid (¬ P) := fun h => epn (by rw [← HPN.out]; exact (HP.out h).piv)
    clear epn
    go_wp2_with fail
    go_ret
    exact ⟨⟨false, rfl, (fun h => by cases h), fun h => absurd h HNO.out⟩, HB.out.below⟩
  subst epn
  by_cases ebn : bn = 0
  case neg =>
    have hd : ((bn : Int) == 0) = false := by simp; omega
    have HNO : Hid (¬ P) := fun h => ebn (by rw [← HBN.out]; exact (HP.out h).buf)
    clear ebn
    go_wp2_with fail
    go_ret
    exact ⟨⟨false, rfl, (fun h => by cases h), fun h => absurd h HNO.out⟩, HB.out.below⟩
  subst ebn
  by_cases el : (qn : Int) ≤ cL
  case neg =>
    have hd : decide ((qn : Int) ≤ cL) = false := by simpa using el
    have HNO : Hid (¬ P) := fun h => el (by rw [← HQN.out]; exact (HP.out h).few)
    clear el
    go_wp2_with fail
    go_ret
    exact ⟨⟨false, rfl, (fun h => by cases h), fun h => absurd h HNO.out⟩, HB.out.below⟩
  have HFW : Hid ((Q.length : Int) ≤ cL) := Lib.hid (by rw [HQN.out]; exact el)
  have hel : decide ((qn : Int) ≤ cL) = true := by simpa using el
  clear el
  obtain ⟨r, hr⟩ := bool_of (PRise Q)
  have HRR := Lib.hid hr
  clear hr
  have cR2 : Hid (Calls Tryz.prog 79 #[.slice qA qn qc] wc fun e w' => e = .returned (.bool r) ∧ Below wc.heap.size wc w') := (cR _ HB.out.below).out.mono fun e w' ⟨⟨v, he, hv⟩, hb⟩ => ⟨by rw [he, bool_one hv HRR.out], hb⟩
  have HF : Hid (r = true ↔ P) := ⟨fun h => HQ.out ⟨HZ.out, HKN.out, HPN.out, HBN.out, HFW.out, HRR.out.1 h⟩, fun h => HRR.out.2 (HP.out h).rise⟩
  clear cR
  go_wp2_with (go_at_call 79; refine cR2.out.mono ?_; rintro e w3 ⟨rfl, hb⟩; replace HB := Lib.hid (HB.out.kept hb); clear hb)
  go_ret
  exact ⟨⟨r, rfl, HF.out⟩, HB.out.below⟩
end No
end Go.Proofs.YtgpbioljldkmaaaGreat

namespace Go.Proofs.YtgpbioljldkmaaaGreat
open Go.RowKit
namespace Cf

/-- what a loop over pairs, messages or kids has counted -/
def runs (a s : Int) (k : Nat) : Int := a + (k : Int) * s
theorem runs_next (a s : Int) (k : Nat) : runs a s (k + 1) = runs a s k + s := by
  unfold runs
  rw [Int.natCast_add, Int.add_mul]
  simp
  omega
theorem runs_in {a s S A : Int} {k n : Nat} (h0 : 0 ≤ a) (h1 : a ≤ A) (h2 : 0 ≤ s) (h3 : s ≤ S) (hk : k ≤ n) : 0 ≤ runs a s k ∧ runs a s k ≤ A + (n : Int) * S := by
  obtain ⟨p0, p1⟩ := mul_in (a := (k : Int)) (c := s) (A := (n : Int)) (C := S) (by omega) (by omega) h2 h3
  unfold runs
  omega
/-- the kids' part: four each, and a pivot's slot but for the first -/
def kids (ke : Int) (k : Nat) : Int := 8 + 4 * (k : Int) + ((k - 1 : Nat) : Int) * (1 + ke)
theorem kids_next (ke : Int) (k : Nat) : kids ke (k + 1) = kids ke k + 4 + (if k = 0 then 0 else 1 + ke) := by
  unfold kids
  by_cases h : k = 0
  · subst h
    simp
  · obtain ⟨j, rfl⟩ : ∃ j, k = j + 1 := ⟨k - 1, by omega⟩
    rw [if_neg h]
    have e1 : j + 1 + 1 - 1 = j + 1 := rfl
    have e2 : j + 1 - 1 = j := rfl
    rw [e1, e2]
    have e3 : ((j + 1 : Nat) : Int) * (1 + ke) = (j : Int) * (1 + ke) + (1 + ke) := by rw [Int.natCast_add, Int.add_mul]; simp
    rw [e3]
    omega
theorem kids_in {ke : Int} {k : Nat} (h1 : 1 ≤ ke) (h2 : ke ≤ 64) (hk : k ≤ 64) : 0 ≤ kids ke k ∧ kids ke k ≤ 5000 := by
  obtain ⟨p0, p1⟩ := mul_in (a := ((k - 1 : Nat) : Int)) (c := 1 + ke) (A := 64) (C := 65) (by omega) (by omega) (by omega) (by omega)
  unfold kids
  omega
set_option maxRecDepth 100000 in
set_option maxHeartbeats 2000000 in
theorem ROuter_yes (b y fr fa bu le ke va : Int) (W : World) (h : Shape fa bu le ke va) : Calls Tryz.prog 43 #[.agg #[.int .i64 b, .int .i64 y, .int .i64 fr, .int .i64 fa, .int .i64 bu, .int .i64 le, .int .i64 ke, .int .i64 va]] W fun e w' => e = .returned (.int .i64 (out le ke va)) ∧ Below W.heap.size W w' := by
  have cS := fun W => Lib.hid (Sized_yes b y fr fa bu le ke va W h)
  obtain ⟨⟨h1, h1'⟩, ⟨h2, h2'⟩, ⟨h3, h3'⟩, ⟨h4, h4'⟩, h5, h5'⟩ := h
  obtain ⟨n, rfl⟩ : ∃ n : Nat, le = n := ⟨le.toNat, by omega⟩
  have HO : Hid (out n ke va = runs 8 (3 + ke + va) n) := rfl
  have HS : Hid (∀ k, runs 8 (3 + ke + va) (k + 1) = runs 8 (3 + ke + va) k + (3 + ke + va)) := runs_next _ _
  have HI : Hid (∀ k, k ≤ n → 0 ≤ runs 8 (3 + ke + va) k ∧ runs 8 (3 + ke + va) k ≤ 400000) := fun k hk => by
    obtain ⟨i0, i1⟩ := runs_in (a := 8) (s := 3 + ke + va) (S := 323) (A := 8) (k := k) (n := n) (by omega) (by omega) (by omega) (by omega) hk
    omega
  have HZ : Hid (runs 8 (3 + ke + va) 0 = 8) := by unfold Hid runs; simp
  obtain ⟨S, hS⟩ : ∃ S, S = runs 8 (3 + ke + va) := ⟨_, rfl⟩
  rw [← hS] at HO HS HI HZ
  clear hS
  go_enter Tryz.func43, Tryz.ntmps43
  go_upto_region 1 with fail
  have hx := heap_alloc_new W (.cells #[.int .i64 b, .int .i64 y, .int .i64 fr, .int .i64 fa, .int .i64 bu, .int .i64 (n : Int), .int .i64 ke, .int .i64 va] 23)
  have hb1 : Below W.heap.size W (W.alloc (.cells #[.int .i64 b, .int .i64 y, .int .i64 fr, .int .i64 fa, .int .i64 bu, .int .i64 (n : Int), .int .i64 ke, .int .i64 va] 23)) := (Below.refl _ _).alloc (Nat.le_refl _) _
  obtain ⟨g, hg⟩ : ∃ g, g = W.heap.size := ⟨_, rfl⟩
  generalize W.alloc (.cells #[.int .i64 b, .int .i64 y, .int .i64 fr, .int .i64 fa, .int .i64 bu, .int .i64 (n : Int), .int .i64 ke, .int .i64 va] 23) = w1 at *
  rw [← hg] at hx ⊢
  have HX := Lib.hid hx
  have HB := Lib.hid hb1
  obtain ⟨c0, c1, c2, c3, c4, c5, c6, c7⟩ := box8 hx
  clear hx hb1 hg
  go_upto_region 3 with (go_at_call 40; refine (cS _).out.mono ?_; rintro e w2 ⟨rfl, hb⟩; replace HX := Lib.hid (kept8 HX.out hb); replace HB := Lib.hid (bel2 HB.out hb); clear hb)
  clear c0 c1 c2 c3 c4 c5 c6 c7 cS
  obtain ⟨c0, c1, c2, c3, c4, c5, c6, c7⟩ := box8 HX.out
  go_wp2_with fail
  go_loopg [3, 4] n (fun gk nv iv wr => ∃ k : Nat, k ≤ n ∧ gk = n - k ∧ nv = .int .i64 (S k) ∧ iv = .int .i64 (k : Int) ∧ wr = w2)
  case atStart => exact ⟨0, Nat.zero_le _, rfl, by rw [HZ.out], rfl, rfl⟩
  case round =>
    obtain ⟨k, hk, rfl, rfl, rfl, rfl⟩ := hrel
    obtain ⟨i0, i1⟩ := HI.out k hk
    by_cases hlt : k < n
    · obtain ⟨j0, j1⟩ := HI.out (k + 1) hlt
      have hs := HS.out k
      have HN : Hid (S (k + 1) = S k + 3 + ke + va) := by unfold Hid; omega
      rw [hs] at j0 j1
      have hwk : IntKind.i64.wrap ((k : Int) + 1) = ((k + 1 : Nat) : Int) := by rw [IntKind.wrap_i64]; omega
      clear hs
      generalize S k = x at *
      go_wp2_with fail
      go_roundg (n - (k + 1))
      case measure => omega
      case rel => exact ⟨k + 1, hlt, rfl, by rw [HN.out], by go_num, rfl⟩
    · obtain rfl : k = n := by omega
      clear hlt
      go_wp2_with fail
      go_ret
      exact ⟨by rw [HO.out]; rfl, HB.out⟩
set_option maxRecDepth 100000 in
set_option maxHeartbeats 2000000 in
theorem RInner_yes (b y fr fa bu le ke va : Int) (W : World) (h : Shape fa bu le ke va) : Calls Tryz.prog 42 #[.agg #[.int .i64 b, .int .i64 y, .int .i64 fr, .int .i64 fa, .int .i64 bu, .int .i64 le, .int .i64 ke, .int .i64 va]] W fun e w' => e = .returned (.int .i64 (inn fa bu ke va)) ∧ Below W.heap.size W w' := by
  have cS := fun W => Lib.hid (Sized_yes b y fr fa bu le ke va W h)
  obtain ⟨⟨h1, h1'⟩, ⟨h2, h2'⟩, ⟨h3, h3'⟩, ⟨h4, h4'⟩, h5, h5'⟩ := h
  obtain ⟨n, rfl⟩ : ∃ n : Nat, fa = n := ⟨fa.toNat, by omega⟩
  obtain ⟨m, rfl⟩ : ∃ m : Nat, bu = m := ⟨bu.toNat, by omega⟩
  have hn64 : n ≤ 64 := by omega
  have hm512 : m ≤ 512 := by omega
  have HO : Hid (inn n m ke va = runs (kids ke n) (4 + ke + va) m) := by
    unfold Hid inn runs kids
    have : ((n - 1 : Nat) : Int) = (n : Int) - 1 := by omega
    rw [this]
  have HK : Hid (∀ k, kids ke (k + 1) = kids ke k + 4 + (if k = 0 then 0 else 1 + ke)) := kids_next ke
  have HKI : Hid (∀ k, k ≤ n → 0 ≤ kids ke k ∧ kids ke k ≤ 5000) := fun k hk => kids_in (by omega) (by omega) (by omega)
  have HKZ : Hid (kids ke 0 = 8) := by unfold Hid kids; simp
  have HS : Hid (∀ k, runs (kids ke n) (4 + ke + va) (k + 1) = runs (kids ke n) (4 + ke + va) k + (4 + ke + va)) := runs_next _ _
  have HI : Hid (∀ k, k ≤ m → 0 ≤ runs (kids ke n) (4 + ke + va) k ∧ runs (kids ke n) (4 + ke + va) k ≤ 400000) := fun k hk => by
    obtain ⟨q0, q1⟩ := HKI.out n (Nat.le_refl _)
    obtain ⟨i0, i1⟩ := runs_in (a := kids ke n) (s := 4 + ke + va) (S := 324) (A := 5000) (k := k) (n := m) q0 q1 (by omega) (by omega) hk
    omega
  have HZ : Hid (runs (kids ke n) (4 + ke + va) 0 = kids ke n) := by unfold Hid runs; simp
  obtain ⟨S, hS⟩ : ∃ S, S = runs (kids ke n) (4 + ke + va) := ⟨_, rfl⟩
  rw [← hS] at HO HS HI HZ
  obtain ⟨T, hT⟩ : ∃ T, T = kids ke := ⟨_, rfl⟩
  rw [← hT] at HK HKI HKZ HZ
  clear hS hT
  go_enter Tryz.func42, Tryz.ntmps42
  go_upto_region 1 with fail
  have hx := heap_alloc_new W (.cells #[.int .i64 b, .int .i64 y, .int .i64 fr, .int .i64 (n : Int), .int .i64 (m : Int), .int .i64 le, .int .i64 ke, .int .i64 va] 23)
  have hb1 : Below W.heap.size W (W.alloc (.cells #[.int .i64 b, .int .i64 y, .int .i64 fr, .int .i64 (n : Int), .int .i64 (m : Int), .int .i64 le, .int .i64 ke, .int .i64 va] 23)) := (Below.refl _ _).alloc (Nat.le_refl _) _
  obtain ⟨g, hg⟩ : ∃ g, g = W.heap.size := ⟨_, rfl⟩
  generalize W.alloc (.cells #[.int .i64 b, .int .i64 y, .int .i64 fr, .int .i64 (n : Int), .int .i64 (m : Int), .int .i64 le, .int .i64 ke, .int .i64 va] 23) = w1 at *
  rw [← hg] at hx ⊢
  have HX := Lib.hid hx
  have HB := Lib.hid hb1
  obtain ⟨c0, c1, c2, c3, c4, c5, c6, c7⟩ := box8 hx
  clear hx hb1 hg
  go_upto_region 3 with (go_at_call 40; refine (cS _).out.mono ?_; rintro e w2 ⟨rfl, hb⟩; replace HX := Lib.hid (kept8 HX.out hb); replace HB := Lib.hid (bel2 HB.out hb); clear hb)
  clear c0 c1 c2 c3 c4 c5 c6 c7 cS
  obtain ⟨c0, c1, c2, c3, c4, c5, c6, c7⟩ := box8 HX.out
  go_wp2_with fail
  go_loopg [3, 4] n (fun gk nv iv wr => ∃ k : Nat, k ≤ n ∧ gk = n - k ∧ nv = .int .i64 (T k) ∧ iv = .int .i64 (k : Int) ∧ wr = w2)
  case atStart => exact ⟨0, Nat.zero_le _, rfl, by rw [HKZ.out], rfl, rfl⟩
  case round =>
    obtain ⟨k, hk, rfl, rfl, rfl, rfl⟩ := hrel
    obtain ⟨i0, i1⟩ := HKI.out k hk
    by_cases hlt : k < n
    · have hs := HK.out k
      have hwk : IntKind.i64.wrap ((k : Int) + 1) = ((k + 1 : Nat) : Int) := by rw [IntKind.wrap_i64]; omega
      by_cases hk0 : k = 0
      · subst hk0
        rw [if_pos rfl] at hs
        have HN : Hid (T (0 + 1) = T 0 + 4) := by unfold Hid; omega
        have hd : decide ((0 : Int) < ((0 : Nat) : Int)) = false := by simp
        clear hs
        generalize T 0 = x at *
        go_wp2_with fail
        go_roundg (n - (0 + 1))
        case measure => omega
        case rel => exact ⟨0 + 1, hlt, rfl, by rw [HN.out], by go_num, rfl⟩
      · rw [if_neg hk0] at hs
        have HN : Hid (T (k + 1) = T k + 4 + 1 + ke) := by unfold Hid; omega
        have hpos : 0 < k := by omega
        clear hs
        generalize T k = x at *
        go_wp2_with fail
        go_roundg (n - (k + 1))
        case measure => omega
        case rel => exact ⟨k + 1, hlt, rfl, by rw [HN.out], by go_num, rfl⟩
    · obtain rfl : k = n := by omega
      clear hlt i0 i1
      rw [← HZ.out]
      clear HK HKI HKZ HZ
      go_wp2_with fail
      go_loopg [3, 5] m (fun gk nv iv wr2 => ∃ k : Nat, k ≤ m ∧ gk = m - k ∧ nv = .int .i64 (S k) ∧ iv = .int .i64 (k : Int) ∧ wr2 = wr)
      case atStart => exact ⟨0, Nat.zero_le _, rfl, rfl, rfl, rfl⟩
      case round =>
        obtain ⟨k2, hk2, rfl, rfl, rfl, rfl⟩ := hrel
        obtain ⟨i0, i1⟩ := HI.out k2 hk2
        by_cases hlt : k2 < m
        · obtain ⟨j0, j1⟩ := HI.out (k2 + 1) hlt
          have hs := HS.out k2
          have HN : Hid (S (k2 + 1) = S k2 + 4 + ke + va) := by unfold Hid; omega
          rw [hs] at j0 j1
          have hwk : IntKind.i64.wrap ((k2 : Int) + 1) = ((k2 + 1 : Nat) : Int) := by rw [IntKind.wrap_i64]; omega
          clear hs
          generalize S k2 = x at *
          go_wp2_with fail
          go_roundg (m - (k2 + 1))
          case measure => omega
          case rel => exact ⟨k2 + 1, hlt, rfl, by rw [HN.out], by go_num, rfl⟩
        · obtain rfl : k2 = m := by omega
          clear hlt
          go_wp2_with fail
          go_ret
          exact ⟨by rw [HO.out]; rfl, HB.out⟩
end Cf
end Go.Proofs.YtgpbioljldkmaaaGreat

namespace Go.Proofs.YtgpbioljldkmaaaGreat
open Go.RowKit
namespace Mem
/-- append of one struct as an event of a region that draws its order -/
theorem evAt_appendK {α : Type} {K : Kind α} {P : Program} {SS : List Nat} {S : TypeId} {z : Value} {by_ : Nat} (hS : P.underlying S = some (.slice K.T)) (hinfo : (P.info? K.T).map (fun i => (i.zero, i.size, i.bytes)) = some (some z, K.k, by_)) (hz : z.cells.size = K.k) (hby : by_ ≤ 64) (hk : 0 < K.k)
    {w : World} {o : Oper} {a : Act} {V : Value → World → Prop} (s x : Operand)
    (ho : o.op = .call { callee := .builtin .append, args := #[s, x], argTypes := #[S, S] })
    (B : Nat) (A : Option Addr) (n c : Nat) (L : List α) (hs : a.eval s = .slice A n c) (hvn : L.length = n) (h : VK K w B A c L) (xb cx : Nat) (y : α) (hx : a.eval x = .slice (some ⟨xb, 0, none⟩) 1 cx) (hu : w.heap[xb]? = some (.cells (K.cs y).toArray K.T (0, 0))) (hn : n + 1 ≤ 1048576) (hB : B ≤ w.heap.size)
    (hSS : ∀ a, A = some a → a.block ∈ SS) (hh : ∀ A' c' w', AppdK K B w w' A A' c' (L ++ [y]) → V (.slice A' (n + 1) c') w') : Flow.evAt P SS o a w V := by
  subst hvn
  obtain ⟨A', c', w', hrun, hd⟩ := run_appendK hS hinfo hz hby o.type h xb cx y hu hn hk hB
  unfold Flow.evAt execOp
  simp only [ho, resolve, invoke, builtin, Sem.run_bind, Sem.run_pure, Result.andThen_ok, List.map_toArray, List.map_cons, List.map_nil, hs, hx, hrun]
  exact ⟨hh A' c' w' hd, hd.below.os, hd.below.tape, hd.below.output, hd.below.size, fun k hk hn => hd.block k hk fun a ha hak => hn (hak ▸ hSS a ha)⟩
/-- what an append of one struct leaves, told from an earlier world -/
structure AppW {α : Type} (K : Kind α) (B : Nat) (w w' : World) (A A' : Option Addr) (c' : Nat) (L : List α) : Prop where
  vo : VK K w' B A' c' L
  below : Below B w w'
  block : ∀ k, k < w.heap.size → (∀ a, A = some a → a.block ≠ k) → w'.heap[k]? = w.heap[k]?
  row : ∀ a', A' = some a' → (∃ a, A = some a ∧ a'.block = a.block) ∨ w.heap.size ≤ a'.block
theorem AppW.then_ {α : Type} {K : Kind α} {B c' : Nat} {w w' w2 : World} {A A' : Option Addr} {L : List α} (h : AppW K B w w' A A' c' L) (hb : Below w'.heap.size w' w2) (hB : B ≤ w'.heap.size) : AppW K B w w2 A A' c' L :=
  ⟨h.vo.kept hb, h.below.trans (hb.mono hB), fun k hk hn => (hb.block k (Nat.lt_of_lt_of_le hk h.below.size)).trans (h.block k hk hn), h.row⟩
/-- the event's answer -/
def EvApp {α : Type} (K : Kind α) (B : Nat) (w : World) (A : Option Addr) (n : Nat) (L : List α) (v : Value) (w' : World) : Prop := ∃ A' c', v = .slice A' n c' ∧ AppW K B w w' A A' c' L
theorem evAt_appW {α : Type} {K : Kind α} {P : Program} {SS : List Nat} {S : TypeId} {z : Value} {by_ : Nat} (hS : P.underlying S = some (.slice K.T)) (hinfo : (P.info? K.T).map (fun i => (i.zero, i.size, i.bytes)) = some (some z, K.k, by_)) (hz : z.cells.size = K.k) (hby : by_ ≤ 64) (hk : 0 < K.k)
    {w W2 : World} {o : Oper} {a : Act} (s x : Operand)
    (ho : o.op = .call { callee := .builtin .append, args := #[s, x], argTypes := #[S, S] })
    (B : Nat) (A : Option Addr) (n c : Nat) (L : List α) (hs : a.eval s = .slice A n c) (hvn : L.length = n) (h : VK K w B A c L) (hkk : Below w.heap.size w W2) (xb cx : Nat) (y : α) (hx : a.eval x = .slice (some ⟨xb, 0, none⟩) 1 cx) (hu : W2.heap[xb]? = some (.cells (K.cs y).toArray K.T (0, 0))) (hn : n + 1 ≤ 1048576) (hB : B ≤ w.heap.size)
    (hSS : ∀ a, A = some a → a.block ∈ SS) : Flow.evAt P SS o a W2 (EvApp K B w A (n + 1) (L ++ [y])) :=
  evAt_appendK hS hinfo hz hby hk s x ho B A n c L hs hvn (h.kept hkk) xb cx y hx hu hn (Nat.le_trans hB hkk.size) hSS fun A' c' w' hd => ⟨A', c', rfl, hd.vo, (hkk.mono hB).trans hd.below, fun k hk hn => (hd.block k (Nat.lt_of_lt_of_le hk hkk.size) hn).trans (hkk.block k hk), fun a' ha' => by
    rcases hd.row a' ha' with h1 | h1
    · exact .inl h1
    · exact .inr (by rw [h1]; exact hkk.size)⟩
theorem VK.blocks {α : Type} {K : Kind α} {w : World} {B c : Nat} {A : Option Addr} {L : List α} (h : VK K w B A c L) : ∃ S : List Nat, (∀ a, A = some a → a.block ∈ S) ∧ ∀ k, k ∈ S → B ≤ k ∧ k < w.heap.size := by
  cases A with
  | none => exact ⟨[], (fun a ha => by cases ha), (fun k hk => by cases hk)⟩
  | some x =>
    refine ⟨[x.block], (fun a ha => by cases ha; simp), fun k hk => ?_⟩
    obtain rfl : k = x.block := by simpa using hk
    exact h.at_ x rfl
end Mem
end Go.Proofs.YtgpbioljldkmaaaGreat

namespace Go.Proofs.YtgpbioljldkmaaaGreat
open Go.RowKit
namespace No
open Mem Bu
/-- five cells stored -/
def set5 (w : World) (b : Nat) (v0 v1 v2 v3 v4 : Value) : World := ((((w.setCell ⟨b, 0, none⟩ v0).setCell ⟨b, 1, none⟩ v1).setCell ⟨b, 2, none⟩ v2).setCell ⟨b, 3, none⟩ v3).setCell ⟨b, 4, none⟩ v4
theorem set5_at {w : World} {b : Nat} {u0 u1 u2 u3 u4 : Value} {U : TypeId} (h : w.heap[b]? = some (.cells #[u0, u1, u2, u3, u4] U (0, 0))) (v0 v1 v2 v3 v4 : Value) : (set5 w b v0 v1 v2 v3 v4).heap[b]? = some (.cells #[v0, v1, v2, v3, v4] U (0, 0)) := by
  unfold set5
  simp [World.setCell, Array.getElem?_modify, h]
theorem set5_below {B b : Nat} {a w : World} (h : Below B a w) (hb : B ≤ b) (v0 v1 v2 v3 v4 : Value) : Below B a (set5 w b v0 v1 v2 v3 v4) := ((((h.setCell hb v0).setCell hb v1).setCell hb v2).setCell hb v3).setCell hb v4
theorem into_one (w : World) (b i : Nat) (v : Value) : Flow.Into [b] w (w.setCell ⟨b, i, none⟩ v) := ⟨rfl, rfl, rfl, Nat.le_of_eq (by simp), fun k _ hn => set_other _ (by simpa using hn)⟩
theorem into_set5 (w : World) (b : Nat) (v0 v1 v2 v3 v4 : Value) : Flow.Into [b] w (set5 w b v0 v1 v2 v3 v4) := ((((into_one _ _ _ _).trans (into_one _ _ _ _)).trans (into_one _ _ _ _)).trans (into_one _ _ _ _)).trans (into_one _ _ _ _)
theorem free5 {w : World} {b : Nat} {C : Array Value} {U : TypeId} (h : w.heap[b]? = some (.cells C U (0, 0))) (i : Nat) : w.frozen? ⟨b, i, none⟩ = false := by
  simp [World.frozen?, h]
end No
end Go.Proofs.YtgpbioljldkmaaaGreat
