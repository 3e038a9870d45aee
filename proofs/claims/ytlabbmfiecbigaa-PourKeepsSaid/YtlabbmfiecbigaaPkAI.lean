/-
  Box5, MsgArgs, PairArgs, StrArgs, KidArgs, NodeG, BufPlaceC, MsgR. Put together by pack.py.
-/
import Derived.Test.YtlabbmfiecbigaaPkAG
import Derived.Test.YtlabbmfiecbigaaDrift
import Derived.Test.YtlabbmfiecbigaaPkAA
import Derived.Test.YtlabbmfiecbigaaPkAC
import Derived.SliceStrings
import Derived.Test.YtlabbmfiecbigaaPkAE
import Derived.Test.YtlabbmfiecbigaaPkAH

namespace Go.Proofs.Ytlabbmfiecbigaa
open Go.RowKit
namespace No
open Mem Bu
/-- five cells stored -/
def set5 (w : World) (b : Nat) (v0 v1 v2 v3 v4 : Value) : World := ((((w.setCell ⟨b, 0, none⟩ v0).setCell ⟨b, 1, none⟩ v1).setCell ⟨b, 2, none⟩ v2).setCell ⟨b, 3, none⟩ v3).setCell ⟨b, 4, none⟩ v4
theorem set5_at {w : World} {b : Nat} {u0 u1 u2 u3 u4 : Value} {U : TypeId} (h : w.heap[b]? = some (.cells #[u0, u1, u2, u3, u4] U (0, 0))) (v0 v1 v2 v3 v4 : Value) : (set5 w b v0 v1 v2 v3 v4).heap[b]? = some (.cells #[v0, v1, v2, v3, v4] U (0, 0)) := by
  unfold set5
  simp [World.setCell, Array.getElem?_modify, h]
theorem set5_other {w : World} {b k : Nat} (v0 v1 v2 v3 v4 : Value) (hk : k ≠ b) : (set5 w b v0 v1 v2 v3 v4).heap[k]? = w.heap[k]? := by
  unfold set5
  rw [set_other _ hk, set_other _ hk, set_other _ hk, set_other _ hk, set_other _ hk]
theorem set5_below {B b : Nat} {a w : World} (h : Below B a w) (hb : B ≤ b) (v0 v1 v2 v3 v4 : Value) : Below B a (set5 w b v0 v1 v2 v3 v4) := ((((h.setCell hb v0).setCell hb v1).setCell hb v2).setCell hb v3).setCell hb v4
theorem into_one (w : World) (b i : Nat) (v : Value) : Flow.Into [b] w (w.setCell ⟨b, i, none⟩ v) := ⟨rfl, rfl, rfl, Nat.le_of_eq (by simp), fun k _ hn => set_other _ (by simpa using hn)⟩
theorem into_set5 (w : World) (b : Nat) (v0 v1 v2 v3 v4 : Value) : Flow.Into [b] w (set5 w b v0 v1 v2 v3 v4) := ((((into_one _ _ _ _).trans (into_one _ _ _ _)).trans (into_one _ _ _ _)).trans (into_one _ _ _ _)).trans (into_one _ _ _ _)
/-- a cell stored that holds the same -/
theorem set_same {w : World} {b i : Nat} {v : Value} (h : w.cell? ⟨b, i, none⟩ = some v) : w.setCell ⟨b, i, none⟩ v = w := by
  unfold World.setCell
  have e : ∀ f : Obj → Obj, (∀ o, w.heap[b]? = some o → f o = o) → w.heap.modify b f = w.heap := fun f hf => by
    refine Array.ext_getElem? fun k => ?_
    rw [Array.getElem?_modify]
    split
    · rename_i hk
      subst hk
      cases ho : w.heap[b]? with
      | none => rfl
      | some o => rw [Option.map_some, hf o ho]
    · rfl
  rw [e]
  intro o ho
  unfold World.cell? at h
  rw [ho] at h
  cases o with
  | cells c T f =>
    simp only [Option.isSome_none, Bool.false_eq_true, if_false] at h ⊢
    congr 1
    refine Array.ext_getElem? fun k => ?_
    rw [Array.getElem?_setIfInBounds]
    split
    · rename_i hk
      subst hk
      have := (Array.getElem?_eq_some_iff.1 h).1
      rw [if_pos this, h]
    · rfl
  | _ => rfl
theorem set5_same {w : World} {b : Nat} {u0 u1 u2 u3 u4 : Value} {U : TypeId} (h : w.heap[b]? = some (.cells #[u0, u1, u2, u3, u4] U (0, 0))) : set5 w b u0 u1 u2 u3 u4 = w := by
  have c : ∀ i v, #[u0, u1, u2, u3, u4][i]? = some v → w.setCell ⟨b, i, none⟩ v = w := fun i v hv => set_same (by simpa [World.cell?, h] using hv)
  unfold set5
  rw [c 0 u0 rfl, c 1 u1 rfl, c 2 u2 rfl, c 3 u3 rfl, c 4 u4 rfl]
theorem free5 {w : World} {b : Nat} {C : Array Value} {U : TypeId} (h : w.heap[b]? = some (.cells C U (0, 0))) (i : Nat) : w.frozen? ⟨b, i, none⟩ = false := by
  simp [World.frozen?, h]
end No
end Go.Proofs.Ytlabbmfiecbigaa

namespace Go.Proofs.Ytlabbmfiecbigaa
open Go.RowKit Go.WideShapes Go.ChangeShapes
namespace Bu
open Mem
set_option maxRecDepth 100000 in
theorem open_msgs_t {H : Type} {enc : TypeId × Value → H} {W : World} {v : Value} {d : DataW H} {p : List MemPlace} {fuel : Nat} (h : DataW.trod enc Try.prog W 0 (fun _ => true) true fuel 26 [v] = some (d, p)) :
    ∃ (A : Option Addr) (L : List Mg) (c : Nat), v = .slice A L.length c ∧ RC MgK W A c L ∧ L.length ≤ c ∧ c ≤ maxLen := by
  obtain ⟨A, len, c, rfl, hl, hm, hc⟩ := Args.open_structs_t Try.underlying26 Try.underlying45 (by kernel_rfl) (by kernel_rfl) (by decide) h
  by_cases h0 : 0 < len
  · obtain ⟨b, o, rfl, hcell⟩ := hc h0
    have each : ∀ i, i < len → ∃ m : Mg, W.cell? ⟨b, o + (i * 3 + 0), none⟩ = some (.string m.1) ∧ W.cell? ⟨b, o + (i * 3 + 1), none⟩ = some (.bool m.2.1) ∧ W.cell? ⟨b, o + (i * 3 + 2), none⟩ = some (.string m.2.2) := by
      intro i hi
      obtain ⟨u0, y0, n0, h0, k0, -⟩ := hcell i hi 0 _ rfl
      obtain ⟨u1, y1, n1, h1, k1, -⟩ := hcell i hi 1 _ rfl
      obtain ⟨u2, y2, n2, h2, k2, -⟩ := hcell i hi 2 _ rfl
      obtain ⟨s0, e0, _, _⟩ := DataW.trod_string Try.underlying9 k0
      obtain ⟨s1, e1, _⟩ := DataW.trod_bool Try.underlying4 k1
      obtain ⟨s2, e2, _, _⟩ := DataW.trod_string Try.underlying9 k2
      obtain rfl : u0 = _ := by simpa using e0
      obtain rfl : u1 = _ := by simpa using e1
      obtain rfl : u2 = _ := by simpa using e2
      exact ⟨(s0, s1, s2), h0, h1, h2⟩
    have each' : ∀ i, ∃ m : Mg, i < len → W.cell? ⟨b, o + (i * 3 + 0), none⟩ = some (.string m.1) ∧ W.cell? ⟨b, o + (i * 3 + 1), none⟩ = some (.bool m.2.1) ∧ W.cell? ⟨b, o + (i * 3 + 2), none⟩ = some (.string m.2.2) := fun i => by
      by_cases hi : i < len
      · obtain ⟨m, hm⟩ := each i hi
        exact ⟨m, fun _ => hm⟩
      · exact ⟨zeroM, fun h => absurd h hi⟩
    let F := fun i => Classical.choose (each' i)
    have hF : ∀ i, i < len → W.cell? ⟨b, o + (i * 3 + 0), none⟩ = some (.string (F i).1) ∧ W.cell? ⟨b, o + (i * 3 + 1), none⟩ = some (.bool (F i).2.1) ∧ W.cell? ⟨b, o + (i * 3 + 2), none⟩ = some (.string (F i).2.2) := fun i => Classical.choose_spec (each' i)
    have hb : b < W.heap.size := by
      have := (hF 0 h0).1
      rcases Nat.lt_or_ge b W.heap.size with h' | h'
      · exact h'
      · simp [World.cell?, Array.getElem?_eq_none h'] at this
    refine ⟨some ⟨b, o, none⟩, (List.range len).map F, c, by simp, ⟨fun _ => ⟨b, o, rfl, hb, fun i x hx j u hu => ?_⟩, by simpa using hl⟩, by simpa using hl, hm⟩
    obtain ⟨hi, hx⟩ := List.getElem?_eq_some_iff.1 hx
    have hi' : i < len := by simpa using hi
    obtain rfl : F i = x := by simpa using hx
    obtain ⟨e0, e1, e2⟩ := hF i hi'
    match j, hu with
    | 0, hu =>
      obtain rfl : Value.string (F i).1 = u := by simpa [MgK] using hu
      exact e0
    | 1, hu =>
      obtain rfl : Value.bool (F i).2.1 = u := by simpa [MgK] using hu
      exact e1
    | 2, hu =>
      obtain rfl : Value.string (F i).2.2 = u := by simpa [MgK] using hu
      exact e2
    | j + 3, hu => simp [MgK] at hu
  · obtain rfl : len = 0 := by omega
    exact ⟨A, [], c, rfl, ⟨fun h => absurd h (by simp), Nat.zero_le _⟩, Nat.zero_le _, hm⟩
set_option maxRecDepth 100000 in
theorem open_msgs {H : Type} {enc : TypeId × Value → H} {W : World} {v : Value} {d : DataW H} {p : List MemPlace} {r : Reach} {b0 : Nat} (hv : Value.okWide Try.prog W r b0 26 v) (h : DataW.Trod enc Try.prog W 0 (fun _ => true) true 26 v d p) :
    ∃ (A : Option Addr) (L : List Mg) (c : Nat), v = .slice A L.length c ∧ RC MgK W A c L ∧ L.length ≤ c ∧ c ≤ maxLen := by
  obtain ⟨a0, len, cap, rfl⟩ := okWide_slice Try.underlying26 hv
  obtain ⟨fuel, hf⟩ := h
  exact open_msgs_t hf
end Bu
end Go.Proofs.Ytlabbmfiecbigaa

namespace Go.Proofs.Ytlabbmfiecbigaa
open Go.RowKit Go.WideShapes Go.ChangeShapes
namespace Lf
open Mem Bu
theorem size_toList (s : ByteArray) : s.data.toList.length = s.size := by rw [Array.length_toList]; rfl
set_option maxRecDepth 100000 in
theorem open_prs_t {H : Type} {enc : TypeId × Value → H} {W : World} {v : Value} {d : DataW H} {p : List MemPlace} {fuel : Nat} (h : DataW.trod enc Try.prog W 0 (fun _ => true) true fuel 27 [v] = some (d, p)) :
    ∃ (A : Option Addr) (L : List Pr) (c : Nat), v = .slice A L.length c ∧ PC W A c L ∧ L.length ≤ c ∧ c ≤ maxLen ∧ ∀ m, m ∈ L → m.1.size ∈ d.weights Try.prog 27 ∧ m.2.size ∈ d.weights Try.prog 27 := by
  obtain ⟨A, len, c, rfl, hl, hm, hc⟩ := Args.open_structs_t Try.underlying27 Try.underlying47 (by kernel_rfl) (by kernel_rfl) (by decide) h
  by_cases h0 : 0 < len
  · obtain ⟨b, o, rfl, hcell⟩ := hc h0
    have each : ∀ i, i < len → ∃ m : Pr, W.cell? ⟨b, o + (i * 2 + 0), none⟩ = some (.string m.1) ∧ W.cell? ⟨b, o + (i * 2 + 1), none⟩ = some (.string m.2) ∧ m.1.size ∈ d.weights Try.prog 27 ∧ m.2.size ∈ d.weights Try.prog 27 := by
      intro i hi
      obtain ⟨u0, y0, n0, h0, k0, z0⟩ := hcell i hi 0 _ rfl
      obtain ⟨u1, y1, n1, h1, k1, z1⟩ := hcell i hi 1 _ rfl
      obtain ⟨s0, e0, rfl, _⟩ := DataW.trod_string Try.underlying9 k0
      obtain ⟨s1, e1, rfl, _⟩ := DataW.trod_string Try.underlying9 k1
      obtain rfl : u0 = _ := by simpa using e0
      obtain rfl : u1 = _ := by simpa using e1
      exact ⟨(s0, s1), h0, h1, z0 _ (by simp [DataW.weights]), z1 _ (by simp [DataW.weights])⟩
    have each' : ∀ i, ∃ m : Pr, i < len → W.cell? ⟨b, o + (i * 2 + 0), none⟩ = some (.string m.1) ∧ W.cell? ⟨b, o + (i * 2 + 1), none⟩ = some (.string m.2) ∧ m.1.size ∈ d.weights Try.prog 27 ∧ m.2.size ∈ d.weights Try.prog 27 := fun i => by
      by_cases hi : i < len
      · obtain ⟨m, hm⟩ := each i hi
        exact ⟨m, fun _ => hm⟩
      · exact ⟨(⟨#[]⟩, ⟨#[]⟩), fun h => absurd h hi⟩
    let F := fun i => Classical.choose (each' i)
    have hF : ∀ i, i < len → W.cell? ⟨b, o + (i * 2 + 0), none⟩ = some (.string (F i).1) ∧ W.cell? ⟨b, o + (i * 2 + 1), none⟩ = some (.string (F i).2) ∧ (F i).1.size ∈ d.weights Try.prog 27 ∧ (F i).2.size ∈ d.weights Try.prog 27 := fun i => Classical.choose_spec (each' i)
    have hb : b < W.heap.size := by
      have := (hF 0 h0).1
      rcases Nat.lt_or_ge b W.heap.size with h' | h'
      · exact h'
      · simp [World.cell?, Array.getElem?_eq_none h'] at this
    refine ⟨some ⟨b, o, none⟩, (List.range len).map F, c, by simp, ⟨fun _ => ⟨b, o, rfl, hb, fun i x hx j u hu => ?_⟩, by simpa using hl⟩, by simpa using hl, hm, fun m hmm => ?_⟩
    rotate_left
    · obtain ⟨i, hi, rfl⟩ := List.mem_map.1 hmm
      exact (hF i (by simpa using hi)).2.2
    obtain ⟨hi, hx⟩ := List.getElem?_eq_some_iff.1 hx
    have hi' : i < len := by simpa using hi
    obtain rfl : F i = x := by simpa using hx
    obtain ⟨e0, e1, -⟩ := hF i hi'
    match j, hu with
    | 0, hu =>
      obtain rfl : Value.string (F i).1 = u := by simpa [PrK] using hu
      exact e0
    | 1, hu =>
      obtain rfl : Value.string (F i).2 = u := by simpa [PrK] using hu
      exact e1
    | j + 2, hu => simp [PrK] at hu
  · obtain rfl : len = 0 := by omega
    exact ⟨A, [], c, rfl, ⟨fun h => absurd h (by simp), Nat.zero_le _⟩, Nat.zero_le _, hm, fun m hmm => by cases hmm⟩
set_option maxRecDepth 100000 in
theorem open_prs {H : Type} {enc : TypeId × Value → H} {W : World} {v : Value} {d : DataW H} {p : List MemPlace} {r : Reach} {b0 : Nat} (hv : Value.okWide Try.prog W r b0 27 v) (h : DataW.Trod enc Try.prog W 0 (fun _ => true) true 27 v d p) :
    ∃ (A : Option Addr) (L : List Pr) (c : Nat), v = .slice A L.length c ∧ PC W A c L ∧ L.length ≤ c ∧ c ≤ maxLen := by
  obtain ⟨a0, len, cap, rfl⟩ := okWide_slice Try.underlying27 hv
  obtain ⟨fuel, hf⟩ := h
  obtain ⟨A, L, c, e1, e2, e3, e4, _⟩ := open_prs_t hf
  exact ⟨A, L, c, e1, e2, e3, e4⟩
end Lf
end Go.Proofs.Ytlabbmfiecbigaa

namespace Go.Proofs.Ytlabbmfiecbigaa
open Go.RowKit Go.WideShapes Go.ChangeShapes
namespace Fa
open Mem
set_option maxRecDepth 100000 in
theorem open_strs_t {H : Type} {enc : TypeId × Value → H} {W : World} {v : Value} {d : DataW H} {p : List MemPlace} {fuel : Nat} (hf : DataW.trod enc Try.prog W 0 (fun _ => true) true fuel 25 [v] = some (d, p)) :
    ∃ (A : Option Addr) (L : List ByteArray) (c : Nat), v = .slice A L.length c ∧ SC W A c L ∧ L.length ≤ c ∧ c ≤ maxLen := by
  rcases open_strings Try.underlying25 Try.underlying9 (by kernel_rfl) hf with ⟨hcs, _⟩ | ⟨a, len, cap, ss, hcs, _, hl, hm, hz, _, hcell⟩
  · obtain rfl : v = _ := by simpa using hcs
    exact ⟨none, [], 0, rfl, RC.nil _ _ _, Nat.le_refl _, Nat.zero_le _⟩
  · obtain rfl : v = _ := by simpa using hcs
    simp only [if_true] at hz
    have htl : (ss.take len).length = len := by simp; omega
    refine ⟨some a, ss.take len, cap, by rw [htl], ⟨fun hpos => ?_, by rw [htl]; exact hl⟩, by rw [htl]; exact hl, hm⟩
    rw [htl] at hpos
    obtain ⟨b, o, sp⟩ := a
    have h0 := hcell.1 0 (by omega)
    obtain rfl : sp = none := by simpa [Addr.add] using World.cell?_spot h0
    have hb : b < W.heap.size := by
      rcases Nat.lt_or_ge b W.heap.size with h' | h'
      · exact h'
      · simp [Addr.add, World.cell?, Array.getElem?_eq_none h'] at h0
    refine ⟨b, o, rfl, hb, fun i x hx j u hu => ?_⟩
    obtain ⟨hi, hx⟩ := List.getElem?_eq_some_iff.1 hx
    rw [htl] at hi
    have h1 := hcell.1 i (by omega)
    have e : (⟨b, o, none⟩ : Addr).add i = ⟨b, o + i, none⟩ := by unfold Addr.add; split <;> simp_all
    rw [e] at h1
    have hj : j = 0 := by
      have := (List.getElem?_eq_some_iff.1 hu).1
      simp only [StK, List.length_cons, List.length_nil] at this
      omega
    subst hj
    obtain rfl : Value.string x = u := by simpa [StK] using hu
    have hk : StK.k = 1 := rfl
    rw [hk, Nat.mul_one, Nat.add_zero, h1, ← hx]
    simp [List.getD, show i < ss.length by omega]
set_option maxRecDepth 100000 in
theorem open_strs {H : Type} {enc : TypeId × Value → H} {W : World} {v : Value} {d : DataW H} {p : List MemPlace} {r : Reach} {b0 : Nat} (hv : Value.okWide Try.prog W r b0 25 v) (h : DataW.Trod enc Try.prog W 0 (fun _ => true) true 25 v d p) :
    ∃ (A : Option Addr) (L : List ByteArray) (c : Nat), v = .slice A L.length c ∧ SC W A c L ∧ L.length ≤ c ∧ c ≤ maxLen := by
  obtain ⟨a0, len, cap, rfl⟩ := okWide_slice Try.underlying25 hv
  obtain ⟨fuel, hf⟩ := h
  exact open_strs_t hf
end Fa
end Go.Proofs.Ytlabbmfiecbigaa

namespace Go.Proofs.Ytlabbmfiecbigaa
open Go.RowKit Go.WideShapes Go.ChangeShapes Go.Deep
namespace No
open Mem
set_option maxRecDepth 100000 in
theorem open_kids_t {H : Type} {enc : TypeId × Value → H} {W : World} {v : Value} {d : DataW H} {p : List MemPlace} {fuel : Nat} (hf : DataW.trod enc Try.prog W 0 (fun _ => true) true fuel 24 [v] = some (d, p)) :
    ∃ (A : Option Addr) (L : List Nat) (c : Nat), v = .slice A L.length c ∧ KC W A c L ∧ L.length ≤ c ∧ c ≤ maxLen ∧ ∀ n, n ∈ L → n < 4294967296 := by
  rcases open_ints Try.underlying24 Try.underlying43 (by kernel_rfl) hf with ⟨hcs, _⟩ | ⟨a, len, cap, zs, hcs, _, hl, hm, hz, _, hcell, hwz⟩
  · obtain rfl : v = _ := by simpa using hcs
    exact ⟨none, [], 0, rfl, RC.nil _ _ _, Nat.le_refl _, Nat.zero_le _, fun n hn => by cases hn⟩
  · obtain rfl : v = _ := by simpa using hcs
    simp only [if_true] at hz
    have htl : (zs.take len).length = len := by simp; omega
    have hnat : ∀ z, z ∈ zs → ∃ n : Nat, z = (n : Int) ∧ n < 4294967296 := fun z hz' => Args.nat_of_u32 (hwz z hz')
    refine ⟨some a, (zs.take len).map Int.toNat, cap, by rw [List.length_map, htl], ⟨fun hpos => ?_, by rw [List.length_map, htl]; exact hl⟩, by rw [List.length_map, htl]; exact hl, hm, fun n hn => ?_⟩
    · rw [List.length_map, htl] at hpos
      obtain ⟨b, o, sp⟩ := a
      have h0 := hcell 0 (by omega)
      obtain rfl : sp = none := by simpa [Addr.add] using World.cell?_spot h0
      have hb : b < W.heap.size := by
        rcases Nat.lt_or_ge b W.heap.size with h' | h'
        · exact h'
        · simp [Addr.add, World.cell?, Array.getElem?_eq_none h'] at h0
      refine ⟨b, o, rfl, hb, fun i x hx j u hu => ?_⟩
      rw [List.getElem?_map, Option.map_eq_some_iff] at hx
      obtain ⟨z, hx, rfl⟩ := hx
      obtain ⟨hi, hx⟩ := List.getElem?_eq_some_iff.1 hx
      rw [htl] at hi
      have h1 := hcell i (by omega)
      have e : (⟨b, o, none⟩ : Addr).add i = ⟨b, o + i, none⟩ := by unfold Addr.add; split <;> simp_all
      rw [e] at h1
      have hj : j = 0 := by
        have := (List.getElem?_eq_some_iff.1 hu).1
        simp only [KdK, List.length_cons, List.length_nil] at this
        omega
      subst hj
      rw [List.getElem_take] at hx
      obtain ⟨n, hn, -⟩ := hnat z (by rw [← hx]; exact List.getElem_mem _)
      obtain rfl : Value.int .u32 (z.toNat : Int) = u := by simpa [KdK] using hu
      have hk : KdK.k = 1 := rfl
      rw [hk, Nat.mul_one, Nat.add_zero, h1]
      have e2 : zs.getD i 0 = z := by simp [List.getD, show i < zs.length by omega, hx]
      first | rw [e2, hn]; rfl | (simp [List.getD, show i < zs.length by omega, hx, hn])
    · obtain ⟨z, hz', rfl⟩ := List.mem_map.1 hn
      obtain ⟨n, rfl, hlt⟩ := hnat z (List.mem_of_mem_take hz')
      simpa using hlt
/-- what an argument's node keeps: lists that memory has room for, values that memory reaches -/
structure NdOk (n : Nd) : Prop where
  lv : -9223372036854775808 ≤ n.lv ∧ n.lv ≤ 9223372036854775807
  kids : n.kids.length ≤ maxLen
  piv : n.piv.length ≤ maxLen
  buf : n.buf.length ≤ maxLen
  prs : n.prs.length ≤ maxLen
  kid : ∀ k, k ∈ n.kids → k < 4294967296
  val : ∀ m, m ∈ n.prs → m.2.size ≤ reachBytes
theorem array5 {α : Type} {cs : Array α} (h : cs.size = 5) : ∃ c0 c1 c2 c3 c4, cs = #[c0, c1, c2, c3, c4] := by
  obtain ⟨l⟩ := cs
  match l, h with
  | [c0, c1, c2, c3, c4], _ => exact ⟨c0, c1, c2, c3, c4, rfl⟩
theorem node_one : oneCellFields Try.prog (Try.prog.fieldsOf 29) = true := by kernel_rfl
set_option maxRecDepth 100000 in
theorem open_node {H : Type} {enc : TypeId × Value → H} {W : World} {v : Value} {d : DataW H} {p : List MemPlace} {r : Reach} {b0 : Nat} (hv : Value.okWide Try.prog W r b0 29 v) (h : DataW.Trod enc Try.prog W 0 (fun _ => true) true 29 v d p) (hw : ∀ n ∈ d.weights Try.prog 29, n ≤ reachBytes) :
    ∃ (n : Nd) (a : At), v = .agg (ndCs n a) ∧ NdIn W n a ∧ NdOk n := by
  have hu : Try.prog.underlying 29 = some (.struct (Try.prog.fieldsOf 29)) := by kernel_rfl
  obtain ⟨cs, rfl, hsz⟩ := okWide_struct hu hv
  have h5 : Try.prog.cellsOf 29 = 5 := by kernel_rfl
  rw [h5] at hsz
  obtain ⟨fuel, hf⟩ := h
  obtain ⟨ys, n', _, hD, hlen, hyl, hfl⟩ := DataW.trod_struct hu hf
  have hsz2 : (Try.prog.fieldsOf 29).size = 5 := by kernel_rfl
  have each : ∀ (j : Nat) (u : Value) (T : TypeId), cs[j]? = some u → ((Try.prog.fieldsOf 29)[j]?.map fun f => f.type) = some T → ∃ y : DataW H × List MemPlace, DataW.trod enc Try.prog W 0 (fun _ => true) true n' T [u] = some y ∧ ∀ k ∈ y.1.weights Try.prog T, k ≤ reachBytes := fun j u T hj hT => by
    rw [Option.map_eq_some_iff] at hT
    obtain ⟨f, hfj, rfl⟩ := hT
    obtain ⟨ho, hk⟩ := hone_of node_one j f hfj
    have h1 := hfl j f hfj
    rw [ho, hk] at h1
    have hu1 : ((Value.agg cs).cells.toList.drop j).take 1 = [u] := by
      simp only [Value.cells]
      have hl : cs.toList[j]? = some u := by simpa using hj
      rw [List.getElem?_eq_some_iff] at hl
      obtain ⟨h2, h3⟩ := hl
      rw [List.drop_eq_getElem_cons h2, h3]
      rfl
    rw [hu1] at h1
    have hj' : j < ys.length := by
      rw [hyl]
      exact (Array.getElem?_eq_some_iff.1 hfj).1
    rw [List.getElem?_eq_getElem hj'] at h1
    refine ⟨_, h1, fun k hk => hw k ?_⟩
    simp only [Prod.mk.injEq] at hD
    rw [hD.1]
    simp only [DataW.weights, hu]
    refine Args.w_each (j := j) (t := f.type) (d := (ys[j]'hj').1) ?_ ?_ k hk
    · rw [List.getElem?_map, Array.getElem?_toList, hfj]; rfl
    · rw [List.getElem?_map, List.getElem?_eq_getElem hj']; rfl
  obtain ⟨c0, c1, c2, c3, c4, rfl⟩ := array5 hsz
  obtain ⟨⟨y0, q0⟩, k0, -⟩ := each 0 c0 3 rfl (by decide +kernel)
  obtain ⟨⟨y1, q1⟩, k1, -⟩ := each 1 c1 24 rfl (by decide +kernel)
  obtain ⟨⟨y2, q2⟩, k2, -⟩ := each 2 c2 25 rfl (by decide +kernel)
  obtain ⟨⟨y3, q3⟩, k3, -⟩ := each 3 c3 26 rfl (by decide +kernel)
  obtain ⟨⟨y4, q4⟩, k4, w4⟩ := each 4 c4 27 rfl (by decide +kernel)
  obtain ⟨z, hz, -, hwf⟩ := DataW.trod_int Try.underlying3 k0
  obtain rfl : c0 = _ := by simpa using hz
  obtain ⟨kA, K, kc, rfl, hK, lK, mK, bK⟩ := open_kids_t k1
  obtain ⟨pA, P, pc, rfl, hP, lP, mP⟩ := Fa.open_strs_t k2
  obtain ⟨bA, B, bc, rfl, hB, lB, mB⟩ := Bu.open_msgs_t k3
  obtain ⟨qA, Q, qc, rfl, hQ, lQ, mQ, wQ⟩ := Lf.open_prs_t k4
  exact ⟨⟨z, K, P, B, Q⟩, ⟨kA, kc, pA, pc, bA, bc, qA, qc⟩, rfl, ⟨hK, hP, hB, hQ⟩, ⟨Args.i64_bounds hwf, Nat.le_trans lK mK, Nat.le_trans lP mP, Nat.le_trans lB mB, Nat.le_trans lQ mQ, bK, fun m hm => w4 _ (wQ m hm).2⟩⟩
end No
end Go.Proofs.Ytlabbmfiecbigaa

namespace Go.Proofs.Ytlabbmfiecbigaa
open Go.RowKit
namespace No
open Mem Lx Bu Lf Fa
/-- a node that is not too much for a statement -/
structure Fit (n : Nd) : Prop where
  kids : n.kids.length ≤ 80
  piv : n.piv.length ≤ 80
  buf : n.buf.length ≤ 150
  prs : n.prs.length ≤ 150
  pk : ∀ p, p ∈ n.piv → p.size ≤ 200
  bk : ∀ m, m ∈ n.buf → m.1.size ≤ 200
  qk : ∀ m, m ∈ n.prs → m.1.size ≤ 200
set_option maxRecDepth 100000 in
set_option maxHeartbeats 4000000 in
theorem Great_any {W : World} {n : Nd} {a : At} (h : NdIn W n a) (hok : NdOk n) : Calls Try.prog 12 #[.agg (ndCs n a)] W fun e w' => (∃ v : Bool, e = .returned (.bool v) ∧ (v = false ↔ Fit n)) ∧ Below W.heap.size W w' := by
  obtain ⟨P, hP⟩ : ∃ P : Prop, P = Fit n := ⟨_, rfl⟩
  have HP : Hid (P → Fit n) := fun h => by rw [hP] at h; exact h
  have HQ : Hid (Fit n → P) := fun h => by rw [hP]; exact h
  rw [← hP]
  clear hP
  obtain ⟨lv, K, L, B, Q⟩ := n
  obtain ⟨kA, kc, pA, pc, bA, bc, qA, qc⟩ := a
  have h2 := hok.kids
  have h3 := hok.piv
  have h4 := hok.buf
  have h5 := hok.prs
  have HL : Hid (SL W pA L) := h.piv.1
  have HB : Hid (RdK MgK W bA B) := h.buf.1
  have HR : Hid (PL W qA Q) := h.prs.1
  unfold ndCs
  simp only at *
  unfold maxLen at h2 h3 h4 h5
  generalize hkn : K.length = kn at *
  generalize hpn : L.length = pn at *
  generalize hbn : B.length = bn at *
  generalize hqn : Q.length = qn at *
  have HKN := Lib.hid hkn
  have HPN := Lib.hid hpn
  have HBN := Lib.hid hbn
  have HQN := Lib.hid hqn
  clear h hok hkn hpn hbn hqn
  go_enter Try.func12, Try.ntmps12
  go_upto_region 1 with fail
  have hx := heap_alloc_new W (.cells #[.int .i64 lv, .slice kA kn kc, .slice pA pn pc, .slice bA bn bc, .slice qA qn qc] 29)
  have hb0 : Below W.heap.size W (W.alloc (.cells #[.int .i64 lv, .slice kA kn kc, .slice pA pn pc, .slice bA bn bc, .slice qA qn qc] 29)) := (Below.refl _ _).alloc (Nat.le_refl _) _
  generalize W.alloc (.cells #[.int .i64 lv, .slice kA kn kc, .slice pA pn pc, .slice bA bn bc, .slice qA qn qc] 29) = w1 at *
  have HW := Lib.hid hb0
  obtain ⟨g, hg⟩ : ∃ g, g = W.heap.size := ⟨_, rfl⟩
  simp only [← hg]
  rw [← hg] at hx
  obtain ⟨d0, d1, d2, d3, d4⟩ := box5 hx
  clear hx hb0 hg d0
  by_cases e0 : kn ≤ 80
  case neg =>
    have hd : (80 : Int) < (kn : Int) := by omega
    have HNO : Hid (¬ P) := fun h => e0 (by rw [← HKN.out]; exact (HP.out h).kids)
    clear e0
    go_wp2_with fail
    go_ret
    exact ⟨⟨true, rfl, (fun h => by cases h), fun h => absurd h HNO.out⟩, HW.out⟩
  have n0 : decide ((80 : Int) < (kn : Int)) = false := by simp; omega
  by_cases e1 : pn ≤ 80
  case neg =>
    have hd : (80 : Int) < (pn : Int) := by omega
    have HNO : Hid (¬ P) := fun h => e1 (by rw [← HPN.out]; exact (HP.out h).piv)
    clear e1
    go_wp2_with fail
    go_ret
    exact ⟨⟨true, rfl, (fun h => by cases h), fun h => absurd h HNO.out⟩, HW.out⟩
  have n1 : decide ((80 : Int) < (pn : Int)) = false := by simp; omega
  by_cases e2 : bn ≤ 150
  case neg =>
    have hd : (150 : Int) < (bn : Int) := by omega
    have HNO : Hid (¬ P) := fun h => e2 (by rw [← HBN.out]; exact (HP.out h).buf)
    clear e2
    go_wp2_with fail
    go_ret
    exact ⟨⟨true, rfl, (fun h => by cases h), fun h => absurd h HNO.out⟩, HW.out⟩
  have n2 : decide ((150 : Int) < (bn : Int)) = false := by simp; omega
  by_cases e3 : qn ≤ 150
  case neg =>
    have hd : (150 : Int) < (qn : Int) := by omega
    have HNO : Hid (¬ P) := fun h => e3 (by rw [← HQN.out]; exact (HP.out h).prs)
    clear e3
    go_wp2_with fail
    go_ret
    exact ⟨⟨true, rfl, (fun h => by cases h), fun h => absurd h HNO.out⟩, HW.out⟩
  have n3 : decide ((150 : Int) < (qn : Int)) = false := by simp; omega
  have HE : Hid (kn ≤ 80 ∧ pn ≤ 80 ∧ bn ≤ 150 ∧ qn ≤ 150) := ⟨e0, e1, e2, e3⟩
  clear e0 e1 e2 e3
  go_upto_block 0 with fail
  clear n0 n1 n2 n3
  go_cut [] (fun wx => Hid (∀ y, y ∈ L → y.size ≤ 200) ∧ w1 = wx)
  case first =>
    go_wp2_with fail
    go_loopg [3] pn (fun gk iv wx => ∃ j : Nat, j ≤ pn ∧ gk = pn - j ∧ iv = .int .i64 (j : Int) ∧ Hid (∀ (i : Nat) (y : ByteArray), i < j → L[i]? = some y → y.size ≤ 200) ∧ w1 = wx)
    case atStart => exact ⟨0, Nat.zero_le _, rfl, rfl, fun i x hi => by omega, rfl⟩
    case round =>
      obtain ⟨j, hj, rfl, rfl, HJ, rfl⟩ := hrel
      by_cases hlt2 : j < pn
      · have hjL : j < L.length := by rw [HPN.out]; exact hlt2
        obtain ⟨x, hxx⟩ : ∃ x, x = L[j] := ⟨_, rfl⟩
        have hx' := nat_lenS hjL
        rw [← hxx] at hx'
        obtain ⟨b, o, e, -, c0⟩ := RdK.str (HL.out.kept HW.out) hx'
        subst e
        have HXX := Lib.hid hx'
        have hw3 : IntKind.i64.wrap ((j : Int) + 1) = ((j + 1 : Nat) : Int) := by rw [IntKind.wrap_i64]; omega
        clear hxx hx' hjL
        by_cases hz : x.size ≤ 200
        · have HJ2 : Hid (∀ (i : Nat) (y : ByteArray), i < j + 1 → L[i]? = some y → y.size ≤ 200) := fun i y hi hy => by
            by_cases e : i = j
            · subst e
              rw [HXX.out] at hy
              cases hy
              exact hz
            · exact HJ.out i y (by omega) hy
          have hd : decide (200 < (x.size : Int)) = false := by simp; omega
          clear hz
          go_wp2_with fail
          go_roundg (pn - (j + 1))
          case measure => omega
          case rel => exact ⟨j + 1, hlt2, rfl, by go_num, HJ2, rfl⟩
        · have hd : (200 : Int) < (x.size : Int) := by omega
          have HNO : Hid (¬ P) := fun h => hz ((HP.out h).pk x (List.mem_of_getElem? HXX.out))
          clear hz
          go_wp2_with fail
          go_ret
          exact ⟨⟨true, rfl, (fun h => by cases h), fun h => absurd h HNO.out⟩, HW.out⟩
      · have HZ : Hid (∀ y, y ∈ L → y.size ≤ 200) := fun x hx => by
          obtain ⟨i, hi⟩ := List.getElem?_of_mem hx
          have := (List.getElem?_eq_some_iff.1 hi).1
          rw [HPN.out] at this
          exact HJ.out i x (by omega) hi
        obtain rfl : j = pn := by omega
        clear hlt2
        go_wp2_with fail
        go_meet
        exact ⟨HZ, rfl⟩
  case rest =>
  obtain ⟨Hx0, rfl⟩ := hcut
  go_upto_block 2 with fail
  skip
  go_cut [] (fun wx => Hid (∀ y, y ∈ B → y.1.size ≤ 200) ∧ w1 = wx)
  case first =>
    go_wp2_with fail
    go_loopg [4] bn (fun gk iv wx => ∃ j : Nat, j ≤ bn ∧ gk = bn - j ∧ iv = .int .i64 (j : Int) ∧ Hid (∀ (i : Nat) (y : Mg), i < j → B[i]? = some y → y.1.size ≤ 200) ∧ w1 = wx)
    case atStart => exact ⟨0, Nat.zero_le _, rfl, rfl, fun i x hi => by omega, rfl⟩
    case round =>
      obtain ⟨j, hj, rfl, rfl, HJ, rfl⟩ := hrel
      by_cases hlt2 : j < bn
      · have hjL : j < B.length := by rw [HBN.out]; exact hlt2
        obtain ⟨x, hxx⟩ : ∃ x, x = B[j] := ⟨_, rfl⟩
        have hx' := nat_len hjL
        rw [← hxx] at hx'
        obtain ⟨b, o, e, -, c0, -, -⟩ := RdK.msg (HB.out.kept HW.out) hx'
        subst e
        have HXX := Lib.hid hx'
        have hw3 : IntKind.i64.wrap ((j : Int) + 1) = ((j + 1 : Nat) : Int) := by rw [IntKind.wrap_i64]; omega
        clear hxx hx' hjL
        by_cases hz : x.1.size ≤ 200
        · have HJ2 : Hid (∀ (i : Nat) (y : Mg), i < j + 1 → B[i]? = some y → y.1.size ≤ 200) := fun i y hi hy => by
            by_cases e : i = j
            · subst e
              rw [HXX.out] at hy
              cases hy
              exact hz
            · exact HJ.out i y (by omega) hy
          have hd : decide (200 < (x.1.size : Int)) = false := by simp; omega
          clear hz
          go_wp2_with fail
          go_roundg (bn - (j + 1))
          case measure => omega
          case rel => exact ⟨j + 1, hlt2, rfl, by go_num, HJ2, rfl⟩
        · have hd : (200 : Int) < (x.1.size : Int) := by omega
          have HNO : Hid (¬ P) := fun h => hz ((HP.out h).bk x (List.mem_of_getElem? HXX.out))
          clear hz
          go_wp2_with fail
          go_ret
          exact ⟨⟨true, rfl, (fun h => by cases h), fun h => absurd h HNO.out⟩, HW.out⟩
      · have HZ : Hid (∀ y, y ∈ B → y.1.size ≤ 200) := fun x hx => by
          obtain ⟨i, hi⟩ := List.getElem?_of_mem hx
          have := (List.getElem?_eq_some_iff.1 hi).1
          rw [HBN.out] at this
          exact HJ.out i x (by omega) hi
        obtain rfl : j = bn := by omega
        clear hlt2
        go_wp2_with fail
        go_meet
        exact ⟨HZ, rfl⟩
  case rest =>
  obtain ⟨Hx1, rfl⟩ := hcut
  go_upto_block 4 with fail
  skip
  go_cut [] (fun wx => Hid (∀ y, y ∈ Q → y.1.size ≤ 200) ∧ w1 = wx)
  case first =>
    go_wp2_with fail
    go_loopg [5] qn (fun gk iv wx => ∃ j : Nat, j ≤ qn ∧ gk = qn - j ∧ iv = .int .i64 (j : Int) ∧ Hid (∀ (i : Nat) (y : Pr), i < j → Q[i]? = some y → y.1.size ≤ 200) ∧ w1 = wx)
    case atStart => exact ⟨0, Nat.zero_le _, rfl, rfl, fun i x hi => by omega, rfl⟩
    case round =>
      obtain ⟨j, hj, rfl, rfl, HJ, rfl⟩ := hrel
      by_cases hlt2 : j < qn
      · have hjL : j < Q.length := by rw [HQN.out]; exact hlt2
        obtain ⟨x, hxx⟩ : ∃ x, x = Q[j] := ⟨_, rfl⟩
        have hx' := nat_len hjL
        rw [← hxx] at hx'
        obtain ⟨b, o, e, -, c0, -⟩ := RdK.pair (HR.out.kept HW.out) hx'
        subst e
        have HXX := Lib.hid hx'
        have hw3 : IntKind.i64.wrap ((j : Int) + 1) = ((j + 1 : Nat) : Int) := by rw [IntKind.wrap_i64]; omega
        clear hxx hx' hjL
        by_cases hz : x.1.size ≤ 200
        · have HJ2 : Hid (∀ (i : Nat) (y : Pr), i < j + 1 → Q[i]? = some y → y.1.size ≤ 200) := fun i y hi hy => by
            by_cases e : i = j
            · subst e
              rw [HXX.out] at hy
              cases hy
              exact hz
            · exact HJ.out i y (by omega) hy
          have hd : decide (200 < (x.1.size : Int)) = false := by simp; omega
          clear hz
          go_wp2_with fail
          go_roundg (qn - (j + 1))
          case measure => omega
          case rel => exact ⟨j + 1, hlt2, rfl, by go_num, HJ2, rfl⟩
        · have hd : (200 : Int) < (x.1.size : Int) := by omega
          have HNO : Hid (¬ P) := fun h => hz ((HP.out h).qk x (List.mem_of_getElem? HXX.out))
          clear hz
          go_wp2_with fail
          go_ret
          exact ⟨⟨true, rfl, (fun h => by cases h), fun h => absurd h HNO.out⟩, HW.out⟩
      · have HZ : Hid (∀ y, y ∈ Q → y.1.size ≤ 200) := fun x hx => by
          obtain ⟨i, hi⟩ := List.getElem?_of_mem hx
          have := (List.getElem?_eq_some_iff.1 hi).1
          rw [HQN.out] at this
          exact HJ.out i x (by omega) hi
        obtain rfl : j = qn := by omega
        clear hlt2
        go_wp2_with fail
        go_meet
        exact ⟨HZ, rfl⟩
  case rest =>
  obtain ⟨Hx2, rfl⟩ := hcut
  have HT : Hid P := HQ.out ⟨by rw [HKN.out]; exact HE.out.1, by rw [HPN.out]; exact HE.out.2.1, by rw [HBN.out]; exact HE.out.2.2.1, by rw [HQN.out]; exact HE.out.2.2.2, Hx0.out, Hx1.out, Hx2.out⟩
  go_wp2_with fail
  go_ret
  exact ⟨⟨false, rfl, (fun _ => HT.out), fun _ => rfl⟩, HW.out⟩
end No
end Go.Proofs.Ytlabbmfiecbigaa

namespace Go.Proofs.Ytlabbmfiecbigaa
open Go.RowKit
namespace Bu
open Mem Lx
set_option maxRecDepth 100000 in
set_option maxHeartbeats 2000000 in
theorem cmpKey_any (x : Mg) (key : ByteArray) (w : World) : Calls Try.prog 66 #[.agg #[.string x.1, .bool x.2.1, .string x.2.2], .string key] w fun e w' => e = .returned (.int .i64 (cmpB x.1 key)) ∧ Below w.heap.size w w' := by
  go_enter Try.func66, Try.ntmps66
  go_wp2_with (go_at_call 63; refine (CCmp _ _ _).mono ?_; rintro e w' ⟨rfl, hb⟩)
  go_ret
  exact ⟨rfl, ((Below.refl _ _).alloc (Nat.le_refl _) _).trans (hb.mono (by simp))⟩
/-- where a key stands, or would stand -/
structure Lb (L : List Mg) (key : ByteArray) (p : Nat) : Prop where
  le : p ≤ L.length
  lo : ∀ (i : Nat) (m : Mg), i < p → L[i]? = some m → cmpB m.1 key < 0
  hi : ∀ (i : Nat) (m : Mg), p ≤ i → L[i]? = some m → 0 ≤ cmpB m.1 key
theorem Ri.at_ {L : List Mg} (h : Ri L) {i j : Nat} {x y : Mg} (hx : L[i]? = some x) (hy : L[j]? = some y) (hij : i < j) : cmpB x.1 y.1 < 0 := by
  obtain ⟨h1, e1⟩ := List.getElem?_eq_some_iff.1 hx
  obtain ⟨h2, e2⟩ := List.getElem?_eq_some_iff.1 hy
  subst e1 e2
  exact List.pairwise_iff_getElem.1 h i j h1 h2 hij
theorem Ri.lower {L : List Mg} (h : Ri L) {key : ByteArray} {j : Nat} {y : Mg} (hy : L[j]? = some y) (hk : cmpB y.1 key < 0) : ∀ (i : Nat) (m : Mg), i < j + 1 → L[i]? = some m → cmpB m.1 key < 0 := fun i m hi hm => by
  rcases Nat.lt_or_ge i j with hij | hij
  · exact cmpB_trans (h.at_ hm hy hij) hk
  · obtain rfl : i = j := by omega
    rw [hy] at hm
    cases hm
    exact hk
theorem Ri.upper {L : List Mg} (h : Ri L) {key : ByteArray} {j : Nat} {y : Mg} (hy : L[j]? = some y) (hk : 0 ≤ cmpB y.1 key) : ∀ (i : Nat) (m : Mg), j ≤ i → L[i]? = some m → 0 ≤ cmpB m.1 key := fun i m hi hm => by
  rcases Nat.lt_or_ge j i with hij | hij
  · have h1 := h.at_ hy hm hij
    rcases Int.lt_or_le (cmpB m.1 key) 0 with h2 | h2
    · have := cmpB_trans h1 h2
      omega
    · exact h2
  · obtain rfl : i = j := by omega
    rw [hy] at hm
    cases hm
    exact hk
set_option maxRecDepth 100000 in
set_option maxHeartbeats 4000000 in
theorem search_any {W : World} {A : Option Addr} {c : Nat} {L : List Mg} (h : ML W A L) (key : ByteArray) (hr : Ri L) (hl : L.length ≤ 1048576) : Calls Try.prog 65 #[.slice A L.length c, .string key, .func (.func 66) #[] #[]] W fun e w' => (∃ (p : Nat) (b : Bool), e = .returned (.tuple #[.int .i64 (p : Int), .bool b]) ∧ Lb L key p ∧ (b = true ↔ ∃ m, L[p]? = some m ∧ m.1 = key)) ∧ Below W.heap.size W w' := by
  obtain ⟨n, hn⟩ : ∃ n, n = L.length := ⟨_, rfl⟩
  have HN := Lib.hid hn
  have HH := Lib.hid h
  have HR := Lib.hid hr
  rw [← hn] at hl ⊢
  clear h hr hn
  go_enter Try.func65, Try.ntmps65
  go_wp2_with fail
  go_loopg [9, 10] n (fun gk s9 s10 wr => ∃ lo hi : Nat, lo ≤ hi ∧ hi ≤ n ∧ gk = hi - lo ∧ s9 = .int .i64 (lo : Int) ∧ s10 = .int .i64 (hi : Int) ∧ Hid (∀ (i : Nat) (m : Mg), i < lo → L[i]? = some m → cmpB m.1 key < 0) ∧ Hid (∀ (i : Nat) (m : Mg), hi ≤ i → L[i]? = some m → 0 ≤ cmpB m.1 key) ∧ Hid (Below W.heap.size W wr))
  case atStart => exact ⟨0, n, Nat.zero_le _, Nat.le_refl _, rfl, rfl, rfl, fun i m hi => by omega, fun i m hi hm => by
    have := (List.getElem?_eq_some_iff.1 hm).1
    rw [← HN.out] at this
    omega, Below.refl _ _⟩
  case round =>
    obtain ⟨lo, hi, hlh, hhn, rfl, rfl, rfl, HL, HU, HB⟩ := hrel
    by_cases hlt : lo < hi
    · obtain ⟨k, hk⟩ : ∃ k, k = (lo + hi) / 2 := ⟨_, rfl⟩
      have hk1 : lo ≤ k := by omega
      have hk2 : k < hi := by omega
      have hkn : k < n := by omega
      have hj : k < L.length := by rw [← HN.out]; exact hkn
      obtain ⟨x, hx⟩ : ∃ x, x = L[k] := ⟨_, rfl⟩
      have hx' := nat_len hj
      rw [← hx] at hx'
      obtain ⟨b, o, e, -, c0, c1, c2⟩ := RdK.msg (HH.out.kept HB.out) hx'
      subst e
      have HX := Lib.hid hx'
      have cC := fun w => Lib.hid (cmpKey_any x key w)
      have hw1 : IntKind.i64.wrap ((lo : Int) + (hi : Int)) = (lo : Int) + (hi : Int) := by rw [IntKind.wrap_i64]; omega
      have hw2 : IntKind.i64.wrap ((k : Int) + 1) = ((k + 1 : Nat) : Int) := by rw [IntKind.wrap_i64]; omega
      have hq : ((lo : Int) + (hi : Int)) / 2 = (k : Int) := by omega
      have hsh : ∀ w, (binOp .shr 103 (.int .u64 ((lo : Int) + (hi : Int))) (.int .u64 1)).run Try.prog w = .ok (.int .u64 (k : Int)) w := fun w => by
        rw [← hq]
        simp [go_sem]
      have hw3 : IntKind.i64.wrap (k : Int) = (k : Int) := by rw [IntKind.wrap_i64]; omega
      have HQ := Lib.hid hq
      have HK := Lib.hid hk
      clear hx hx' hj hq hk hsh
      go_upto_region 5 with fail
      rw [HQ.out]
      by_cases hz : cmpB x.1 key < 0
      · have HL2 : Hid (∀ (i : Nat) (m : Mg), i < k + 1 → L[i]? = some m → cmpB m.1 key < 0) := HR.out.lower HX.out hz
        generalize cmpB x.1 key = z at *
        go_wp2_with (go_at_call 66; refine (cC _).out.mono ?_; rintro e w' ⟨rfl, hb⟩)
        have HB2 := Lib.hid (HB.out.trans (hb.mono HB.out.size))
        go_roundg (hi - (k + 1))
        case measure => omega
        case rel => exact ⟨k + 1, hi, by omega, hhn, rfl, by go_num, rfl, HL2, HU, HB2⟩
      · have HU2 : Hid (∀ (i : Nat) (m : Mg), k ≤ i → L[i]? = some m → 0 ≤ cmpB m.1 key) := HR.out.upper HX.out (by omega)
        have hd : decide (cmpB x.1 key < 0) = false := by simpa using hz
        generalize cmpB x.1 key = z at *
        go_wp2_with (go_at_call 66; refine (cC _).out.mono ?_; rintro e w' ⟨rfl, hb⟩)
        have HB2 := Lib.hid (HB.out.trans (hb.mono HB.out.size))
        go_roundg (k - lo)
        case measure => omega
        case rel => exact ⟨lo, k, hk1, by omega, rfl, rfl, rfl, HL, HU2, HB2⟩
    · obtain rfl : lo = hi := by omega
      have HP : Hid (Lb L key lo) := ⟨by rw [← HN.out]; exact hhn, HL.out, HU.out⟩
      by_cases hnn : lo < n
      · have hj : lo < L.length := by rw [← HN.out]; exact hnn
        obtain ⟨x, hx⟩ : ∃ x, x = L[lo] := ⟨_, rfl⟩
        have hx' := nat_len hj
        rw [← hx] at hx'
        obtain ⟨b, o, e, -, c0, c1, c2⟩ := RdK.msg (HH.out.kept HB.out) hx'
        subst e
        have HX := Lib.hid hx'
        have cC := fun w => Lib.hid (cmpKey_any x key w)
        clear hx hx' hj
        by_cases hz : cmpB x.1 key = 0
        · have HF : Hid (∃ m, L[lo]? = some m ∧ m.1 = key) := ⟨x, HX.out, cmpB_zero hz⟩
          generalize cmpB x.1 key = z at *
          go_wp2_with (go_at_call 66; refine (cC _).out.mono ?_; rintro e w' ⟨rfl, hb⟩)
          have HB2 := Lib.hid (HB.out.trans (hb.mono HB.out.size))
          exact bodyPost_ret (v := .tuple #[.int .i64 (lo : Int), .bool true]) (by simp [results, Try.results65, go_sem]) rfl ⟨⟨lo, true, rfl, HP.out, by simpa using HF.out⟩, HB2.out⟩
        · have HF : Hid (¬ ∃ m, L[lo]? = some m ∧ m.1 = key) := fun ⟨m, h1, h2⟩ => hz (by
            rw [HX.out] at h1
            cases h1
            rw [h2]
            exact cmpB_self key)
          have hd : decide (cmpB x.1 key = 0) = false := by simpa using hz
          generalize cmpB x.1 key = z at *
          go_wp2_with (go_at_call 66; refine (cC _).out.mono ?_; rintro e w' ⟨rfl, hb⟩)
          have HB2 := Lib.hid (HB.out.trans (hb.mono HB.out.size))
          exact bodyPost_ret (v := .tuple #[.int .i64 (lo : Int), .bool false]) (by simp [results, Try.results65, go_sem, hz]) rfl ⟨⟨lo, false, rfl, HP.out, by simpa using HF.out⟩, HB2.out⟩
      · have HF : Hid (¬ ∃ m, L[lo]? = some m ∧ m.1 = key) := fun ⟨m, h1, _⟩ => hnn (by
          have := (List.getElem?_eq_some_iff.1 h1).1
          rw [HN.out]
          exact this)
        have hge : n ≤ lo := by omega
        have hd : decide ((lo : Int) < (n : Int)) = false := by simp; omega
        clear hnn hlt
        go_wp2_with fail
        exact bodyPost_ret (v := .tuple #[.int .i64 (lo : Int), .bool false]) (by simp [results, Try.results65, go_sem]) rfl ⟨⟨lo, false, rfl, HP.out, by simpa using HF.out⟩, HB.out⟩
set_option maxRecDepth 100000 in
set_option maxHeartbeats 2000000 in
theorem place_any {W : World} {A : Option Addr} {c : Nat} {L : List Mg} (h : ML W A L) (key : ByteArray) (hr : Ri L) (hl : L.length ≤ 1048576) : Calls Try.prog 57 #[.slice A L.length c, .string key] W fun e w' => (∃ (p : Nat) (b : Bool), e = .returned (.tuple #[.int .i64 (p : Int), .bool b]) ∧ Lb L key p ∧ (b = true ↔ ∃ m, L[p]? = some m ∧ m.1 = key)) ∧ Below W.heap.size W w' := by
  have cS := Lib.hid (search_any (c := c) h key hr hl)
  clear h
  generalize L.length = n at *
  go_enter Try.func57, Try.ntmps57
  go_wp2_with (go_at_call 65; refine cS.out.mono ?_; rintro e w' ⟨⟨p, b, rfl, h1, h2⟩, hb⟩)
  exact bodyPost_ret (v := .tuple #[.int .i64 (p : Int), .bool b]) (by simp [results, Try.results57, go_sem]) rfl ⟨⟨p, b, rfl, h1, h2⟩, hb⟩
end Bu
end Go.Proofs.Ytlabbmfiecbigaa

namespace Go.Proofs.Ytlabbmfiecbigaa
open Go.RowKit
namespace Bu
open Mem Lx
/-- the message of a key -/
def findD (L : List Mg) (key : ByteArray) : Option Mg := L.find? fun m => decide (m.1 = key)
theorem findD_at {L : List Mg} {key : ByteArray} {k : Nat} {x : Mg} (hx : L[k]? = some x) (h : x.1 = key) (hn : ∀ i m, i < k → L[i]? = some m → m.1 ≠ key) : findD L key = some x := by
  unfold findD
  rw [List.find?_eq_some_iff_getElem]
  have hk := (List.getElem?_eq_some_iff.1 hx).1
  refine ⟨by simpa using h, k, hk, ?_, fun j hj => ?_⟩
  · rw [List.getElem?_eq_getElem hk] at hx
    exact Option.some.inj hx
  · have := hn j L[j] hj (List.getElem?_eq_getElem (Nat.lt_trans hj hk))
    simpa using this
theorem findD_none {L : List Mg} {key : ByteArray} (hn : ∀ i m, i < L.length → L[i]? = some m → m.1 ≠ key) : findD L key = none := by
  unfold findD
  rw [List.find?_eq_none]
  intro x hx
  obtain ⟨j, hj⟩ := List.getElem?_of_mem hx
  have := hn j x (List.getElem?_eq_some_iff.1 hj).1 hj
  simpa using this
end Bu
end Go.Proofs.Ytlabbmfiecbigaa
