/-
  Arguments opened: slices of bytes and of numbers, unsigned numbers. No program.
-/
import Derived.ProofKit
import Derived.Lib.SmallJoins
import Derived.Test.YteefkhgmcknbaaaBytes
namespace Go.Proofs.Yteefkhgmcknbaaa.Args
open Go.RowKit Go.WideShapes Go.ChangeShapes Mem
section
variable {H : Type} {enc : TypeId × Value → H} {P : Program} {W : World}

theorem nat_of_u8 {x : Int} (h : (Lit.int .u8 x).wf = true) : ∃ n : Nat, x = n ∧ n < 256 := by
  have h1 : IntKind.u8.min = 0 := rfl
  have h2 : IntKind.u8.max = 255 := rfl
  simp only [Lit.wf, Bool.and_eq_true, decide_eq_true_eq] at h
  exact ⟨x.toNat, by omega, by omega⟩
theorem nat_of_u32 {x : Int} (h : (Lit.int .u32 x).wf = true) : ∃ n : Nat, x = n ∧ n < 4294967296 := by
  have h1 : IntKind.u32.min = 0 := rfl
  have h2 : IntKind.u32.max = 4294967295 := rfl
  simp only [Lit.wf, Bool.and_eq_true, decide_eq_true_eq] at h
  exact ⟨x.toNat, by omega, by omega⟩
theorem nat_of_u16 {x : Int} (h : (Lit.int .u16 x).wf = true) : ∃ n : Nat, x = n ∧ n < 65536 := by
  have h1 : IntKind.u16.min = 0 := rfl
  have h2 : IntKind.u16.max = 65535 := rfl
  simp only [Lit.wf, Bool.and_eq_true, decide_eq_true_eq] at h
  exact ⟨x.toNat, by omega, by omega⟩
theorem nat_of_u64 {x : Int} (h : (Lit.int .u64 x).wf = true) : ∃ n : Nat, x = n ∧ n < 18446744073709551616 := by
  have h1 : IntKind.u64.min = 0 := rfl
  have h2 : IntKind.u64.max = 18446744073709551615 := rfl
  simp only [Lit.wf, Bool.and_eq_true, decide_eq_true_eq] at h
  exact ⟨x.toNat, by omega, by omega⟩
theorem i64_bounds {x : Int} (h : (Lit.int .i64 x).wf = true) : -9223372036854775808 ≤ x ∧ x ≤ 9223372036854775807 := by
  have h1 : IntKind.i64.min = -9223372036854775808 := rfl
  have h2 : IntKind.i64.max = 9223372036854775807 := rfl
  simp only [Lit.wf, Bool.and_eq_true, decide_eq_true_eq] at h
  omega

/-- a slice of numbers -/
def NL (w : World) (k : IntKind) (p : Option Addr) (zs : List Int) : Prop :=
  0 < zs.length → ∃ b o, p = some ⟨b, o, none⟩ ∧ ∀ i (h : i < zs.length), w.cell? ⟨b, o + i, none⟩ = some (.int k zs[i])
set_option maxRecDepth 100000 in
theorem open_nums {t e : TypeId} {k : IntKind} (ht : P.underlying t = some (.slice e)) (he : P.underlying e = some (.int k)) (hc : P.cellsOf e = 1) {v : Value} {d : DataW H} {p : List MemPlace} {r : Reach} {b0 : Nat} (hv : Value.okWide P W r b0 t v)
    (h : DataW.Trod enc P W 0 (fun _ => true) true t v d p) : ∃ (A : Option Addr) (zs : List Int) (c : Nat), v = .slice A zs.length c ∧ NL W k A zs ∧ zs.length ≤ c ∧ c ≤ maxLen ∧ ∀ z ∈ zs, (Lit.int k z).wf = true := by
  obtain ⟨a0, len, cap, rfl⟩ := okWide_slice ht hv
  obtain ⟨fuel, hf⟩ := h
  rcases open_ints ht he hc hf with ⟨hcs, _⟩ | ⟨a, len', cap', zs, hcs, _, hl, hm, hz, _, hcell, hwz⟩
  · simp [Value.cells] at hcs
    obtain ⟨rfl, rfl, rfl⟩ := hcs
    exact ⟨none, [], 0, rfl, fun h => absurd h (by simp), Nat.le_refl _, Nat.zero_le _, fun z hz => by cases hz⟩
  · simp [Value.cells] at hcs
    obtain ⟨rfl, rfl, rfl⟩ := hcs
    simp only [if_true] at hz
    have htl : (zs.take len).length = len := by simp; omega
    refine ⟨some a, zs.take len, cap, by rw [htl], fun hpos => ?_, by rw [htl]; exact hl, hm, fun z hz' => hwz z (List.mem_of_mem_take hz')⟩
    rw [htl] at hpos
    obtain ⟨b, o, sp⟩ := a
    have h0 := hcell 0 (by omega)
    obtain rfl : sp = none := by simpa [Addr.add] using World.cell?_spot h0
    refine ⟨b, o, rfl, fun i hi => ?_⟩
    rw [htl] at hi
    have h1 := hcell i (by omega)
    have e : (⟨b, o, none⟩ : Addr).add i = ⟨b, o + i, none⟩ := by unfold Addr.add; split <;> simp_all
    rw [e] at h1
    rw [h1]
    simp [List.getD, show i < zs.length by omega]

set_option maxRecDepth 100000 in
/-- an argument of type []byte -/
theorem open_bytes {t e : TypeId} (ht : P.underlying t = some (.slice e)) (he : P.underlying e = some (.int .u8)) (hc : P.cellsOf e = 1) {v : Value} {d : DataW H} {p : List MemPlace} {r : Reach} {b0 : Nat} (hv : Value.okWide P W r b0 t v)
    (h : DataW.Trod enc P W 0 (fun _ => true) true t v d p) : ∃ (A : Option Addr) (l : List UInt8) (c : Nat), v = .slice A l.length c ∧ BL W A l ∧ l.length ≤ c ∧ c ≤ maxLen := by
  obtain ⟨A, zs, c, rfl, hN, hl, hm, hw⟩ := open_nums ht he hc hv h
  refine ⟨A, zs.map fun z => UInt8.ofNat z.toNat, c, by simp, fun hpos => ?_, by simpa using hl, hm⟩
  simp only [List.length_map] at hpos
  obtain ⟨b, o, rfl, hcell⟩ := hN hpos
  refine ⟨b, o, rfl, fun i hi => ?_⟩
  simp only [List.length_map] at hi
  rw [hcell i hi]
  obtain ⟨n, hn, hlt⟩ := nat_of_u8 (hw zs[i] (List.getElem_mem hi))
  simp [byteV, hn]; omega
/-- an argument of type []uint64 -/
def UL (w : World) (p : Option Addr) (ns : List Nat) : Prop := NL w .u64 p (ns.map fun n : Nat => (n : Int))
set_option maxRecDepth 100000 in
theorem open_u64s {t e : TypeId} (ht : P.underlying t = some (.slice e)) (he : P.underlying e = some (.int .u64)) (hc : P.cellsOf e = 1) {v : Value} {d : DataW H} {p : List MemPlace} {r : Reach} {b0 : Nat} (hv : Value.okWide P W r b0 t v)
    (h : DataW.Trod enc P W 0 (fun _ => true) true t v d p) : ∃ (A : Option Addr) (ns : List Nat) (c : Nat), v = .slice A ns.length c ∧ UL W A ns ∧ ns.length ≤ c ∧ c ≤ maxLen ∧ ∀ n ∈ ns, n < 18446744073709551616 := by
  obtain ⟨A, zs, c, rfl, hN, hl, hm, hw⟩ := open_nums ht he hc hv h
  have hz : (zs.map Int.toNat).map (fun n : Nat => (n : Int)) = zs := by
    rw [List.map_map]
    refine (List.map_congr_left (g := id) fun z hz => ?_).trans (List.map_id zs)
    obtain ⟨n, hn, _⟩ := nat_of_u64 (hw z hz)
    simp [hn]
  refine ⟨A, zs.map Int.toNat, c, by simp, by unfold UL; rw [hz]; exact hN, by simpa using hl, hm, fun n hn => ?_⟩
  obtain ⟨z, hz, rfl⟩ := List.mem_map.1 hn
  obtain ⟨n, rfl, hlt⟩ := nat_of_u64 (hw z hz)
  simpa using hlt
theorem UL.at_ {w : World} {p : Option Addr} {ns : List Nat} (h : UL w p ns) {i : Nat} (hi : i < ns.length) : ∃ b o, p = some ⟨b, o, none⟩ ∧ w.cell? ⟨b, o + i, none⟩ = some (.int .u64 (ns[i] : Int)) := by
  obtain ⟨b, o, e, hc⟩ := h (by simp; omega)
  exact ⟨b, o, e, by rw [hc i (by simpa using hi)]; simp⟩
end
end Go.Proofs.Yteefkhgmcknbaaa.Args
