/-
  The calls of layer dev's laws, as they lie in memory; Write whatever is handed in.
-/
import Derived.Test.YtlkakknelkeegaaDevAwake
import Derived.Test.YtlkakknelkeegaaStructsW
namespace Go.Proofs.Ytlkakknelkeegaa
open Go.RowKit Go.WideShapes Go.ChangeShapes
namespace Dv
open Mem

/-- a slice of calls: kind, place, bytes -/
structure ActC (w : World) (b o : Nat) (x : Int × Nat × List UInt8) : Prop where
  kd : w.cell? ⟨b, o, none⟩ = some (.int .i64 x.1)
  at_ : w.cell? ⟨b, o + 1, none⟩ = some (.int .u32 (x.2.1 : Int))
  bs : ∃ A c, w.cell? ⟨b, o + 2, none⟩ = some (.slice A x.2.2.length c) ∧ BL w A x.2.2 ∧ x.2.2.length ≤ c
  lt : x.2.1 < 4294967296
  sz : x.2.2.length ≤ 140737488351232
def ActL (w : World) (p : Option Addr) (l : List (Int × Nat × List UInt8)) : Prop :=
  0 < l.length → ∃ b o, p = some ⟨b, o, none⟩ ∧ ∀ i (h : i < l.length), ActC w b (o + i * 3) l[i]
theorem ActL.at_ {w : World} {p : Option Addr} {l : List (Int × Nat × List UInt8)} (h : ActL w p l) {i : Nat} (hi : i < l.length) : ∃ b o x, p = some ⟨b, o, none⟩ ∧ ActC w b (o + i * 3) x := by
  obtain ⟨b, o, e, hc⟩ := h (by omega)
  exact ⟨b, o, _, e, hc i hi⟩
theorem cell_after {W w' : World} (hb : Below W.heap.size W w') {a : Addr} {v : Value} (h : W.cell? a = some v) : w'.cell? a = some v := (hb.cell (Flow.lt_of_cell h)).trans h
theorem ActC.kept {w w' : World} {b o : Nat} {x : Int × Nat × List UInt8} (h : ActC w b o x) (hb : Below w.heap.size w w') : ActC w' b o x := by
  obtain ⟨A, c, h1, h2, h3⟩ := h.bs
  exact ⟨cell_after hb h.kd, cell_after hb h.at_, ⟨A, c, cell_after hb h1, h2.below hb, h3⟩, h.lt, h.sz⟩

theorem open_acts {H : Type} {enc : TypeId × Value → H} {W : World} {v : Value} {d : DataW H} {p : List MemPlace} {r : Reach} {b0 : Nat} (hv : Value.okWide Try.prog W r b0 22 v) (h : DataW.Trod enc Try.prog W 0 (fun _ => true) true 22 v d p)
    (hz : ∀ n ∈ d.weights Try.prog 22, n ≤ reachBytes) :
    ∃ (A : Option Addr) (ac : List (Int × Nat × List UInt8)) (c : Nat), v = .slice A ac.length c ∧ ActL W A ac ∧ ac.length ≤ c ∧ c ≤ maxLen := by
  obtain ⟨A, len, c, rfl, hl, hm, hc⟩ := Args.open_structs_w Try.underlying22 Try.underlying36 (by kernel_rfl) (by kernel_rfl) (by decide) hv h
  by_cases h0 : 0 < len
  · obtain ⟨b, o, rfl, hcell⟩ := hc h0
    have each : ∀ i, i < len → ∃ x : Int × Nat × List UInt8, ActC W b (o + i * 3) x := by
      intro i hi
      obtain ⟨u0, y0, n0, e0, t0, _⟩ := hcell i hi 0 _ rfl
      obtain ⟨u1, y1, n1, e1, t1, _⟩ := hcell i hi 1 _ rfl
      obtain ⟨u2, y2, n2, e2, t2, k2⟩ := hcell i hi 2 _ rfl
      obtain ⟨z0, hz0, _, _⟩ := DataW.trod_int Try.underlying3 t0
      obtain rfl : u0 = _ := by simpa using hz0
      obtain ⟨z1, hz1, _, m1⟩ := DataW.trod_int Try.underlying33 t1
      obtain rfl : u1 = _ := by simpa using hz1
      obtain ⟨j1, rfl, b1⟩ := Args.nat_of_u32 m1
      obtain ⟨B, bs, cb, hz2, hb2, hl2, _, hw2⟩ := Args.bytes_of_cells Try.underlying34 Try.underlying5 (by kernel_rfl) t2
      obtain rfl : u2 = _ := by simpa using hz2
      have h3 := hw2 (by kernel_rfl) (fun n hn => hz n (k2 n hn))
      have hR : reachBytes ≤ 140737488351232 := by decide
      exact ⟨(z0, j1, bs), ⟨by simpa using e0, by rw [Nat.add_assoc]; simpa using e1, ⟨B, cb, by rw [Nat.add_assoc]; simpa using e2, hb2, hl2⟩, b1, Nat.le_trans h3 hR⟩⟩
    have each' : ∀ i, ∃ x : Int × Nat × List UInt8, i < len → ActC W b (o + i * 3) x := fun i => by
      by_cases hh : i < len
      · obtain ⟨x, hx⟩ := each i hh
        exact ⟨x, fun _ => hx⟩
      · exact ⟨(0, 0, []), fun h1 => absurd h1 hh⟩
    let F := fun i => Classical.choose (each' i)
    have hF : ∀ i, i < len → ActC W b (o + i * 3) (F i) := fun i => Classical.choose_spec (each' i)
    refine ⟨some ⟨b, o, none⟩, (List.range len).map F, c, by simp, fun _ => ⟨b, o, rfl, fun i hi => ?_⟩, by simpa using hl, hm⟩
    have hi' : i < len := by simpa using hi
    simp only [List.getElem_map, List.getElem_range]
    exact hF i hi'
  · obtain rfl : len = 0 := by omega
    exact ⟨A, [], c, rfl, fun h => absurd h (by simp), Nat.zero_le _, hm⟩

/-- what Write answers, and leaves -/
def wrE (ls : List (List UInt8)) (m i : Nat) (l : List UInt8) : Int := if i < ls.length then if l.length = m then 0 else 3 else 4
def wrT (ls : List (List UInt8)) (m i : Nat) (l : List UInt8) : List (List UInt8) := if wrE ls m i l = 0 then ls.set i l else ls
def wrS (ls : List (List UInt8)) (m i : Nat) (l : List UInt8) (s : Nat) : Nat := if wrE ls m i l = 0 then s + 1 else s
theorem wr_ok {ls : List (List UInt8)} {m i : Nat} {l : List UInt8} (h : wrE ls m i l = 0) : i < ls.length ∧ l.length = m := by
  unfold wrE at h
  split at h
  · split at h
    · exact ⟨‹_›, ‹_›⟩
    · cases h
  · cases h
theorem wrT_len (ls : List (List UInt8)) (m i : Nat) (l : List UInt8) : (wrT ls m i l).length = ls.length := by
  unfold wrT; split <;> simp
theorem wrS_le (ls : List (List UInt8)) (m i : Nat) (l : List UInt8) (s : Nat) : wrS ls m i l s ≤ s + 1 := by
  unfold wrS; split <;> omega
def Pt (W w w' : World) (S : List Nat) (g m : Nat) (ls : List (List UInt8)) (r s i : Nat) (l : List UInt8) (e : Ending) : Prop := ∃ S', e = .returned (.int .i64 (wrE ls m i l)) ∧ Dw W w' S' g m (wrT ls m i l) r (wrS ls m i l s) ∧ Grew w S S' ∧ Flow.Into S w w'
theorem Dw.Put {W w : World} {S : List Nat} {g m : Nat} {ls : List (List UInt8)} {r s : Nat} (h : Dw W w S g m ls r s) (i : Nat) (hs : s ≤ 1000000) (A : Option Addr) (k : Nat) (l : List UInt8) (hA : BL w A l) (hn : 0 < l.length → ∀ a, A = some a → a.block ∉ S) :
    Calls Try.prog 13 #[.pointer (some ⟨g, 0, none⟩), .int .u32 (i : Int), .slice A l.length k] w fun e w' => Pt W w w' S g m ls r s i l e := by
  by_cases hi : i < ls.length
  · by_cases hl : l.length = m
    · have e1 : wrE ls m i l = 0 := by unfold wrE; rw [if_pos hi, if_pos hl]
      have e2 : wrT ls m i l = ls.set i l := by unfold wrT; rw [if_pos e1]
      have e3 : wrS ls m i l s = s + 1 := by unfold wrS; rw [if_pos e1]
      unfold Pt
      rw [e1, e2, e3]
      have h0 : 0 < l.length := by rw [hl]; exact h.dv.m1
      have := h.Write i hi hs A k l hl hA (hn h0)
      rw [← hl] at this ⊢
      exact this
    · have e1 : wrE ls m i l = 3 := by unfold wrE; rw [if_pos hi, if_neg hl]
      have e2 : wrT ls m i l = ls := by unfold wrT; rw [if_neg (by rw [e1]; decide)]
      have e3 : wrS ls m i l s = s := by unfold wrS; rw [if_neg (by rw [e1]; decide)]
      unfold Pt
      rw [e1, e2, e3]
      exact (Write_form h.dv i A l.length k hi hl).mono fun e w' ⟨he, hw⟩ => ⟨S, he, hw ▸ h, fun k hk => .inl hk, hw ▸ Flow.Into.refl _ _⟩
  · have e1 : wrE ls m i l = 4 := by unfold wrE; rw [if_neg hi]
    have e2 : wrT ls m i l = ls := by unfold wrT; rw [if_neg (by rw [e1]; decide)]
    have e3 : wrS ls m i l s = s := by unfold wrS; rw [if_neg (by rw [e1]; decide)]
    unfold Pt
    rw [e1, e2, e3]
    exact (Write_out h.dv i _ (by omega)).mono fun e w' ⟨he, hw⟩ => ⟨S, he, hw ▸ h, fun k hk => .inl hk, hw ▸ Flow.Into.refl _ _⟩
end Dv
end Go.Proofs.Ytlkakknelkeegaa
