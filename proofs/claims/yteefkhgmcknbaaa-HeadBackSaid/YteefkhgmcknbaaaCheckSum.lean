/-
  Contracts of layer check: Sum, Right; the document's Join; the law's great and awake.
-/
import Derived.Test.YteefkhgmcknbaaaCheckMore
import Derived.Test.YteefkhgmcknbaaaTexts
import Derived.WalkSpells
import Derived.Lib.SlBytesConst
namespace Go.Proofs.Yteefkhgmcknbaaa
open Go.RowKit
namespace Ck
open Mem

theorem u8info : (Try.prog.info? 5).map (fun i => (i.zero, i.size, i.bytes)) = some (some (.int .u8 0), 1, 1) := by kernel_rfl
theorem ret_bool {a b : Bool} (h : a = b) : Ending.returned (.bool a) = .returned (.bool b) := by rw [h]
theorem below_trans {a b c : World} (h : Below a.heap.size a b) (k : Below b.heap.size b c) : Below a.heap.size a c := h.trans (k.mono h.size)

set_option maxHeartbeats 1000000 in
theorem Sum_any (p : Option Addr) (c : Nat) (ls : List (List UInt8)) (w : World) (h : LL w p ls) (hl : ls.length ≤ 140737488355328) (hs : ∀ l ∈ ls, l.length ≤ 140737488355328) :
    Calls Try.prog 16 #[.slice p ls.length c] w fun e w' => e = .returned (.int .u32 (sum ls : Int)) ∧ w = w' := by
  have cM := fun s p c l h hl hs => Lib.hid (More_any s p c l w h hl hs)
  have HS := Lib.hid hs
  obtain ⟨n, hn⟩ : ∃ n, n = ls.length := ⟨_, rfl⟩
  have HN := Lib.hid hn
  rw [← hn] at hl ⊢
  have HB := Lib.hid h
  clear hn h hs
  go_enter Try.func16, Try.ntmps16
  go_wp2
  go_loopw [3, 8] (fun x i wr => ∃ k : Nat, k ≤ n ∧ i = .int .i64 k ∧ x = .int .u32 (sum (ls.take k) : Int) ∧ w = wr) (fun _ i _ => n - (intOf i).toNat)
  case atStart => exact ⟨0, Nat.zero_le _, rfl, rfl, rfl⟩
  case round =>
    obtain ⟨k, hk, rfl, rfl, rfl⟩ := hrel
    by_cases hlt : k < n
    · have hkl : k < ls.length := by rw [← HN.out]; exact hlt
      obtain ⟨b, o, A, c1, rfl, hc, hbl, -⟩ := HB.out.at_ hkl
      obtain ⟨l, hll⟩ : ∃ l, l = ls[k] := ⟨_, rfl⟩
      have HSK : Hid (sum (ls.take (k + 1)) = more (sum (ls.take k)) l) := by rw [hll]; exact sum_take ls hkl
      have hlm := HS.out l (by rw [hll]; exact List.getElem_mem _)
      rw [← hll] at hc hbl
      have cM1 := cM (sum (ls.take k)) A c1 l hbl hlm (sum_lt _)
      obtain ⟨q, hq⟩ : ∃ q, q = l.length := ⟨_, rfl⟩
      rw [← hq] at hc cM1
      clear hll hkl hlm hbl hq cM
      go_wp2_with (go_at_call 30; refine cM1.out.mono ?_; rintro e w1 ⟨rfl, rfl⟩)
      exact ⟨⟨k + 1, hlt, by go_num, by rw [HSK.out], trivial⟩, by simp [intOf]; omega⟩
    · obtain rfl : k = n := by omega
      clear cM
      go_wp2
      go_ret
      exact ⟨ret_u32 (by rw [List.take_of_length_le (by rw [HN.out]; exact Nat.le_refl _)]), rfl⟩

set_option maxHeartbeats 1000000 in
theorem Right_any (p : Option Addr) (c : Nat) (l : List UInt8) (s : Int) (w : World) (h : BL w p l) (hl : l.length ≤ c) (hs : l.length ≤ 140737488355328) :
    Calls Try.prog 28 #[.slice p l.length c, .int .u32 s] w fun e w' => e = .returned (.bool ((more 1 l : Int) == s)) ∧ Below w.heap.size w w' := by
  have cS := fun (w' : World) (g : Nat) (U : TypeId) (fl : Nat × Nat) (h1 : w'.heap[g]? = some (.cells #[.slice p l.length c] U fl)) (h2 : BL w' p l) => Lib.hid (Sum_any (some ⟨g, 0, none⟩) 1 [l] w' (LL.one h1 h2 hl) (by simp) (by simpa using hs))
  rw [sum_one] at cS
  have HB := Lib.hid h
  obtain ⟨n, hn⟩ : ∃ n, n = l.length := ⟨_, rfl⟩
  rw [← hn] at cS ⊢
  clear hn hl hs h
  go_enter Try.func28, Try.ntmps28
  go_wp2_with (go_at_call 16; refine (cS _ _ _ _ (heap_alloc_new w _) (HB.out.alloc _)).out.mono ?_; rintro e w1 ⟨rfl, rfl⟩)
  go_ret
  exact ⟨rfl, (Below.refl _ _).alloc (Nat.le_refl _) _⟩

/-- how long the first texts are together -/
def lens (ls : List (List UInt8)) : Nat := (ls.map List.length).sum
theorem lens_take (ls : List (List UInt8)) {k : Nat} (h : k < ls.length) : lens (ls.take (k + 1)) = lens (ls.take k) + ls[k].length := by
  unfold lens
  rw [List.take_succ_eq_append_getElem h, List.map_append, List.sum_append]; simp
theorem lens_flat (ls : List (List UInt8)) : ls.flatten.length = lens ls := by simp [lens, List.length_flatten]
def grB (ls : List (List UInt8)) : Bool := decide (60 < ls.length) || decide (20000 < lens (ls.take 100))
theorem grB_not {ls : List (List UInt8)} (h : grB ls = false) : ls.length ≤ 60 ∧ lens ls ≤ 20000 := by
  unfold grB at h
  simp only [Bool.or_eq_false_iff, decide_eq_false_iff_not] at h
  have h2 : ls.take 100 = ls := List.take_of_length_le (by omega)
  rw [h2] at h
  omega


theorem own_block {U : TypeId} {w : World} {B : Nat} {v : Value} {l : List UInt8} (h : Own U w B v l) {g : Nat} (hg : v.ownBlock = some g) : B ≤ g := by
  obtain ⟨_, h2⟩ := h
  rcases h2 with ⟨rfl, _⟩ | ⟨g', cap, cur, rfl, hB, _⟩
  · simp [Value.ownBlock] at hg
  · have : g' = g := by simpa [Value.ownBlock] using hg
    omega


theorem more_a : more 1 [97] = 6422626 := by decide
theorem sum_none : sum [] = 1 := by decide
end Ck
end Go.Proofs.Yteefkhgmcknbaaa
