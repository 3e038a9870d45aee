/-
  The library's Clone, Grow, Concat at lists of messages.
-/
import Derived.Test.YtmgmkfophdjidaaBufPlain
import Derived.Lib.AppendZeros
import Derived.Lib.SliceRun
namespace Go.Proofs.Ytmgmkfophdjidaa
open Go.RowKit
namespace Bu
open Mem Lx
theorem RdK.none_ {w : World} {L : List Mg} (h : ML w none L) : L = [] := by
  cases L with
  | nil => rfl
  | cons y l => obtain ⟨_, _, e, _⟩ := h (by simp); cases e
set_option maxRecDepth 100000 in
set_option maxHeartbeats 2000000 in
theorem Clone_any {W : World} {A : Option Addr} {c : Nat} {L : List Mg} (h : ML W A L) (hl : L.length ≤ 1048576) : Calls Try.prog 30 #[.slice A L.length c] W fun e w' => (∃ A' c', e = .returned (.slice A' L.length c') ∧ M3 w' W.heap.size A' c' L) ∧ Below W.heap.size W w' := by
  have hq := fun (w : World) (a : Option Addr) (n c n' c' : Nat) => Lib.run_eql_slice_nil (P := Try.prog) w 22 _ a n c n' c' Try.underlying22
  cases A with
  | none =>
    obtain rfl := RdK.none_ h
    go_enter Try.func30, Try.ntmps30
    go_wp2_with fail
    go_ret
    exact ⟨⟨none, 0, rfl, VK.nil _ _⟩, Below.refl _ _⟩
  | some a =>
    have HH := Lib.hid h
    generalize hn : L.length = n at *
    have HN := Lib.hid hn
    clear h hn
    go_enter Try.func30, Try.ntmps30
    go_upto_region 3 with fail
    have hb : Below W.heap.size W (W.alloc (.cells #[] 28)) := (Below.refl _ _).alloc (Nat.le_refl _) _
    have HV0 : Hid (M3 (W.alloc (.cells #[] 28)) W.heap.size (some ⟨W.heap.size, 0, none⟩) 0 []) := VK.lit (K := MgK) W W.heap.size (Nat.le_refl _)
    have HAL := Lib.hid (HH.out.kept hb)
    have hs := hb.size
    have hn2 : 0 + n ≤ 1048576 := by omega
    have HB := Lib.hid hb
    clear hb HH
    go_wp2_with (with_reducible refine wpList_append_allK (K := MgK) Try.underlying22 mginfo rfl (by decide) (by decide) rfl (.tmp 5) (.tmp 6) rfl W.heap.size (some ⟨W.heap.size, 0, none⟩) 0 0 [] rfl rfl HV0.out (some a) n c L rfl HN.out HAL.out hn2 hs ?_; intro Aw cw w4 hv4 hb4)
    go_ret
    exact ⟨⟨Aw, cw, rfl, hv4.out⟩, HB.out.trans hb4.out⟩
theorem zeroCells_size (z : Array Value) (n : Nat) : (Builtin.zeroCells z n).size = n * z.size := by simp [Builtin.zeroCells]
set_option maxRecDepth 100000 in
set_option maxHeartbeats 2000000 in
theorem Grow_nil (W : World) (n : Nat) (hn : n ≤ 1048576) : Calls Try.prog 35 #[.slice none 0 0, .int .i64 (n : Int)] W fun e w' => (∃ A' c', e = .returned (.slice A' 0 c') ∧ M3 w' W.heap.size A' c' []) ∧ Below W.heap.size W w' := by
  rcases Nat.eq_zero_or_pos n with rfl | h0
  · go_enter Try.func35, Try.ntmps35
    go_wp2_with fail
    go_ret
    exact ⟨⟨none, 0, rfl, VK.nil _ _⟩, Below.refl _ _⟩
  · obtain ⟨i, hi, hz, hs, hby⟩ := info_parts mginfo
    have hrz := fun ty => Lib.run_append_nil_zeros (P := Try.prog) W 22 3 ty 28 i _ .i64 .i64 Try.underlying22 Try.underlying3 hi hz n h0 (by omega) (by omega) (by rw [hby]; omega)
    have hcap := grownCap_le_maxLen W n 0 28 (by unfold maxLen; omega)
    have hge := grownCap_ge W n 0 28
    generalize grownCap W n 0 28 = cap at *
    have HV : Hid (M3 (W.drew.alloc (.cells (Builtin.zeroCells (Value.agg #[.string ⟨#[]⟩, .bool false, .string ⟨#[]⟩]).cells n ++ Builtin.zeroCells (Value.agg #[.string ⟨#[]⟩, .bool false, .string ⟨#[]⟩]).cells (cap - n)) 28)) W.heap.size (some ⟨W.heap.size, 0, none⟩) cap []) := World.ownsRow_made (base := W.heap.size) (e := 28) (size := 3) W.drew _ cap (Nat.le_refl _) hcap (by
      rw [Array.size_append, zeroCells_size, zeroCells_size, ← Nat.add_mul]
      rw [show n + (cap - n) = cap by omega]
      rfl)
    have HB : Hid (Below W.heap.size W (W.drew.alloc (.cells (Builtin.zeroCells (Value.agg #[.string ⟨#[]⟩, .bool false, .string ⟨#[]⟩]).cells n ++ Builtin.zeroCells (Value.agg #[.string ⟨#[]⟩, .bool false, .string ⟨#[]⟩]).cells (cap - n)) 28))) := (Below.refl _ _).drew.alloc (Nat.le_refl _) _
    generalize W.drew.alloc (.cells (Builtin.zeroCells (Value.agg #[.string ⟨#[]⟩, .bool false, .string ⟨#[]⟩]).cells n ++ Builtin.zeroCells (Value.agg #[.string ⟨#[]⟩, .bool false, .string ⟨#[]⟩]).cells (cap - n)) 28) = w1 at *
    clear hi hz hs hby
    unfold maxLen at hcap
    generalize hg : W.heap.size = g at *
    go_enter Try.func35, Try.ntmps35
    go_wp2_with (with_reducible refine Lib.wpList_append_run _ rfl _ _ _ _ rfl _ _ rfl rfl _ _ (hrz _) ?_)
    go_ret
    exact ⟨⟨_, cap, rfl, HV.out⟩, HB.out⟩
theorem MM.kept {w w' : World} {g : Nat} {LS : List (List Mg)} (h : MM w g LS) (hb : Below w.heap.size w w') : MM w' g LS := fun i L hi => by
  obtain ⟨A, c, hc, hL⟩ := h i L hi
  have hg : g < w.heap.size := by
    rcases Nat.lt_or_ge g w.heap.size with h' | h'
    · exact h'
    · simp [World.cell?, Array.getElem?_eq_none h'] at hc
  refine ⟨A, c, ?_, hL.kept hb⟩
  rw [← hc]
  exact World.cell?_of_block (w := w) (a := ⟨g, i, none⟩) (hb.block g hg)
theorem flat_next {LS : List (List Mg)} {k : Nat} {L : List Mg} (h : LS[k]? = some L) : (LS.take (k + 1)).flatten = (LS.take k).flatten ++ L := by
  have hk := (List.getElem?_eq_some_iff.1 h).1
  have e : LS[k] = L := (List.getElem?_eq_some_iff.1 h).2
  rw [List.take_succ_eq_append_getElem hk, List.flatten_append, e]
  simp
theorem flat_le (LS : List (List Mg)) (k : Nat) : ((LS.take k).flatten).length ≤ LS.flatten.length := by
  have : LS.flatten.length = ((LS.take k).flatten).length + ((LS.drop k).flatten).length := by
    rw [← List.length_append, ← List.flatten_append, List.take_append_drop]
  omega
set_option maxRecDepth 100000 in
set_option maxHeartbeats 4000000 in
theorem Concat_any {W : World} {g cx : Nat} {LS : List (List Mg)} (h : MM W g LS) (hn : LS.length ≤ 1000) (hl : LS.flatten.length ≤ 1000000) : Calls Try.prog 28 #[.slice (some ⟨g, 0, none⟩) LS.length cx] W fun e w' => (∃ A' c', e = .returned (.slice A' LS.flatten.length c') ∧ M3 w' W.heap.size A' c' LS.flatten) ∧ Below W.heap.size W w' := by
  have HF : Hid (∀ k, ((LS.take k).flatten).length ≤ 1000000) := fun k => Nat.le_trans (flat_le LS k) hl
  have HT : Hid ((LS.take LS.length).flatten = LS.flatten) := by unfold Hid; rw [List.take_length]
  have HH := Lib.hid h
  generalize hm : LS.length = m at *
  generalize ht : LS.flatten.length = t at *
  have HM := Lib.hid hm
  have HL := Lib.hid ht
  have cG := fun W => Lib.hid (Grow_nil W t (by omega))
  clear h hm ht
  go_enter Try.func28, Try.ntmps28
  go_upto_block 0 with fail
  go_cut [3] (fun sv wx => sv = .int .i64 (t : Int) ∧ wx = W)
  case first =>
    go_wp2_with fail
    go_loopg [3, 11] m (fun gk sv iv wr => ∃ (k s : Nat), k ≤ m ∧ gk = m - k ∧ iv = .int .i64 (k : Int) ∧ sv = .int .i64 (s : Int) ∧ s ≤ 1000000 ∧ Hid (((LS.take k).flatten).length = s) ∧ wr = W)
    case atStart => exact ⟨0, 0, Nat.zero_le _, rfl, rfl, rfl, Nat.zero_le _, rfl, rfl⟩
    case round =>
      obtain ⟨k, s, hk, rfl, rfl, rfl, hs, HS, rfl⟩ := hrel
      by_cases hlt : k < m
      · have hkL : k < LS.length := by rw [HM.out]; exact hlt
        obtain ⟨L, hLL⟩ : ∃ L, L = LS[k] := ⟨_, rfl⟩
        have hL' : LS[k]? = some L := by rw [hLL]; exact List.getElem?_eq_getElem hkL
        obtain ⟨A, c, hc, hML⟩ := HH.out k L hL'
        obtain ⟨l, hll⟩ : ∃ l, l = L.length := ⟨_, rfl⟩
        rw [← hll] at hc
        have HS2 : Hid (((LS.take (k + 1)).flatten).length = s + l) := by
          unfold Hid
          rw [flat_next hL', List.length_append, HS.out, hll]
        have hb2 : s + l ≤ 1000000 := by rw [← HS2.out]; exact HF.out (k + 1)
        clear hLL hL' hML hll hkL
        have hw2 : IntKind.i64.wrap ((k : Int) + 1) = ((k + 1 : Nat) : Int) := by rw [IntKind.wrap_i64]; omega
        have hw3 : IntKind.i64.wrap ((s : Int) + (l : Int)) = ((s + l : Nat) : Int) := by rw [IntKind.wrap_i64]; omega
        go_wp2_with fail
        go_roundg (m - (k + 1))
        case measure => omega
        case rel => exact ⟨k + 1, s + l, hlt, rfl, by go_num, by go_num, hb2, HS2, rfl⟩
      · obtain rfl : k = m := by omega
        have HE : Hid (s = t) := by
          unfold Hid
          rw [← HS.out, HT.out, HL.out]
        obtain rfl := HE.out
        go_wp2_with fail
        go_meet
        exact ⟨rfl, rfl⟩
  case rest =>
  obtain ⟨rfl, rfl⟩ := hcut
  go_upto_region 10 with (go_at_call 35; refine (cG _).out.mono ?_; rintro e w1 ⟨⟨A0, c0, rfl, h1⟩, hb⟩)
  have H0 := Lib.hid h1
  have HB0 := Lib.hid hb
  clear h1 hb cG
  go_wp2_with fail
  go_loopg [6, 27] m (fun gk bv iv wr => ∃ (k j c' : Nat) (A' : Option Addr), k ≤ m ∧ gk = m - k ∧ iv = .int .i64 (k : Int) ∧ bv = .slice A' j c' ∧ j ≤ 1000000 ∧ Hid (((LS.take k).flatten).length = j) ∧ Hid (M3 wr wc.heap.size A' c' ((LS.take k).flatten)) ∧ Hid (Below wc.heap.size wc wr))
  case atStart => exact ⟨0, 0, c0, A0, Nat.zero_le _, rfl, rfl, rfl, Nat.zero_le _, rfl, H0, HB0⟩
  case round =>
    obtain ⟨k, j, c', A', hk, rfl, rfl, rfl, hj, HJ, HV, HB⟩ := hrel
    clear H0 HB0
    by_cases hlt : k < m
    · have hkL : k < LS.length := by rw [HM.out]; exact hlt
      obtain ⟨L, hLL⟩ : ∃ L, L = LS[k] := ⟨_, rfl⟩
      have hL' : LS[k]? = some L := by rw [hLL]; exact List.getElem?_eq_getElem hkL
      obtain ⟨A, c, hc, hML⟩ := (HH.out.kept HB.out) k L hL'
      obtain ⟨l, hll⟩ : ∃ l, l = L.length := ⟨_, rfl⟩
      rw [← hll] at hc
      have HS2 := Lib.hid (flat_next hL')
      have hb2 : j + l ≤ 1000000 := by
        have := HF.out (k + 1)
        rw [HS2.out, List.length_append, HJ.out, ← hll] at this
        exact this
      have HAL := Lib.hid hML
      have HLN := Lib.hid hll.symm
      have hn2 : j + l ≤ 1048576 := by omega
      have hs2 := HB.out.size
      have hw2 : IntKind.i64.wrap ((k : Int) + 1) = ((k + 1 : Nat) : Int) := by rw [IntKind.wrap_i64]; omega
      clear hLL hL' hML hll hkL
      go_wp2_with (with_reducible refine wpList_append_allK (K := MgK) Try.underlying22 mginfo rfl (by decide) (by decide) rfl (.tmp 31) (.tmp 32) rfl wc.heap.size A' j c' _ rfl HJ.out HV.out A l c L rfl HLN.out HAL.out hn2 hs2 ?_; intro Aw cw w4 hv4 hb4)
      go_roundg (m - (k + 1))
      case measure => omega
      case rel => exact ⟨k + 1, j + l, cw, Aw, hlt, rfl, by go_num, rfl, hb2, by unfold Hid; rw [HS2.out, List.length_append, HJ.out, HLN.out], by rw [HS2.out]; exact hv4.out, HB.out.trans hb4.out⟩
    · obtain rfl : k = m := by omega
      rw [HT.out] at HV HJ
      have HE : Hid (j = t) := by
        unfold Hid
        rw [← HJ.out, HL.out]
      obtain rfl := HE.out
      clear hlt
      go_wp2_with fail
      go_ret
      exact ⟨⟨A', c', rfl, HV.out⟩, HB.out⟩
end Bu
end Go.Proofs.Ytmgmkfophdjidaa
