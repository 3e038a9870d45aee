/-
  SlCloneS, SlCatS, SlCloneM, SlCatM, SlCloneP, SlCatP, RowE, CleaveD2. Put together by pack.py.
-/
import Derived.Test.YtohnllclkpflaaaPkAG
import Derived.Test.YtohnllclkpflaaaPkAC
import Derived.Lib.AppendZeros
import Derived.Lib.SliceRun
import Derived.Test.YtohnllclkpflaaaDrift
import Derived.Test.YtohnllclkpflaaaPkAI

namespace Go.Proofs.Ytohnllclkpflaaa
open Go.RowKit
namespace Fa
open Mem Lx Bu
theorem slinfoS : (Try.prog.info? 9).map (fun i => (i.zero, i.size, i.bytes)) = some (some (.string ⟨#[]⟩), 1, 16) := by kernel_rfl
set_option maxRecDepth 100000 in
set_option maxHeartbeats 2000000 in
set_option maxRecDepth 100000 in
theorem CloneS_any {W : World} {A : Option Addr} {c : Nat} {L : List ByteArray} (h : RdK StK W A L) (hl : L.length ≤ 1048576) : Calls Try.prog 45 #[.slice A L.length c] W fun e w' => (∃ A' c', e = .returned (.slice A' L.length c') ∧ VK StK w' W.heap.size A' c' L) ∧ Below W.heap.size W w' := by
  have hq := fun (w : World) (a : Option Addr) (n c n' c' : Nat) => Lib.run_eql_slice_nil (P := Try.prog) w 27 _ a n c n' c' Try.underlying27
  cases A with
  | none =>
    obtain rfl : L = [] := List.length_eq_zero_iff.1 (Nat.eq_zero_of_not_pos fun h0 => by
      obtain ⟨b, o, e, _⟩ := h h0
      cases e)
    go_enter Try.func45, Try.ntmps45
    go_wp2_with fail
    go_ret
    exact ⟨⟨none, 0, rfl, VK.nil _ _⟩, Below.refl _ _⟩
  | some a =>
    have HH := Lib.hid h
    generalize hn : L.length = n at *
    have HN := Lib.hid hn
    clear h hn
    go_enter Try.func45, Try.ntmps45
    go_upto_region 3 with fail
    have hb : Below W.heap.size W (W.alloc (.cells #[] 9)) := (Below.refl _ _).alloc (Nat.le_refl _) _
    have HV0 : Hid (VK StK (W.alloc (.cells #[] 9)) W.heap.size (some ⟨W.heap.size, 0, none⟩) 0 []) := VK.lit (K := StK) W W.heap.size (Nat.le_refl _)
    have HAL := Lib.hid (HH.out.kept hb)
    have hs := hb.size
    have hn2 : 0 + n ≤ 1048576 := by omega
    have HB := Lib.hid hb
    clear hb HH
    go_wp2_with (with_reducible refine wpList_append_allK (K := StK) Try.underlying27 slinfoS rfl (by decide) (by decide) rfl (.tmp 5) (.tmp 6) rfl W.heap.size (some ⟨W.heap.size, 0, none⟩) 0 0 [] rfl rfl HV0.out (some a) n c L rfl HN.out HAL.out hn2 hs ?_; intro Aw cw w4 hv4 hb4)
    go_ret
    exact ⟨⟨Aw, cw, rfl, hv4.out⟩, HB.out.trans hb4.out⟩
end Fa
end Go.Proofs.Ytohnllclkpflaaa

namespace Go.Proofs.Ytohnllclkpflaaa
open Go.RowKit
namespace Fa
open Mem Lx Bu
set_option maxRecDepth 100000 in
set_option maxHeartbeats 2000000 in
theorem GrowS_nil (W : World) (n : Nat) (hn : n ≤ 1048576) : Calls Try.prog 48 #[.slice none 0 0, .int .i64 (n : Int)] W fun e w' => (∃ A' c', e = .returned (.slice A' 0 c') ∧ VK StK w' W.heap.size A' c' []) ∧ Below W.heap.size W w' := by
  rcases Nat.eq_zero_or_pos n with rfl | h0
  · go_enter Try.func48, Try.ntmps48
    go_wp2_with fail
    go_ret
    exact ⟨⟨none, 0, rfl, VK.nil _ _⟩, Below.refl _ _⟩
  · obtain ⟨i, hi, hz, hs, hby⟩ := info_parts slinfoS
    have hrz := fun ty => Lib.run_append_nil_zeros (P := Try.prog) W 27 3 ty 9 i _ .i64 .i64 Try.underlying27 Try.underlying3 hi hz n h0 (by omega) (by omega) (by rw [hby]; omega)
    have hcap := grownCap_le_maxLen W n 0 9 (by unfold maxLen; omega)
    have hge := grownCap_ge W n 0 9
    generalize grownCap W n 0 9 = cap at *
    have HV : Hid (VK StK (W.drew.alloc (.cells (Builtin.zeroCells (Value.string ⟨#[]⟩).cells n ++ Builtin.zeroCells (Value.string ⟨#[]⟩).cells (cap - n)) 9)) W.heap.size (some ⟨W.heap.size, 0, none⟩) cap []) := World.ownsRow_made (base := W.heap.size) (e := 9) (size := 1) W.drew _ cap (Nat.le_refl _) hcap (by
      rw [Array.size_append, zeroCellsK_size, zeroCellsK_size, ← Nat.add_mul]
      rw [show n + (cap - n) = cap by omega]
      rfl)
    have HB : Hid (Below W.heap.size W (W.drew.alloc (.cells (Builtin.zeroCells (Value.string ⟨#[]⟩).cells n ++ Builtin.zeroCells (Value.string ⟨#[]⟩).cells (cap - n)) 9))) := (Below.refl _ _).drew.alloc (Nat.le_refl _) _
    generalize W.drew.alloc (.cells (Builtin.zeroCells (Value.string ⟨#[]⟩).cells n ++ Builtin.zeroCells (Value.string ⟨#[]⟩).cells (cap - n)) 9) = w1 at *
    clear hi hz hs hby
    unfold maxLen at hcap
    generalize hg : W.heap.size = g at *
    go_enter Try.func48, Try.ntmps48
    go_wp2_with (with_reducible refine Lib.wpList_append_run _ rfl _ _ _ _ rfl _ _ rfl rfl _ _ (hrz _) ?_)
    go_ret
    exact ⟨⟨_, cap, rfl, HV.out⟩, HB.out⟩
set_option maxRecDepth 100000 in
set_option maxHeartbeats 4000000 in
theorem ConcatS_any {W : World} {g cx : Nat} {LS : List (List ByteArray)} (h : MK StK W g LS) (hn : LS.length ≤ 1000) (hl : LS.flatten.length ≤ 1000000) : Calls Try.prog 32 #[.slice (some ⟨g, 0, none⟩) LS.length cx] W fun e w' => (∃ A' c', e = .returned (.slice A' LS.flatten.length c') ∧ VK StK w' W.heap.size A' c' LS.flatten) ∧ Below W.heap.size W w' := by
  have HF : Hid (∀ k, ((LS.take k).flatten).length ≤ 1000000) := fun k => Nat.le_trans (flatK_le LS k) hl
  have HT : Hid ((LS.take LS.length).flatten = LS.flatten) := by unfold Hid; rw [List.take_length]
  have HH := Lib.hid h
  generalize hm : LS.length = m at *
  generalize ht : LS.flatten.length = t at *
  have HM := Lib.hid hm
  have HL := Lib.hid ht
  have cG := fun W => Lib.hid (GrowS_nil W t (by omega))
  clear h hm ht
  go_enter Try.func32, Try.ntmps32
  go_upto_block 0 with fail
  go_cut [3] (fun sv wx => sv = .int .i64 (t : Int) ∧ wx = W)
  case first =>
    go_wp2_with fail
    go_loopg [3, 11] m (fun gk sv iv wr => ∃ (k s : Nat), k ≤ m ∧ gk = m - k ∧ iv = .int .i64 (k : Int) ∧ sv = .int .i64 (s : Int) ∧ s ≤ 1000000 ∧ Hid (((LS.take k).flatten).length = s) ∧ wr = W)
    case atStart => exact ⟨0, 0, Nat.zero_le _, rfl, rfl, rfl, Nat.zero_le _, rfl, rfl⟩
    case round =>
      obtain ⟨k, s, hk, rfl, rfl, rfl, hs, HS, rfl⟩ := hrel
      by_cases hlt : k < m
      · have hkL : k < LS.length := by rw [HM.out]; exact hlt
        obtain ⟨L, hLL⟩ : ∃ L, L = LS[k] := ⟨_, rfl⟩
        have hL' : LS[k]? = some L := by rw [hLL]; exact List.getElem?_eq_getElem hkL
        obtain ⟨A, c, hc, hML⟩ := HH.out k L hL'
        obtain ⟨l, hll⟩ : ∃ l, l = L.length := ⟨_, rfl⟩
        rw [← hll] at hc
        have HS2 : Hid (((LS.take (k + 1)).flatten).length = s + l) := by
          unfold Hid
          rw [flatK_next hL', List.length_append, HS.out, hll]
        have hb2 : s + l ≤ 1000000 := by rw [← HS2.out]; exact HF.out (k + 1)
        clear hLL hL' hML hll hkL
        have hw2 : IntKind.i64.wrap ((k : Int) + 1) = ((k + 1 : Nat) : Int) := by rw [IntKind.wrap_i64]; omega
        have hw3 : IntKind.i64.wrap ((s : Int) + (l : Int)) = ((s + l : Nat) : Int) := by rw [IntKind.wrap_i64]; omega
        go_wp2_with fail
        go_roundg (m - (k + 1))
        case measure => omega
        case rel => exact ⟨k + 1, s + l, hlt, rfl, by go_num, by go_num, hb2, HS2, rfl⟩
      · obtain rfl : k = m := by omega
        have HE : Hid (s = t) := by
          unfold Hid
          rw [← HS.out, HT.out, HL.out]
        obtain rfl := HE.out
        go_wp2_with fail
        go_meet
        exact ⟨rfl, rfl⟩
  case rest =>
  obtain ⟨rfl, rfl⟩ := hcut
  go_upto_region 10 with (go_at_call 48; refine (cG _).out.mono ?_; rintro e w1 ⟨⟨A0, c0, rfl, h1⟩, hb⟩)
  have H0 := Lib.hid h1
  have HB0 := Lib.hid hb
  clear h1 hb cG
  go_wp2_with fail
  go_loopg [6, 27] m (fun gk bv iv wr => ∃ (k j c' : Nat) (A' : Option Addr), k ≤ m ∧ gk = m - k ∧ iv = .int .i64 (k : Int) ∧ bv = .slice A' j c' ∧ j ≤ 1000000 ∧ Hid (((LS.take k).flatten).length = j) ∧ Hid (VK StK wr wc.heap.size A' c' ((LS.take k).flatten)) ∧ Hid (Below wc.heap.size wc wr))
  case atStart => exact ⟨0, 0, c0, A0, Nat.zero_le _, rfl, rfl, rfl, Nat.zero_le _, rfl, H0, HB0⟩
  case round =>
    obtain ⟨k, j, c', A', hk, rfl, rfl, rfl, hj, HJ, HV, HB⟩ := hrel
    clear H0 HB0
    by_cases hlt : k < m
    · have hkL : k < LS.length := by rw [HM.out]; exact hlt
      obtain ⟨L, hLL⟩ : ∃ L, L = LS[k] := ⟨_, rfl⟩
      have hL' : LS[k]? = some L := by rw [hLL]; exact List.getElem?_eq_getElem hkL
      obtain ⟨A, c, hc, hML⟩ := (HH.out.kept HB.out) k L hL'
      obtain ⟨l, hll⟩ : ∃ l, l = L.length := ⟨_, rfl⟩
      rw [← hll] at hc
      have HS2 := Lib.hid (flatK_next hL')
      have hb2 : j + l ≤ 1000000 := by
        have := HF.out (k + 1)
        rw [HS2.out, List.length_append, HJ.out, ← hll] at this
        exact this
      have HAL := Lib.hid hML
      have HLN := Lib.hid hll.symm
      have hn2 : j + l ≤ 1048576 := by omega
      have hs2 := HB.out.size
      have hw2 : IntKind.i64.wrap ((k : Int) + 1) = ((k + 1 : Nat) : Int) := by rw [IntKind.wrap_i64]; omega
      clear hLL hL' hML hll hkL
      go_wp2_with (with_reducible refine wpList_append_allK (K := StK) Try.underlying27 slinfoS rfl (by decide) (by decide) rfl (.tmp 31) (.tmp 32) rfl wc.heap.size A' j c' _ rfl HJ.out HV.out A l c L rfl HLN.out HAL.out hn2 hs2 ?_; intro Aw cw w4 hv4 hb4)
      go_roundg (m - (k + 1))
      case measure => omega
      case rel => exact ⟨k + 1, j + l, cw, Aw, hlt, rfl, by go_num, rfl, hb2, by unfold Hid; rw [HS2.out, List.length_append, HJ.out, HLN.out], by rw [HS2.out]; exact hv4.out, HB.out.trans hb4.out⟩
    · obtain rfl : k = m := by omega
      rw [HT.out] at HV HJ
      have HE : Hid (j = t) := by
        unfold Hid
        rw [← HJ.out, HL.out]
      obtain rfl := HE.out
      clear hlt
      go_wp2_with fail
      go_ret
      exact ⟨⟨A', c', rfl, HV.out⟩, HB.out⟩
theorem concatS2 {W : World} {g cx : Nat} {U : TypeId} {L1 L2 X : List ByteArray} {A1 A2 : Option Addr} {n1 n2 c1 c2 N : Nat} {fl : Nat × Nat} (h : W.heap[g]? = some (.cells #[.slice A1 n1 c1, .slice A2 n2 c2] U fl)) (e1 : L1.length = n1) (e2 : L2.length = n2) (h1 : RdK StK W A1 L1) (h2 : RdK StK W A2 L2) (hX : L1 ++ L2 = X) (hN : X.length = N) (hl : N ≤ 1000000) : Calls Try.prog 32 #[.slice (some ⟨g, 0, none⟩) 2 cx] W fun e w' => (∃ v, e = .returned v ∧ EvRK StK W.heap.size N X v w') ∧ Below W.heap.size W w' := by
  have hf : [L1, L2].flatten = X := by rw [← hX]; simp
  have := ConcatS_any (cx := cx) (MK.two h e1 e2 h1 h2) (show 2 ≤ 1000 by decide) (by rw [hf, hN]; exact hl)
  rw [hf, hN] at this
  exact this.mono fun e w' ⟨⟨A', c', he, hm⟩, hb⟩ => ⟨⟨_, he, A', c', rfl, hm⟩, hb⟩
theorem concatS3 {W : World} {g cx : Nat} {U : TypeId} {L1 L2 L3 X : List ByteArray} {A1 A2 A3 : Option Addr} {n1 n2 n3 c1 c2 c3 N : Nat} {fl : Nat × Nat} (h : W.heap[g]? = some (.cells #[.slice A1 n1 c1, .slice A2 n2 c2, .slice A3 n3 c3] U fl)) (e1 : L1.length = n1) (e2 : L2.length = n2) (e3 : L3.length = n3) (h1 : RdK StK W A1 L1) (h2 : RdK StK W A2 L2) (h3 : RdK StK W A3 L3) (hX : L1 ++ L2 ++ L3 = X) (hN : X.length = N) (hl : N ≤ 1000000) : Calls Try.prog 32 #[.slice (some ⟨g, 0, none⟩) 3 cx] W fun e w' => (∃ v, e = .returned v ∧ EvRK StK W.heap.size N X v w') ∧ Below W.heap.size W w' := by
  have hf : [L1, L2, L3].flatten = X := by rw [← hX]; simp
  have := ConcatS_any (cx := cx) (MK.three h e1 e2 e3 h1 h2 h3) (show 3 ≤ 1000 by decide) (by rw [hf, hN]; exact hl)
  rw [hf, hN] at this
  exact this.mono fun e w' ⟨⟨A', c', he, hm⟩, hb⟩ => ⟨⟨_, he, A', c', rfl, hm⟩, hb⟩
theorem cloneRS {W : World} {A : Option Addr} {n c : Nat} {X : List ByteArray} (h : RdK StK W A X) (hn : X.length = n) (hl : n ≤ 1000000) : Calls Try.prog 45 #[.slice A n c] W fun e w' => (∃ v, e = .returned v ∧ EvRK StK W.heap.size n X v w') ∧ Below W.heap.size W w' := by
  subst hn
  exact (CloneS_any (c := c) h (by omega)).mono fun e w' ⟨⟨A', c', he, hm⟩, hb⟩ => ⟨⟨_, he, A', c', rfl, hm⟩, hb⟩
end Fa
end Go.Proofs.Ytohnllclkpflaaa

namespace Go.Proofs.Ytohnllclkpflaaa
open Go.RowKit
namespace Lf
open Mem Lx Bu
set_option maxRecDepth 100000 in
set_option maxHeartbeats 2000000 in
set_option maxRecDepth 100000 in
theorem CloneM_any {W : World} {A : Option Addr} {c : Nat} {L : List Mg} (h : ML W A L) (hl : L.length ≤ 1048576) : Calls Try.prog 56 #[.slice A L.length c] W fun e w' => (∃ A' c', e = .returned (.slice A' L.length c') ∧ M3 w' W.heap.size A' c' L) ∧ Below W.heap.size W w' := by
  have hq := fun (w : World) (a : Option Addr) (n c n' c' : Nat) => Lib.run_eql_slice_nil (P := Try.prog) w 28 _ a n c n' c' Try.underlying28
  cases A with
  | none =>
    obtain rfl : L = [] := List.length_eq_zero_iff.1 (Nat.eq_zero_of_not_pos fun h0 => by
      obtain ⟨b, o, e, _⟩ := h h0
      cases e)
    go_enter Try.func56, Try.ntmps56
    go_wp2_with fail
    go_ret
    exact ⟨⟨none, 0, rfl, VK.nil _ _⟩, Below.refl _ _⟩
  | some a =>
    have HH := Lib.hid h
    generalize hn : L.length = n at *
    have HN := Lib.hid hn
    clear h hn
    go_enter Try.func56, Try.ntmps56
    go_upto_region 3 with fail
    have hb : Below W.heap.size W (W.alloc (.cells #[] 48)) := (Below.refl _ _).alloc (Nat.le_refl _) _
    have HV0 : Hid (M3 (W.alloc (.cells #[] 48)) W.heap.size (some ⟨W.heap.size, 0, none⟩) 0 []) := VK.lit (K := MgK) W W.heap.size (Nat.le_refl _)
    have HAL := Lib.hid (HH.out.kept hb)
    have hs := hb.size
    have hn2 : 0 + n ≤ 1048576 := by omega
    have HB := Lib.hid hb
    clear hb HH
    go_wp2_with (with_reducible refine wpList_append_allK (K := MgK) Try.underlying28 mginfo rfl (by decide) (by decide) rfl (.tmp 5) (.tmp 6) rfl W.heap.size (some ⟨W.heap.size, 0, none⟩) 0 0 [] rfl rfl HV0.out (some a) n c L rfl HN.out HAL.out hn2 hs ?_; intro Aw cw w4 hv4 hb4)
    go_ret
    exact ⟨⟨Aw, cw, rfl, hv4.out⟩, HB.out.trans hb4.out⟩
end Lf
end Go.Proofs.Ytohnllclkpflaaa

namespace Go.Proofs.Ytohnllclkpflaaa
open Go.RowKit
namespace Lf
open Mem Lx Bu
set_option maxRecDepth 100000 in
set_option maxHeartbeats 2000000 in
theorem GrowM_nil (W : World) (n : Nat) (hn : n ≤ 1048576) : Calls Try.prog 49 #[.slice none 0 0, .int .i64 (n : Int)] W fun e w' => (∃ A' c', e = .returned (.slice A' 0 c') ∧ VK MgK w' W.heap.size A' c' []) ∧ Below W.heap.size W w' := by
  rcases Nat.eq_zero_or_pos n with rfl | h0
  · go_enter Try.func49, Try.ntmps49
    go_wp2_with fail
    go_ret
    exact ⟨⟨none, 0, rfl, VK.nil _ _⟩, Below.refl _ _⟩
  · obtain ⟨i, hi, hz, hs, hby⟩ := info_parts mginfo
    have hrz := fun ty => Lib.run_append_nil_zeros (P := Try.prog) W 28 3 ty 48 i _ .i64 .i64 Try.underlying28 Try.underlying3 hi hz n h0 (by omega) (by omega) (by rw [hby]; omega)
    have hcap := grownCap_le_maxLen W n 0 48 (by unfold maxLen; omega)
    have hge := grownCap_ge W n 0 48
    generalize grownCap W n 0 48 = cap at *
    have HV : Hid (VK MgK (W.drew.alloc (.cells (Builtin.zeroCells (Value.agg #[.string ⟨#[]⟩, .bool false, .string ⟨#[]⟩]).cells n ++ Builtin.zeroCells (Value.agg #[.string ⟨#[]⟩, .bool false, .string ⟨#[]⟩]).cells (cap - n)) 48)) W.heap.size (some ⟨W.heap.size, 0, none⟩) cap []) := World.ownsRow_made (base := W.heap.size) (e := 48) (size := 3) W.drew _ cap (Nat.le_refl _) hcap (by
      rw [Array.size_append, zeroCellsK_size, zeroCellsK_size, ← Nat.add_mul]
      rw [show n + (cap - n) = cap by omega]
      rfl)
    have HB : Hid (Below W.heap.size W (W.drew.alloc (.cells (Builtin.zeroCells (Value.agg #[.string ⟨#[]⟩, .bool false, .string ⟨#[]⟩]).cells n ++ Builtin.zeroCells (Value.agg #[.string ⟨#[]⟩, .bool false, .string ⟨#[]⟩]).cells (cap - n)) 48))) := (Below.refl _ _).drew.alloc (Nat.le_refl _) _
    generalize W.drew.alloc (.cells (Builtin.zeroCells (Value.agg #[.string ⟨#[]⟩, .bool false, .string ⟨#[]⟩]).cells n ++ Builtin.zeroCells (Value.agg #[.string ⟨#[]⟩, .bool false, .string ⟨#[]⟩]).cells (cap - n)) 48) = w1 at *
    clear hi hz hs hby
    unfold maxLen at hcap
    generalize hg : W.heap.size = g at *
    go_enter Try.func49, Try.ntmps49
    go_wp2_with (with_reducible refine Lib.wpList_append_run _ rfl _ _ _ _ rfl _ _ rfl rfl _ _ (hrz _) ?_)
    go_ret
    exact ⟨⟨_, cap, rfl, HV.out⟩, HB.out⟩
set_option maxRecDepth 100000 in
set_option maxHeartbeats 4000000 in
theorem ConcatM_any {W : World} {g cx : Nat} {LS : List (List Mg)} (h : MK MgK W g LS) (hn : LS.length ≤ 1000) (hl : LS.flatten.length ≤ 1000000) : Calls Try.prog 33 #[.slice (some ⟨g, 0, none⟩) LS.length cx] W fun e w' => (∃ A' c', e = .returned (.slice A' LS.flatten.length c') ∧ VK MgK w' W.heap.size A' c' LS.flatten) ∧ Below W.heap.size W w' := by
  have HF : Hid (∀ k, ((LS.take k).flatten).length ≤ 1000000) := fun k => Nat.le_trans (flatK_le LS k) hl
  have HT : Hid ((LS.take LS.length).flatten = LS.flatten) := by unfold Hid; rw [List.take_length]
  have HH := Lib.hid h
  generalize hm : LS.length = m at *
  generalize ht : LS.flatten.length = t at *
  have HM := Lib.hid hm
  have HL := Lib.hid ht
  have cG := fun W => Lib.hid (GrowM_nil W t (by omega))
  clear h hm ht
  go_enter Try.func33, Try.ntmps33
  go_upto_block 0 with fail
  go_cut [3] (fun sv wx => sv = .int .i64 (t : Int) ∧ wx = W)
  case first =>
    go_wp2_with fail
    go_loopg [3, 11] m (fun gk sv iv wr => ∃ (k s : Nat), k ≤ m ∧ gk = m - k ∧ iv = .int .i64 (k : Int) ∧ sv = .int .i64 (s : Int) ∧ s ≤ 1000000 ∧ Hid (((LS.take k).flatten).length = s) ∧ wr = W)
    case atStart => exact ⟨0, 0, Nat.zero_le _, rfl, rfl, rfl, Nat.zero_le _, rfl, rfl⟩
    case round =>
      obtain ⟨k, s, hk, rfl, rfl, rfl, hs, HS, rfl⟩ := hrel
      by_cases hlt : k < m
      · have hkL : k < LS.length := by rw [HM.out]; exact hlt
        obtain ⟨L, hLL⟩ : ∃ L, L = LS[k] := ⟨_, rfl⟩
        have hL' : LS[k]? = some L := by rw [hLL]; exact List.getElem?_eq_getElem hkL
        obtain ⟨A, c, hc, hML⟩ := HH.out k L hL'
        obtain ⟨l, hll⟩ : ∃ l, l = L.length := ⟨_, rfl⟩
        rw [← hll] at hc
        have HS2 : Hid (((LS.take (k + 1)).flatten).length = s + l) := by
          unfold Hid
          rw [flatK_next hL', List.length_append, HS.out, hll]
        have hb2 : s + l ≤ 1000000 := by rw [← HS2.out]; exact HF.out (k + 1)
        clear hLL hL' hML hll hkL
        have hw2 : IntKind.i64.wrap ((k : Int) + 1) = ((k + 1 : Nat) : Int) := by rw [IntKind.wrap_i64]; omega
        have hw3 : IntKind.i64.wrap ((s : Int) + (l : Int)) = ((s + l : Nat) : Int) := by rw [IntKind.wrap_i64]; omega
        go_wp2_with fail
        go_roundg (m - (k + 1))
        case measure => omega
        case rel => exact ⟨k + 1, s + l, hlt, rfl, by go_num, by go_num, hb2, HS2, rfl⟩
      · obtain rfl : k = m := by omega
        have HE : Hid (s = t) := by
          unfold Hid
          rw [← HS.out, HT.out, HL.out]
        obtain rfl := HE.out
        go_wp2_with fail
        go_meet
        exact ⟨rfl, rfl⟩
  case rest =>
  obtain ⟨rfl, rfl⟩ := hcut
  go_upto_region 10 with (go_at_call 49; refine (cG _).out.mono ?_; rintro e w1 ⟨⟨A0, c0, rfl, h1⟩, hb⟩)
  have H0 := Lib.hid h1
  have HB0 := Lib.hid hb
  clear h1 hb cG
  go_wp2_with fail
  go_loopg [6, 27] m (fun gk bv iv wr => ∃ (k j c' : Nat) (A' : Option Addr), k ≤ m ∧ gk = m - k ∧ iv = .int .i64 (k : Int) ∧ bv = .slice A' j c' ∧ j ≤ 1000000 ∧ Hid (((LS.take k).flatten).length = j) ∧ Hid (VK MgK wr wc.heap.size A' c' ((LS.take k).flatten)) ∧ Hid (Below wc.heap.size wc wr))
  case atStart => exact ⟨0, 0, c0, A0, Nat.zero_le _, rfl, rfl, rfl, Nat.zero_le _, rfl, H0, HB0⟩
  case round =>
    obtain ⟨k, j, c', A', hk, rfl, rfl, rfl, hj, HJ, HV, HB⟩ := hrel
    clear H0 HB0
    by_cases hlt : k < m
    · have hkL : k < LS.length := by rw [HM.out]; exact hlt
      obtain ⟨L, hLL⟩ : ∃ L, L = LS[k] := ⟨_, rfl⟩
      have hL' : LS[k]? = some L := by rw [hLL]; exact List.getElem?_eq_getElem hkL
      obtain ⟨A, c, hc, hML⟩ := (HH.out.kept HB.out) k L hL'
      obtain ⟨l, hll⟩ : ∃ l, l = L.length := ⟨_, rfl⟩
      rw [← hll] at hc
      have HS2 := Lib.hid (flatK_next hL')
      have hb2 : j + l ≤ 1000000 := by
        have := HF.out (k + 1)
        rw [HS2.out, List.length_append, HJ.out, ← hll] at this
        exact this
      have HAL := Lib.hid hML
      have HLN := Lib.hid hll.symm
      have hn2 : j + l ≤ 1048576 := by omega
      have hs2 := HB.out.size
      have hw2 : IntKind.i64.wrap ((k : Int) + 1) = ((k + 1 : Nat) : Int) := by rw [IntKind.wrap_i64]; omega
      clear hLL hL' hML hll hkL
      go_wp2_with (with_reducible refine wpList_append_allK (K := MgK) Try.underlying28 mginfo rfl (by decide) (by decide) rfl (.tmp 31) (.tmp 32) rfl wc.heap.size A' j c' _ rfl HJ.out HV.out A l c L rfl HLN.out HAL.out hn2 hs2 ?_; intro Aw cw w4 hv4 hb4)
      go_roundg (m - (k + 1))
      case measure => omega
      case rel => exact ⟨k + 1, j + l, cw, Aw, hlt, rfl, by go_num, rfl, hb2, by unfold Hid; rw [HS2.out, List.length_append, HJ.out, HLN.out], by rw [HS2.out]; exact hv4.out, HB.out.trans hb4.out⟩
    · obtain rfl : k = m := by omega
      rw [HT.out] at HV HJ
      have HE : Hid (j = t) := by
        unfold Hid
        rw [← HJ.out, HL.out]
      obtain rfl := HE.out
      clear hlt
      go_wp2_with fail
      go_ret
      exact ⟨⟨A', c', rfl, HV.out⟩, HB.out⟩
theorem concatM2 {W : World} {g cx : Nat} {U : TypeId} {L1 L2 X : List Mg} {A1 A2 : Option Addr} {n1 n2 c1 c2 N : Nat} {fl : Nat × Nat} (h : W.heap[g]? = some (.cells #[.slice A1 n1 c1, .slice A2 n2 c2] U fl)) (e1 : L1.length = n1) (e2 : L2.length = n2) (h1 : RdK MgK W A1 L1) (h2 : RdK MgK W A2 L2) (hX : L1 ++ L2 = X) (hN : X.length = N) (hl : N ≤ 1000000) : Calls Try.prog 33 #[.slice (some ⟨g, 0, none⟩) 2 cx] W fun e w' => (∃ v, e = .returned v ∧ EvRK MgK W.heap.size N X v w') ∧ Below W.heap.size W w' := by
  have hf : [L1, L2].flatten = X := by rw [← hX]; simp
  have := ConcatM_any (cx := cx) (MK.two h e1 e2 h1 h2) (show 2 ≤ 1000 by decide) (by rw [hf, hN]; exact hl)
  rw [hf, hN] at this
  exact this.mono fun e w' ⟨⟨A', c', he, hm⟩, hb⟩ => ⟨⟨_, he, A', c', rfl, hm⟩, hb⟩
theorem concatM3 {W : World} {g cx : Nat} {U : TypeId} {L1 L2 L3 X : List Mg} {A1 A2 A3 : Option Addr} {n1 n2 n3 c1 c2 c3 N : Nat} {fl : Nat × Nat} (h : W.heap[g]? = some (.cells #[.slice A1 n1 c1, .slice A2 n2 c2, .slice A3 n3 c3] U fl)) (e1 : L1.length = n1) (e2 : L2.length = n2) (e3 : L3.length = n3) (h1 : RdK MgK W A1 L1) (h2 : RdK MgK W A2 L2) (h3 : RdK MgK W A3 L3) (hX : L1 ++ L2 ++ L3 = X) (hN : X.length = N) (hl : N ≤ 1000000) : Calls Try.prog 33 #[.slice (some ⟨g, 0, none⟩) 3 cx] W fun e w' => (∃ v, e = .returned v ∧ EvRK MgK W.heap.size N X v w') ∧ Below W.heap.size W w' := by
  have hf : [L1, L2, L3].flatten = X := by rw [← hX]; simp
  have := ConcatM_any (cx := cx) (MK.three h e1 e2 e3 h1 h2 h3) (show 3 ≤ 1000 by decide) (by rw [hf, hN]; exact hl)
  rw [hf, hN] at this
  exact this.mono fun e w' ⟨⟨A', c', he, hm⟩, hb⟩ => ⟨⟨_, he, A', c', rfl, hm⟩, hb⟩
theorem cloneRM {W : World} {A : Option Addr} {n c : Nat} {X : List Mg} (h : RdK MgK W A X) (hn : X.length = n) (hl : n ≤ 1000000) : Calls Try.prog 56 #[.slice A n c] W fun e w' => (∃ v, e = .returned v ∧ EvRK MgK W.heap.size n X v w') ∧ Below W.heap.size W w' := by
  subst hn
  exact (CloneM_any (c := c) h (by omega)).mono fun e w' ⟨⟨A', c', he, hm⟩, hb⟩ => ⟨⟨_, he, A', c', rfl, hm⟩, hb⟩
end Lf
end Go.Proofs.Ytohnllclkpflaaa

namespace Go.Proofs.Ytohnllclkpflaaa
open Go.RowKit
namespace Lf
open Mem Lx Bu
set_option maxRecDepth 100000 in
set_option maxHeartbeats 2000000 in
set_option maxRecDepth 100000 in
theorem CloneP_any {W : World} {A : Option Addr} {c : Nat} {L : List Pr} (h : PL W A L) (hl : L.length ≤ 1048576) : Calls Try.prog 42 #[.slice A L.length c] W fun e w' => (∃ A' c', e = .returned (.slice A' L.length c') ∧ P3 w' W.heap.size A' c' L) ∧ Below W.heap.size W w' := by
  have hq := fun (w : World) (a : Option Addr) (n c n' c' : Nat) => Lib.run_eql_slice_nil (P := Try.prog) w 29 _ a n c n' c' Try.underlying29
  cases A with
  | none =>
    obtain rfl : L = [] := List.length_eq_zero_iff.1 (Nat.eq_zero_of_not_pos fun h0 => by
      obtain ⟨b, o, e, _⟩ := h h0
      cases e)
    go_enter Try.func42, Try.ntmps42
    go_wp2_with fail
    go_ret
    exact ⟨⟨none, 0, rfl, VK.nil _ _⟩, Below.refl _ _⟩
  | some a =>
    have HH := Lib.hid h
    generalize hn : L.length = n at *
    have HN := Lib.hid hn
    clear h hn
    go_enter Try.func42, Try.ntmps42
    go_upto_region 3 with fail
    have hb : Below W.heap.size W (W.alloc (.cells #[] 52)) := (Below.refl _ _).alloc (Nat.le_refl _) _
    have HV0 : Hid (P3 (W.alloc (.cells #[] 52)) W.heap.size (some ⟨W.heap.size, 0, none⟩) 0 []) := VK.lit (K := PrK) W W.heap.size (Nat.le_refl _)
    have HAL := Lib.hid (HH.out.kept hb)
    have hs := hb.size
    have hn2 : 0 + n ≤ 1048576 := by omega
    have HB := Lib.hid hb
    clear hb HH
    go_wp2_with (with_reducible refine wpList_append_allK (K := PrK) Try.underlying29 prinfo rfl (by decide) (by decide) rfl (.tmp 5) (.tmp 6) rfl W.heap.size (some ⟨W.heap.size, 0, none⟩) 0 0 [] rfl rfl HV0.out (some a) n c L rfl HN.out HAL.out hn2 hs ?_; intro Aw cw w4 hv4 hb4)
    go_ret
    exact ⟨⟨Aw, cw, rfl, hv4.out⟩, HB.out.trans hb4.out⟩
end Lf
end Go.Proofs.Ytohnllclkpflaaa

namespace Go.Proofs.Ytohnllclkpflaaa
open Go.RowKit
namespace Lf
open Mem Lx Bu
set_option maxRecDepth 100000 in
set_option maxHeartbeats 2000000 in
theorem GrowP_nil (W : World) (n : Nat) (hn : n ≤ 1048576) : Calls Try.prog 46 #[.slice none 0 0, .int .i64 (n : Int)] W fun e w' => (∃ A' c', e = .returned (.slice A' 0 c') ∧ VK PrK w' W.heap.size A' c' []) ∧ Below W.heap.size W w' := by
  rcases Nat.eq_zero_or_pos n with rfl | h0
  · go_enter Try.func46, Try.ntmps46
    go_wp2_with fail
    go_ret
    exact ⟨⟨none, 0, rfl, VK.nil _ _⟩, Below.refl _ _⟩
  · obtain ⟨i, hi, hz, hs, hby⟩ := info_parts prinfo
    have hrz := fun ty => Lib.run_append_nil_zeros (P := Try.prog) W 29 3 ty 52 i _ .i64 .i64 Try.underlying29 Try.underlying3 hi hz n h0 (by omega) (by omega) (by rw [hby]; omega)
    have hcap := grownCap_le_maxLen W n 0 52 (by unfold maxLen; omega)
    have hge := grownCap_ge W n 0 52
    generalize grownCap W n 0 52 = cap at *
    have HV : Hid (VK PrK (W.drew.alloc (.cells (Builtin.zeroCells (Value.agg #[.string ⟨#[]⟩, .string ⟨#[]⟩]).cells n ++ Builtin.zeroCells (Value.agg #[.string ⟨#[]⟩, .string ⟨#[]⟩]).cells (cap - n)) 52)) W.heap.size (some ⟨W.heap.size, 0, none⟩) cap []) := World.ownsRow_made (base := W.heap.size) (e := 52) (size := 2) W.drew _ cap (Nat.le_refl _) hcap (by
      rw [Array.size_append, zeroCellsK_size, zeroCellsK_size, ← Nat.add_mul]
      rw [show n + (cap - n) = cap by omega]
      rfl)
    have HB : Hid (Below W.heap.size W (W.drew.alloc (.cells (Builtin.zeroCells (Value.agg #[.string ⟨#[]⟩, .string ⟨#[]⟩]).cells n ++ Builtin.zeroCells (Value.agg #[.string ⟨#[]⟩, .string ⟨#[]⟩]).cells (cap - n)) 52))) := (Below.refl _ _).drew.alloc (Nat.le_refl _) _
    generalize W.drew.alloc (.cells (Builtin.zeroCells (Value.agg #[.string ⟨#[]⟩, .string ⟨#[]⟩]).cells n ++ Builtin.zeroCells (Value.agg #[.string ⟨#[]⟩, .string ⟨#[]⟩]).cells (cap - n)) 52) = w1 at *
    clear hi hz hs hby
    unfold maxLen at hcap
    generalize hg : W.heap.size = g at *
    go_enter Try.func46, Try.ntmps46
    go_wp2_with (with_reducible refine Lib.wpList_append_run _ rfl _ _ _ _ rfl _ _ rfl rfl _ _ (hrz _) ?_)
    go_ret
    exact ⟨⟨_, cap, rfl, HV.out⟩, HB.out⟩
set_option maxRecDepth 100000 in
set_option maxHeartbeats 4000000 in
theorem ConcatP_any {W : World} {g cx : Nat} {LS : List (List Pr)} (h : MK PrK W g LS) (hn : LS.length ≤ 1000) (hl : LS.flatten.length ≤ 1000000) : Calls Try.prog 30 #[.slice (some ⟨g, 0, none⟩) LS.length cx] W fun e w' => (∃ A' c', e = .returned (.slice A' LS.flatten.length c') ∧ VK PrK w' W.heap.size A' c' LS.flatten) ∧ Below W.heap.size W w' := by
  have HF : Hid (∀ k, ((LS.take k).flatten).length ≤ 1000000) := fun k => Nat.le_trans (flatK_le LS k) hl
  have HT : Hid ((LS.take LS.length).flatten = LS.flatten) := by unfold Hid; rw [List.take_length]
  have HH := Lib.hid h
  generalize hm : LS.length = m at *
  generalize ht : LS.flatten.length = t at *
  have HM := Lib.hid hm
  have HL := Lib.hid ht
  have cG := fun W => Lib.hid (GrowP_nil W t (by omega))
  clear h hm ht
  go_enter Try.func30, Try.ntmps30
  go_upto_block 0 with fail
  go_cut [3] (fun sv wx => sv = .int .i64 (t : Int) ∧ wx = W)
  case first =>
    go_wp2_with fail
    go_loopg [3, 11] m (fun gk sv iv wr => ∃ (k s : Nat), k ≤ m ∧ gk = m - k ∧ iv = .int .i64 (k : Int) ∧ sv = .int .i64 (s : Int) ∧ s ≤ 1000000 ∧ Hid (((LS.take k).flatten).length = s) ∧ wr = W)
    case atStart => exact ⟨0, 0, Nat.zero_le _, rfl, rfl, rfl, Nat.zero_le _, rfl, rfl⟩
    case round =>
      obtain ⟨k, s, hk, rfl, rfl, rfl, hs, HS, rfl⟩ := hrel
      by_cases hlt : k < m
      · have hkL : k < LS.length := by rw [HM.out]; exact hlt
        obtain ⟨L, hLL⟩ : ∃ L, L = LS[k] := ⟨_, rfl⟩
        have hL' : LS[k]? = some L := by rw [hLL]; exact List.getElem?_eq_getElem hkL
        obtain ⟨A, c, hc, hML⟩ := HH.out k L hL'
        obtain ⟨l, hll⟩ : ∃ l, l = L.length := ⟨_, rfl⟩
        rw [← hll] at hc
        have HS2 : Hid (((LS.take (k + 1)).flatten).length = s + l) := by
          unfold Hid
          rw [flatK_next hL', List.length_append, HS.out, hll]
        have hb2 : s + l ≤ 1000000 := by rw [← HS2.out]; exact HF.out (k + 1)
        clear hLL hL' hML hll hkL
        have hw2 : IntKind.i64.wrap ((k : Int) + 1) = ((k + 1 : Nat) : Int) := by rw [IntKind.wrap_i64]; omega
        have hw3 : IntKind.i64.wrap ((s : Int) + (l : Int)) = ((s + l : Nat) : Int) := by rw [IntKind.wrap_i64]; omega
        go_wp2_with fail
        go_roundg (m - (k + 1))
        case measure => omega
        case rel => exact ⟨k + 1, s + l, hlt, rfl, by go_num, by go_num, hb2, HS2, rfl⟩
      · obtain rfl : k = m := by omega
        have HE : Hid (s = t) := by
          unfold Hid
          rw [← HS.out, HT.out, HL.out]
        obtain rfl := HE.out
        go_wp2_with fail
        go_meet
        exact ⟨rfl, rfl⟩
  case rest =>
  obtain ⟨rfl, rfl⟩ := hcut
  go_upto_region 10 with (go_at_call 46; refine (cG _).out.mono ?_; rintro e w1 ⟨⟨A0, c0, rfl, h1⟩, hb⟩)
  have H0 := Lib.hid h1
  have HB0 := Lib.hid hb
  clear h1 hb cG
  go_wp2_with fail
  go_loopg [6, 27] m (fun gk bv iv wr => ∃ (k j c' : Nat) (A' : Option Addr), k ≤ m ∧ gk = m - k ∧ iv = .int .i64 (k : Int) ∧ bv = .slice A' j c' ∧ j ≤ 1000000 ∧ Hid (((LS.take k).flatten).length = j) ∧ Hid (VK PrK wr wc.heap.size A' c' ((LS.take k).flatten)) ∧ Hid (Below wc.heap.size wc wr))
  case atStart => exact ⟨0, 0, c0, A0, Nat.zero_le _, rfl, rfl, rfl, Nat.zero_le _, rfl, H0, HB0⟩
  case round =>
    obtain ⟨k, j, c', A', hk, rfl, rfl, rfl, hj, HJ, HV, HB⟩ := hrel
    clear H0 HB0
    by_cases hlt : k < m
    · have hkL : k < LS.length := by rw [HM.out]; exact hlt
      obtain ⟨L, hLL⟩ : ∃ L, L = LS[k] := ⟨_, rfl⟩
      have hL' : LS[k]? = some L := by rw [hLL]; exact List.getElem?_eq_getElem hkL
      obtain ⟨A, c, hc, hML⟩ := (HH.out.kept HB.out) k L hL'
      obtain ⟨l, hll⟩ : ∃ l, l = L.length := ⟨_, rfl⟩
      rw [← hll] at hc
      have HS2 := Lib.hid (flatK_next hL')
      have hb2 : j + l ≤ 1000000 := by
        have := HF.out (k + 1)
        rw [HS2.out, List.length_append, HJ.out, ← hll] at this
        exact this
      have HAL := Lib.hid hML
      have HLN := Lib.hid hll.symm
      have hn2 : j + l ≤ 1048576 := by omega
      have hs2 := HB.out.size
      have hw2 : IntKind.i64.wrap ((k : Int) + 1) = ((k + 1 : Nat) : Int) := by rw [IntKind.wrap_i64]; omega
      clear hLL hL' hML hll hkL
      go_wp2_with (with_reducible refine wpList_append_allK (K := PrK) Try.underlying29 prinfo rfl (by decide) (by decide) rfl (.tmp 31) (.tmp 32) rfl wc.heap.size A' j c' _ rfl HJ.out HV.out A l c L rfl HLN.out HAL.out hn2 hs2 ?_; intro Aw cw w4 hv4 hb4)
      go_roundg (m - (k + 1))
      case measure => omega
      case rel => exact ⟨k + 1, j + l, cw, Aw, hlt, rfl, by go_num, rfl, hb2, by unfold Hid; rw [HS2.out, List.length_append, HJ.out, HLN.out], by rw [HS2.out]; exact hv4.out, HB.out.trans hb4.out⟩
    · obtain rfl : k = m := by omega
      rw [HT.out] at HV HJ
      have HE : Hid (j = t) := by
        unfold Hid
        rw [← HJ.out, HL.out]
      obtain rfl := HE.out
      clear hlt
      go_wp2_with fail
      go_ret
      exact ⟨⟨A', c', rfl, HV.out⟩, HB.out⟩
theorem concatP2 {W : World} {g cx : Nat} {U : TypeId} {L1 L2 X : List Pr} {A1 A2 : Option Addr} {n1 n2 c1 c2 N : Nat} {fl : Nat × Nat} (h : W.heap[g]? = some (.cells #[.slice A1 n1 c1, .slice A2 n2 c2] U fl)) (e1 : L1.length = n1) (e2 : L2.length = n2) (h1 : RdK PrK W A1 L1) (h2 : RdK PrK W A2 L2) (hX : L1 ++ L2 = X) (hN : X.length = N) (hl : N ≤ 1000000) : Calls Try.prog 30 #[.slice (some ⟨g, 0, none⟩) 2 cx] W fun e w' => (∃ v, e = .returned v ∧ EvRK PrK W.heap.size N X v w') ∧ Below W.heap.size W w' := by
  have hf : [L1, L2].flatten = X := by rw [← hX]; simp
  have := ConcatP_any (cx := cx) (MK.two h e1 e2 h1 h2) (show 2 ≤ 1000 by decide) (by rw [hf, hN]; exact hl)
  rw [hf, hN] at this
  exact this.mono fun e w' ⟨⟨A', c', he, hm⟩, hb⟩ => ⟨⟨_, he, A', c', rfl, hm⟩, hb⟩
theorem concatP3 {W : World} {g cx : Nat} {U : TypeId} {L1 L2 L3 X : List Pr} {A1 A2 A3 : Option Addr} {n1 n2 n3 c1 c2 c3 N : Nat} {fl : Nat × Nat} (h : W.heap[g]? = some (.cells #[.slice A1 n1 c1, .slice A2 n2 c2, .slice A3 n3 c3] U fl)) (e1 : L1.length = n1) (e2 : L2.length = n2) (e3 : L3.length = n3) (h1 : RdK PrK W A1 L1) (h2 : RdK PrK W A2 L2) (h3 : RdK PrK W A3 L3) (hX : L1 ++ L2 ++ L3 = X) (hN : X.length = N) (hl : N ≤ 1000000) : Calls Try.prog 30 #[.slice (some ⟨g, 0, none⟩) 3 cx] W fun e w' => (∃ v, e = .returned v ∧ EvRK PrK W.heap.size N X v w') ∧ Below W.heap.size W w' := by
  have hf : [L1, L2, L3].flatten = X := by rw [← hX]; simp
  have := ConcatP_any (cx := cx) (MK.three h e1 e2 e3 h1 h2 h3) (show 3 ≤ 1000 by decide) (by rw [hf, hN]; exact hl)
  rw [hf, hN] at this
  exact this.mono fun e w' ⟨⟨A', c', he, hm⟩, hb⟩ => ⟨⟨_, he, A', c', rfl, hm⟩, hb⟩
theorem cloneRP {W : World} {A : Option Addr} {n c : Nat} {X : List Pr} (h : RdK PrK W A X) (hn : X.length = n) (hl : n ≤ 1000000) : Calls Try.prog 42 #[.slice A n c] W fun e w' => (∃ v, e = .returned v ∧ EvRK PrK W.heap.size n X v w') ∧ Below W.heap.size W w' := by
  subst hn
  exact (CloneP_any (c := c) h (by omega)).mono fun e w' ⟨⟨A', c', he, hm⟩, hb⟩ => ⟨⟨_, he, A', c', rfl, hm⟩, hb⟩
end Lf
end Go.Proofs.Ytohnllclkpflaaa

namespace Go.Proofs.Ytohnllclkpflaaa
open Go.RowKit
namespace Mem
/-- append of one struct as an event of a region that draws its order -/
theorem evAt_appendK {α : Type} {K : Kind α} {P : Program} {SS : List Nat} {S : TypeId} {z : Value} {by_ : Nat} (hS : P.underlying S = some (.slice K.T)) (hinfo : (P.info? K.T).map (fun i => (i.zero, i.size, i.bytes)) = some (some z, K.k, by_)) (hz : z.cells.size = K.k) (hby : by_ ≤ 64) (hk : 0 < K.k)
    {w : World} {o : Oper} {a : Act} {V : Value → World → Prop} (s x : Operand)
    (ho : o.op = .call { callee := .builtin .append, args := #[s, x], argTypes := #[S, S] })
    (B : Nat) (A : Option Addr) (n c : Nat) (L : List α) (hs : a.eval s = .slice A n c) (hvn : L.length = n) (h : VK K w B A c L) (xb cx : Nat) (y : α) (hx : a.eval x = .slice (some ⟨xb, 0, none⟩) 1 cx) (hu : w.heap[xb]? = some (.cells (K.cs y).toArray K.T (0, 0))) (hn : n + 1 ≤ 1048576) (hB : B ≤ w.heap.size)
    (hSS : ∀ a, A = some a → a.block ∈ SS) (hh : ∀ A' c' w', AppdK K B w w' A A' c' (L ++ [y]) → V (.slice A' (n + 1) c') w') : Flow.evAt P SS o a w V := by
  subst hvn
  obtain ⟨A', c', w', hrun, hd⟩ := run_appendK hS hinfo hz hby o.type h xb cx y hu hn hk hB
  unfold Flow.evAt execOp
  simp only [ho, resolve, invoke, builtin, Sem.run_bind, Sem.run_pure, Result.andThen_ok, List.map_toArray, List.map_cons, List.map_nil, hs, hx, hrun]
  exact ⟨hh A' c' w' hd, hd.below.os, hd.below.tape, hd.below.output, hd.below.size, fun k hk hn => hd.block k hk fun a ha hak => hn (hak ▸ hSS a ha)⟩
/-- append of a whole slice to nil, as an event -/
theorem evAt_append_nilK {α : Type} {K : Kind α} {P : Program} {SS : List Nat} {S : TypeId} {z : Value} {by_ : Nat} (hS : P.underlying S = some (.slice K.T)) (hinfo : (P.info? K.T).map (fun i => (i.zero, i.size, i.bytes)) = some (some z, K.k, by_)) (hz : z.cells.size = K.k) (hby : by_ ≤ 64) (hk : 0 < K.k)
    {w : World} {o : Oper} {a : Act} {V : Value → World → Prop} (s x : Operand)
    (ho : o.op = .call { callee := .builtin .append, args := #[s, x], argTypes := #[S, S] })
    (B : Nat) (hs : a.eval s = .slice none 0 0) (A2 : Option Addr) (m c2 : Nat) (M : List α) (hx : a.eval x = .slice A2 m c2) (hM : M.length = m) (hb : RdK K w A2 M) (hn : m ≤ 1048576) (hB : B ≤ w.heap.size)
    (hh : ∀ A' c' w', VK K w' B A' c' M → Below w.heap.size w w' → V (.slice A' m c') w') : Flow.evAt P SS o a w V := by
  subst hM
  obtain ⟨A', c', w', hrun, hd⟩ := run_append_allA (L := []) hS hinfo hz hby o.type (VK.nil w B) c2 hb (by simpa using hn) hk hB
  simp only [List.length_nil, Nat.zero_add] at hrun
  unfold Flow.evAt execOp
  simp only [ho, resolve, invoke, builtin, Sem.run_bind, Sem.run_pure, Result.andThen_ok, List.map_toArray, List.map_cons, List.map_nil, hs, hx, hrun]
  have hblk : ∀ k, k < w.heap.size → w'.heap[k]? = w.heap[k]? := fun k hk => hd.block k hk fun a ha => by cases ha
  have hbel : Below w.heap.size w w' := ⟨hd.below.os, hd.below.tape, hd.below.output, hd.below.size, hblk⟩
  exact ⟨hh A' c' w' (by simpa using hd.vo) hbel, hd.below.os, hd.below.tape, hd.below.output, hd.below.size, fun k hk _ => hblk k hk⟩
/-- what an append of one struct leaves, told from an earlier world -/
structure AppW {α : Type} (K : Kind α) (B : Nat) (w w' : World) (A A' : Option Addr) (c' : Nat) (L : List α) : Prop where
  vo : VK K w' B A' c' L
  below : Below B w w'
  block : ∀ k, k < w.heap.size → (∀ a, A = some a → a.block ≠ k) → w'.heap[k]? = w.heap[k]?
  row : ∀ a', A' = some a' → (∃ a, A = some a ∧ a'.block = a.block) ∨ w.heap.size ≤ a'.block
theorem AppW.then_ {α : Type} {K : Kind α} {B c' : Nat} {w w' w2 : World} {A A' : Option Addr} {L : List α} (h : AppW K B w w' A A' c' L) (hb : Below w'.heap.size w' w2) (hB : B ≤ w'.heap.size) : AppW K B w w2 A A' c' L :=
  ⟨h.vo.kept hb, h.below.trans (hb.mono hB), fun k hk hn => (hb.block k (Nat.lt_of_lt_of_le hk h.below.size)).trans (h.block k hk hn), h.row⟩
/-- the event's answer -/
def EvApp {α : Type} (K : Kind α) (B : Nat) (w : World) (A : Option Addr) (n : Nat) (L : List α) (v : Value) (w' : World) : Prop := ∃ A' c', v = .slice A' n c' ∧ AppW K B w w' A A' c' L
theorem evAt_appW {α : Type} {K : Kind α} {P : Program} {SS : List Nat} {S : TypeId} {z : Value} {by_ : Nat} (hS : P.underlying S = some (.slice K.T)) (hinfo : (P.info? K.T).map (fun i => (i.zero, i.size, i.bytes)) = some (some z, K.k, by_)) (hz : z.cells.size = K.k) (hby : by_ ≤ 64) (hk : 0 < K.k)
    {w W2 : World} {o : Oper} {a : Act} (s x : Operand)
    (ho : o.op = .call { callee := .builtin .append, args := #[s, x], argTypes := #[S, S] })
    (B : Nat) (A : Option Addr) (n c : Nat) (L : List α) (hs : a.eval s = .slice A n c) (hvn : L.length = n) (h : VK K w B A c L) (hkk : Below w.heap.size w W2) (xb cx : Nat) (y : α) (hx : a.eval x = .slice (some ⟨xb, 0, none⟩) 1 cx) (hu : W2.heap[xb]? = some (.cells (K.cs y).toArray K.T (0, 0))) (hn : n + 1 ≤ 1048576) (hB : B ≤ w.heap.size)
    (hSS : ∀ a, A = some a → a.block ∈ SS) : Flow.evAt P SS o a W2 (EvApp K B w A (n + 1) (L ++ [y])) :=
  evAt_appendK hS hinfo hz hby hk s x ho B A n c L hs hvn (h.kept hkk) xb cx y hx hu hn (Nat.le_trans hB hkk.size) hSS fun A' c' w' hd => ⟨A', c', rfl, hd.vo, (hkk.mono hB).trans hd.below, fun k hk hn => (hd.block k (Nat.lt_of_lt_of_le hk hkk.size) hn).trans (hkk.block k hk), fun a' ha' => by
    rcases hd.row a' ha' with h1 | h1
    · exact .inl h1
    · exact .inr (by rw [h1]; exact hkk.size)⟩
theorem VK.blocks {α : Type} {K : Kind α} {w : World} {B c : Nat} {A : Option Addr} {L : List α} (h : VK K w B A c L) : ∃ S : List Nat, (∀ a, A = some a → a.block ∈ S) ∧ ∀ k, k ∈ S → B ≤ k ∧ k < w.heap.size := by
  cases A with
  | none => exact ⟨[], (fun a ha => by cases ha), (fun k hk => by cases hk)⟩
  | some x =>
    refine ⟨[x.block], (fun a ha => by cases ha; simp), fun k hk => ?_⟩
    obtain rfl : k = x.block := by simpa using hk
    exact h.at_ x rfl
end Mem
end Go.Proofs.Ytohnllclkpflaaa

namespace Go.Proofs.Ytohnllclkpflaaa
open Go.RowKit
namespace No
open Mem Lx Bu Lf Fa
variable {c : Cfg} {lo hi : ByteArray} {top : Bool} {n : Nd}
theorem halfN_leaf (h : n.lv = 0) : halfN n = (⟨0, [], [], [], (halfP n.prs).1⟩, ⟨0, [], [], [], (halfP n.prs).2.1⟩, (halfP n.prs).2.2.1, (halfP n.prs).2.2.2) := if_pos h
theorem halfN_few (h : n.lv ≠ 0) (k : n.kids.length < 2) : halfN n = (zeroN, zeroN, ⟨#[]⟩, false) := by
  unfold halfN
  rw [if_neg h, if_pos k]
theorem halfN_inner {k : Nat} {p : ByteArray} (h : n.lv ≠ 0) (h2 : 2 ≤ n.kids.length) (hk : k = (n.kids.length + 1) / 2) (hp : n.piv[k - 1]? = some p) : halfN n = (⟨n.lv, n.kids.take k, n.piv.take (k - 1), belowM p n.buf, []⟩, ⟨n.lv, n.kids.drop k, n.piv.drop k, restM p n.buf, []⟩, p, true) := by
  unfold halfN
  rw [if_neg h, if_neg (by omega), ← hk, List.getD_eq_getElem?_getD, hp]
  rfl
/-- a right node that is no leaf has the pivot -/
theorem InnerP.pivot (h : InnerP c lo hi top n) (h2 : 2 ≤ n.kids.length) : ∃ k p, k = (n.kids.length + 1) / 2 ∧ 1 ≤ k ∧ k < n.kids.length ∧ n.piv[k - 1]? = some p := by
  have h1 := h.fewer
  have hlt : (n.kids.length + 1) / 2 - 1 < n.piv.length := by omega
  exact ⟨_, _, rfl, by omega, by omega, List.getElem?_eq_getElem hlt⟩
theorem half_none (h : RightN c lo hi top n) (ho : (halfN n).2.2.2 = false) : n.lv = 0 ∧ n.prs.length < 2 ∨ 0 < n.lv ∧ n.kids.length < 2 := by
  by_cases hl : n.lv = 0
  · left
    refine ⟨hl, ?_⟩
    rcases Nat.lt_or_ge n.prs.length 2 with h2 | h2
    · exact h2
    · obtain ⟨x, y, _, _, e⟩ := halfP_at h2
      rw [halfN_leaf hl, e] at ho
      cases ho
  · right
    obtain ⟨h0, hi⟩ := h.2 hl
    refine ⟨h0, ?_⟩
    rcases Nat.lt_or_ge n.kids.length 2 with h2 | h2
    · exact h2
    · obtain ⟨k, p, hk, _, _, hp⟩ := hi.pivot h2
      rw [halfN_inner hl h2 hk hp] at ho
      cases ho
/-- there and back -/
theorem half_back (h : RightN c lo hi top n) (ho : (halfN n).2.2.2 = true) : joinN (halfN n).1 (halfN n).2.2.1 (halfN n).2.1 = (n, true) := by
  by_cases hl : n.lv = 0
  · have ho' := ho
    rw [halfN_leaf hl] at ho'
    rcases Nat.lt_or_ge n.prs.length 2 with h2 | h2
    · rw [halfP_few h2] at ho'
      cases ho'
    obtain ⟨x, y, _, _, e⟩ := halfP_at h2
    have hf := h.form.leaf hl
    rw [halfN_leaf hl, e]
    unfold joinN
    simp only [ne_eq, not_true_eq_false, if_false, List.append_nil, Int.lt_irrefl, Prod.mk.injEq, and_true]
    rw [nd_eq]
    exact ⟨hl.symm, hf.1.symm, hf.2.1.symm, hf.2.2.symm, List.take_append_drop _ _⟩
  · obtain ⟨h0, hi⟩ := h.2 hl
    rcases Nat.lt_or_ge n.kids.length 2 with h2 | h2
    · rw [halfN_few hl h2] at ho
      cases ho
    obtain ⟨k, p, hk, hk1, hk2, hp⟩ := hi.pivot h2
    rw [halfN_inner hl h2 hk hp]
    unfold joinN
    simp only [ne_eq, not_true_eq_false, if_false, List.append_nil, Prod.mk.injEq, and_true]
    rw [nd_eq, if_pos h0]
    refine ⟨rfl, List.take_append_drop _ _, ?_, below_rest (rise_iff.1 hi.rise), (nil_of hi.prs).symm⟩
    have e : n.piv.take (k - 1) ++ [p] = n.piv.take k := by
      have hlt := (List.getElem?_eq_some_iff.1 hp).1
      have e2 : n.piv[k - 1] = p := (List.getElem?_eq_some_iff.1 hp).2
      have := List.take_succ_eq_append_getElem hlt
      rw [show k - 1 + 1 = k by omega] at this
      rw [this, e2]
    rw [e]
    exact List.take_append_drop _ _
/-- sizes -/
theorem half_fit (h : RightN c lo hi top n) (hf : Fit n) : Fit (halfN n).1 ∧ Fit (halfN n).2.1 ∧ (halfN n).2.2.1.size ≤ 200 := by
  have hz : Fit zeroN := ⟨Nat.zero_le _, Nat.zero_le _, Nat.zero_le _, Nat.zero_le _, (fun p hp => by cases hp), (fun p hp => by cases hp), (fun p hp => by cases hp)⟩
  by_cases hl : n.lv = 0
  · rw [halfN_leaf hl]
    rcases Nat.lt_or_ge n.prs.length 2 with h2 | h2
    · rw [halfP_few h2]
      exact ⟨hz, hz, Nat.zero_le _⟩
    obtain ⟨x, y, _, hy, e⟩ := halfP_at h2
    rw [e]
    have hq := hf.prs
    refine ⟨⟨Nat.zero_le _, Nat.zero_le _, Nat.zero_le _, by rw [List.length_take]; omega, (fun p hp => by cases hp), (fun p hp => by cases hp), fun p hp => hf.qk p (List.mem_of_mem_take hp)⟩, ⟨Nat.zero_le _, Nat.zero_le _, Nat.zero_le _, by rw [List.length_drop]; omega, (fun p hp => by cases hp), (fun p hp => by cases hp), fun p hp => hf.qk p (List.mem_of_mem_drop hp)⟩, ?_⟩
    exact Nat.le_trans (cutB_size _ _) (hf.qk y (List.mem_of_getElem? hy))
  · obtain ⟨h0, hi⟩ := h.2 hl
    rcases Nat.lt_or_ge n.kids.length 2 with h2 | h2
    · rw [halfN_few hl h2]
      exact ⟨hz, hz, Nat.zero_le _⟩
    obtain ⟨k, p, hk, hk1, hk2, hp⟩ := hi.pivot h2
    rw [halfN_inner hl h2 hk hp]
    have q1 := hf.kids
    have q2 := hf.piv
    have q3 := hf.buf
    have b1 := (below_sub p n.buf).length_le
    have b2 := (rest_sub p n.buf).length_le
    exact ⟨⟨by rw [List.length_take]; omega, by rw [List.length_take]; omega, by simp only; omega, Nat.zero_le _, fun x hx => hf.pk x (List.mem_of_mem_take hx), fun x hx => hf.bk x ((below_sub p n.buf).subset hx), (fun x hx => by cases hx)⟩, ⟨by rw [List.length_drop]; omega, by rw [List.length_drop]; omega, by simp only; omega, Nat.zero_le _, fun x hx => hf.pk x (List.mem_of_mem_drop hx), fun x hx => hf.bk x ((rest_sub p n.buf).subset hx), (fun x hx => by cases hx)⟩, hf.pk p (List.mem_of_getElem? hp)⟩
theorem half_form (h : RightN c lo hi top n) : Form (halfN n).1 ∧ Form (halfN n).2.1 := by
  by_cases hl : n.lv = 0
  · rw [halfN_leaf hl]
    exact ⟨⟨fun _ => ⟨rfl, rfl, rfl⟩, fun e => absurd rfl e⟩, ⟨fun _ => ⟨rfl, rfl, rfl⟩, fun e => absurd rfl e⟩⟩
  · obtain ⟨h0, hi⟩ := h.2 hl
    rcases Nat.lt_or_ge n.kids.length 2 with h2 | h2
    · rw [halfN_few hl h2]
      exact ⟨⟨fun _ => ⟨rfl, rfl, rfl⟩, fun e => absurd rfl e⟩, ⟨fun _ => ⟨rfl, rfl, rfl⟩, fun e => absurd rfl e⟩⟩
    obtain ⟨k, p, hk, hk1, hk2, hp⟩ := hi.pivot h2
    rw [halfN_inner hl h2 hk hp]
    exact ⟨⟨fun e => absurd e hl, fun _ => ⟨h0, rfl⟩⟩, ⟨fun e => absurd e hl, fun _ => ⟨h0, rfl⟩⟩⟩
theorem half_kid (h : RightN c lo hi top n) (hk : ∀ k, k ∈ n.kids → k < 4294967296) : (∀ k, k ∈ (halfN n).1.kids → k < 4294967296) ∧ ∀ k, k ∈ (halfN n).2.1.kids → k < 4294967296 := by
  by_cases hl : n.lv = 0
  · rw [halfN_leaf hl]
    exact ⟨(fun k h => by cases h), (fun k h => by cases h)⟩
  · obtain ⟨h0, hi⟩ := h.2 hl
    rcases Nat.lt_or_ge n.kids.length 2 with h2 | h2
    · rw [halfN_few hl h2]
      exact ⟨(fun k h => by cases h), (fun k h => by cases h)⟩
    obtain ⟨k, p, hkk, hk1, hk2, hp⟩ := hi.pivot h2
    rw [halfN_inner hl h2 hkk hp]
    exact ⟨fun x hx => hk x (List.mem_of_mem_take hx), fun x hx => hk x (List.mem_of_mem_drop hx)⟩
theorem KidsOk.take {K : List Nat} (h : KidsOk c K) (k : Nat) : KidsOk c (K.take k) := fun i x hx => by
  rw [List.getElem?_take] at hx
  split at hx
  · refine ⟨(h i x hx).1, fun j m hj hm => ?_⟩
    rw [List.getElem?_take_of_lt (by omega)] at hm
    exact (h i x hx).2 j m hj hm
  · cases hx
theorem KidsOk.drop {K : List Nat} (h : KidsOk c K) (k : Nat) : KidsOk c (K.drop k) := fun i x hx => by
  rw [List.getElem?_drop] at hx
  refine ⟨(h _ x hx).1, fun j m hj hm => ?_⟩
  rw [List.getElem?_drop] at hm
  exact (h _ x hx).2 (k + j) m (by omega) hm
/-- the halves of a right node are right, about the pivot -/
theorem half_right (h : RightN c lo hi top n) (ho : (halfN n).2.2.2 = true) : inB lo hi top (halfN n).2.2.1 = true ∧ (halfN n).2.2.1 ≠ lo ∧ keyB c (halfN n).2.2.1 = true ∧ RightN c lo (halfN n).2.2.1 false (halfN n).1 ∧ RightN c (halfN n).2.2.1 hi top (halfN n).2.1 := by
  by_cases hl : n.lv = 0
  · have hr := h.1 hl
    have ho' := ho
    rw [halfN_leaf hl] at ho'
    rcases Nat.lt_or_ge n.prs.length 2 with h2 | h2
    · rw [halfP_few h2] at ho'
      cases ho'
    obtain ⟨x, y, hx, hy, e⟩ := halfP_at h2
    obtain ⟨k, hk⟩ : ∃ k, k = (n.prs.length + 1) / 2 := ⟨_, rfl⟩
    rw [halfN_leaf hl, e, ← hk]
    rw [← hk] at hx hy
    simp only
    have hri := prise_iff.1 hr.rise
    have hxy : cmpB x.1 y.1 < 0 := hri.at_ hx hy (by omega)
    obtain ⟨m1, m2⟩ := cutB_mid hxy
    have hx0 := hr.each x (List.mem_of_getElem? hx)
    have hy0 := hr.each y (List.mem_of_getElem? hy)
    have hxi := in_iff.1 hx0.2.1
    have hyi := in_iff.1 hy0.2.1
    have hsz := cutB_size x.1 y.1
    generalize (cutB x.1 y.1).1 = p at *
    have hlop : cmpB lo p < 0 := cmp_le_lt hxi.1 m1
    have hkey : keyB c p = true := by
      have h1 := size_pos m1
      have h3 := hy0.1
      unfold keyB at h3 ⊢
      simp only [Bool.and_eq_true, decide_eq_true_eq] at h3 ⊢
      omega
    have hpin : inB lo hi top p = true := in_iff.2 ⟨by omega, hyi.2.imp id fun h4 => cmp_le_lt m2 h4⟩
    have ha : ∀ z, z ∈ n.prs.take k → cmpB z.1 p < 0 := fun z hz => by
      obtain ⟨i, hi⟩ := List.getElem?_of_mem hz
      rw [List.getElem?_take] at hi
      split at hi
      · rcases Nat.lt_or_ge i (k - 1) with h5 | h5
        · exact cmpB_trans (hri.at_ hi hx h5) m1
        · obtain rfl : i = k - 1 := by omega
          rw [hx] at hi
          cases hi
          exact m1
      · cases hi
    have hb : ∀ z, z ∈ n.prs.drop k → cmpB p z.1 ≤ 0 := fun z hz => by
      obtain ⟨i, hi⟩ := List.getElem?_of_mem hz
      rw [List.getElem?_drop] at hi
      rcases Nat.eq_zero_or_pos i with h5 | h5
      · subst h5
        rw [Nat.add_zero, hy] at hi
        cases hi
        exact m2
      · have h6 := hri.at_ hy hi (by omega)
        exact cmp_le_le m2 (by omega)
    have hlen := hr.few
    refine ⟨hpin, fun e2 => ?_, hkey, ⟨fun _ => ?_, fun e2 => absurd rfl e2⟩, ⟨fun _ => ?_, fun e2 => absurd rfl e2⟩⟩
    · rw [e2, cmpB_self] at hlop
      omega
    · refine ⟨fun z hz => ?_, rfl, rfl, rfl, ?_, prise_iff.2 (hri.sublist (List.take_sublist _ _))⟩
      · have h7 := hr.each z (List.mem_of_mem_take hz)
        exact ⟨h7.1, in_iff.2 ⟨(in_iff.1 h7.2.1).1, .inr (ha z hz)⟩, h7.2.2⟩
      · rw [List.length_take]
        omega
    · refine ⟨fun z hz => ?_, rfl, rfl, rfl, ?_, prise_iff.2 (hri.sublist (List.drop_sublist _ _))⟩
      · have h7 := hr.each z (List.mem_of_mem_drop hz)
        exact ⟨h7.1, in_iff.2 ⟨hb z hz, (in_iff.1 h7.2.1).2⟩, h7.2.2⟩
      · rw [List.length_drop]
        omega
  · obtain ⟨h0, hr⟩ := h.2 hl
    rcases Nat.lt_or_ge n.kids.length 2 with h2 | h2
    · rw [halfN_few hl h2] at ho
      cases ho
    obtain ⟨k, p, hk, hk1, hk2, hp⟩ := hr.pivot h2
    rw [halfN_inner hl h2 hk hp]
    simp only
    have hpm := List.mem_of_getElem? hp
    obtain ⟨hpin, hplo⟩ := hr.right.1 p hpm
    have hrs := srise_iff.1 hr.right.2
    have hfe := hr.fewer
    have hfan := hr.fan
    have hbri := rise_iff.1 hr.rise
    have hbf := hr.few
    have hlt : k - 1 < n.piv.length := (List.getElem?_eq_some_iff.1 hp).1
    refine ⟨hpin, hplo, hr.piv p hpm, ⟨fun e => absurd e hl, fun _ => ⟨h0, ?_⟩⟩, ⟨fun e => absurd e hl, fun _ => ⟨h0, ?_⟩⟩⟩
    · refine ⟨hr.kids.take k, fun q hq => hr.piv q (List.mem_of_mem_take hq), fun m hm => ?_, hr.lv, rfl, ?_, ?_, ?_, ⟨fun q hq => ?_, srise_iff.2 (hrs.sublist (List.take_sublist _ _))⟩, ?_, rise_iff.2 (hbri.sublist (below_sub p _))⟩
      · have h7 := hr.buf m ((below_sub p _).subset hm)
        have h8 : cmpB m.1 p < 0 := by simpa using (List.mem_filter.1 hm).2
        exact ⟨h7.1, in_iff.2 ⟨(in_iff.1 h7.2.1).1, .inr h8⟩, h7.2.2⟩
      · rw [List.length_take]
        omega
      · rw [List.length_take]
        omega
      · rw [List.length_take, List.length_take]
        omega
      · have hqm := List.mem_of_mem_take hq
        obtain ⟨i, hi⟩ := List.getElem?_of_mem hq
        rw [List.getElem?_take] at hi
        split at hi
        · exact ⟨in_iff.2 ⟨(in_iff.1 (hr.right.1 q hqm).1).1, .inr (hrs.at_ hi hp (by omega))⟩, (hr.right.1 q hqm).2⟩
        · cases hi
      · have := (below_sub p n.buf).length_le
        simp only
        omega
    · refine ⟨hr.kids.drop k, fun q hq => hr.piv q (List.mem_of_mem_drop hq), fun m hm => ?_, hr.lv, rfl, ?_, ?_, ?_, ⟨fun q hq => ?_, srise_iff.2 (hrs.sublist (List.drop_sublist _ _))⟩, ?_, rise_iff.2 (hbri.sublist (rest_sub p _))⟩
      · have h7 := hr.buf m ((rest_sub p _).subset hm)
        have h8 : ¬ cmpB m.1 p < 0 := by simpa using (List.mem_filter.1 hm).2
        have h9 := cmpB_neg p m.1
        exact ⟨h7.1, in_iff.2 ⟨by omega, (in_iff.1 h7.2.1).2⟩, h7.2.2⟩
      · rw [List.length_drop]
        omega
      · rw [List.length_drop]
        omega
      · rw [List.length_drop, List.length_drop]
        omega
      · have hqm := List.mem_of_mem_drop hq
        obtain ⟨i, hi⟩ := List.getElem?_of_mem hq
        rw [List.getElem?_drop] at hi
        have h6 := hrs.at_ hp hi (by omega)
        refine ⟨in_iff.2 ⟨by omega, (in_iff.1 (hr.right.1 q hqm).1).2⟩, fun e => ?_⟩
        rw [e, cmpB_self] at h6
        omega
      · have := (rest_sub p n.buf).length_le
        simp only
        omega
end No
end Go.Proofs.Ytohnllclkpflaaa
