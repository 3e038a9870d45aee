/-
  Contracts of layer dev: From.
-/
import Derived.Test.YtcpdbdaallbphaaDevImage
namespace Go.Proofs.Ytcpdbdaallbphaa
open Go.RowKit
namespace Dv
open Mem

/-- an image's blocks -/
def chunks (l : List UInt8) (m n : Nat) : List (List UInt8) := (List.range n).map fun i => win l (i * m) m
def bksF (q m c n k : Nat) : List Bk := (List.range n).map fun i => if i < k then some (q, i * m, c - i * m) else none
def lsF (l : List UInt8) (m n k : Nat) : List (List UInt8) := (List.range n).map fun i => if i < k then win l (i * m) m else List.replicate m 0
theorem bksF_zero (q m c n : Nat) : bksF q m c n 0 = List.replicate n none := by
  unfold bksF
  apply List.ext_getElem
  · simp
  · intro i h1 h2; simp
theorem lsF_zero (l : List UInt8) (m n : Nat) : lsF l m n 0 = List.replicate n (List.replicate m 0) := by
  unfold lsF
  apply List.ext_getElem
  · simp
  · intro i h1 h2; simp
theorem lsF_all (l : List UInt8) (m n : Nat) : lsF l m n n = chunks l m n := by
  unfold lsF chunks
  refine List.map_congr_left fun i hi => ?_
  rw [if_pos (by simpa using hi)]
theorem bksF_at {q m c n k i : Nat} : (bksF q m c n k)[i]? = if i < n then some (if i < k then some (q, i * m, c - i * m) else none) else none := by
  unfold bksF
  rw [List.getElem?_map]
  by_cases h : i < n
  · simp [h]
  · simp [h]
theorem lsF_at {l : List UInt8} {m n k i : Nat} : (lsF l m n k)[i]? = if i < n then some (if i < k then win l (i * m) m else List.replicate m 0) else none := by
  unfold lsF
  rw [List.getElem?_map]
  by_cases h : i < n
  · simp [h]
  · simp [h]
theorem bksF_succ {q m c n k : Nat} (hk : k < n) : (bksF q m c n k).set k (some (q, k * m, c - k * m)) = bksF q m c n (k + 1) := by
  apply List.ext_getElem?
  intro i
  rw [List.getElem?_set, bksF_at, bksF_at]
  have hl : (bksF q m c n k).length = n := by simp [bksF]
  by_cases h : k = i
  · subst h; simp [hk, hl]
  · by_cases h2 : i < n
    · simp only [h, h2, if_true, if_false]
      by_cases h3 : i < k
      · rw [if_pos h3, if_pos (by omega)]
      · rw [if_neg h3, if_neg (by omega)]
    · simp [h, h2]
theorem lsF_succ {l : List UInt8} {m n k : Nat} (hk : k < n) : (lsF l m n k).set k (win l (k * m) m) = lsF l m n (k + 1) := by
  apply List.ext_getElem?
  intro i
  rw [List.getElem?_set, lsF_at, lsF_at]
  have hl : (lsF l m n k).length = n := by simp [lsF]
  by_cases h : k = i
  · subst h; simp [hk, hl]
  · by_cases h2 : i < n
    · simp only [h, h2, if_true, if_false]
      by_cases h3 : i < k
      · rw [if_pos h3, if_pos (by omega)]
      · rw [if_neg h3, if_neg (by omega)]
    · simp [h, h2]
theorem chunks_len (l : List UInt8) (m n : Nat) : (chunks l m n).length = n := by simp [chunks]
theorem chunks_at {l : List UInt8} {m n i : Nat} (h : i < n) : (chunks l m n)[i]? = some (win l (i * m) m) := by simp [chunks, h]
theorem chunks_flat (l : List UInt8) (m : Nat) : ∀ n, (chunks l m n).flatten = l.take (n * m)
  | 0 => by simp [chunks]
  | n + 1 => by
    have e : chunks l m (n + 1) = chunks l m n ++ [win l (n * m) m] := by simp [chunks, List.range_succ]
    rw [e, List.flatten_append, chunks_flat l m n, Nat.succ_mul, List.take_add]
    simp [win]

theorem win_sub {C : List Value} {l : List UInt8} {N o m : Nat} (h : win C 0 N = bytesV l) (ho : o + m ≤ N) : win C o m = bytesV (win l o m) := by
  apply List.ext_getElem?
  intro x
  rw [win_get, bytesV, List.getElem?_map, win_get]
  by_cases hx : x < m
  · rw [if_pos hx, if_pos hx]
    have h1 : (win C 0 N)[o + x]? = (bytesV l)[o + x]? := by rw [h]
    rw [win_get, if_pos (by omega), Nat.zero_add, bytesV, List.getElem?_map] at h1
    exact h1
  · rw [if_neg hx, if_neg hx]; rfl
set_option maxRecDepth 100000 in
theorem From_size (m : Int) (v : Value) (w : World) (h : ¬ (1 ≤ m ∧ m ≤ 65536)) : Calls Try.prog 25 #[.int .i64 m, v] w fun e w' => e = .returned (.tuple #[.pointer none, .int .i64 2]) ∧ w = w' := by
  have cS := Lib.hid (isSize_no m w h)
  clear h
  go_enter Try.func25, Try.ntmps25
  go_wp2_with (go_at_call 32; refine cS.out.mono ?_; rintro e w' ⟨rfl, rfl⟩)
  exact bodyPost_ret (v := .tuple #[.pointer none, .int .i64 2]) (by simp [results, Try.results25, go_sem]) rfl ⟨rfl, rfl⟩
set_option maxRecDepth 100000 in
theorem From_rest (m : Nat) (A : Option Addr) (N c : Nat) (w : World) (m1 : 1 ≤ m) (m2 : m ≤ 65536) (h : N % m ≠ 0) (hN : N ≤ maxLen) : Calls Try.prog 25 #[.int .i64 (m : Int), .slice A N c] w fun e w' => e = .returned (.tuple #[.pointer none, .int .i64 2]) ∧ w = w' := by
  have cS := Lib.hid (isSize_yes m w (by omega) (by omega))
  unfold maxLen at hN
  have hr : ((N : Int) % (m : Int) != 0) = true := by
    simp only [bne_iff_ne, ne_eq]
    intro h'
    apply h
    have : ((N % m : Nat) : Int) = 0 := by simpa using h'
    omega
  clear h
  go_enter Try.func25, Try.ntmps25
  go_wp2_with (go_at_call 32; refine cS.out.mono ?_; rintro e w' ⟨rfl, rfl⟩)
  exact bodyPost_ret (v := .tuple #[.pointer none, .int .i64 2]) (by simp [results, Try.results25, go_sem]) rfl ⟨rfl, rfl⟩
set_option maxRecDepth 100000 in
theorem From_few (m n : Nat) (A : Option Addr) (N c : Nat) (w : World) (m1 : 1 ≤ m) (m2 : m ≤ 65536) (h : N = n * m) (hn : ¬ (5 ≤ n ∧ n ≤ 65536)) (hN : N ≤ maxLen) : Calls Try.prog 25 #[.int .i64 (m : Int), .slice A N c] w fun e w' => e = .returned (.tuple #[.pointer none, .int .i64 2]) ∧ w = w' := by
  have cS := fun w => Lib.hid (isSize_yes m w (by omega) (by omega))
  have cN := fun w => Lib.hid (New_out n m w (by omega))
  unfold maxLen at hN
  have hr : ((N : Int) % (m : Int) != 0) = false := by
    rw [h]; simp
  have hq : (N : Int) / (m : Int) = (n : Int) := by
    have : ((N / m : Nat) : Int) = n := by rw [h, Nat.mul_div_cancel n (by omega)]
    simpa using this
  have hw : IntKind.i64.wrap (n : Int) = (n : Int) := by
    have : n ≤ N := by rw [h]; exact Nat.le_mul_of_pos_right n (by omega)
    rw [IntKind.wrap_i64]; omega
  clear h hn
  go_enter Try.func25, Try.ntmps25
  go_wp2_with (first | (go_at_call 32; refine (cS _).out.mono ?_; rintro e w' ⟨rfl, rfl⟩) | (go_at_call 7; refine (cN _).out.mono ?_; rintro e w' ⟨rfl, rfl⟩))
  exact bodyPost_ret (v := .tuple #[.pointer none, .int .i64 2]) (by simp [results, Try.results25, go_sem]) rfl ⟨rfl, rfl⟩
set_option maxHeartbeats 4000000 in
set_option maxRecDepth 100000 in
theorem From_n (m n N c : Nat) (A : Option Addr) (l : List UInt8) (w : World) (m1 : 1 ≤ m) (m2 : m ≤ 65536) (n1 : 5 ≤ n) (n2 : n ≤ 65536) (hN : N = n * m) (hl : l.length = N) (hA : BL w A l) (hm : N ≤ 1048576) :
    Calls Try.prog 25 #[.int .i64 (m : Int), .slice A N c] w fun e w' => Made w w' m (chunks l m n) 0 0 e ∧ Below w.heap.size w w' := by
  have cS := fun w => Lib.hid (isSize_yes m w (by omega) (by omega))
  have cN := fun w => Lib.hid (New_w n m w n1 n2 m1 m2)
  have hnN : n ≤ N := by rw [hN]; exact Nat.le_mul_of_pos_right n (by omega)
  have cC : ∀ w, BL w A l → Hid (Calls Try.prog 43 #[.slice A N c] w fun e w' => Cloned w w' N l e ∧ Below w.heap.size w w') := fun w hA => by
    have := Clone_bytes A c l w hA (by omega) (by omega)
    rw [hl] at this
    exact this
  have hr : ((N : Int) % (m : Int) != 0) = false := by rw [hN]; simp
  have hq : (N : Int) / (m : Int) = (n : Int) := by
    have : ((N / m : Nat) : Int) = n := by rw [hN, Nat.mul_div_cancel n (by omega)]
    simpa using this
  have hw : IntKind.i64.wrap (n : Int) = (n : Int) := by rw [IntKind.wrap_i64]; omega
  have HA := Lib.hid hA
  have HN := Lib.hid hN
  have HL := Lib.hid hl
  clear hA hN hl
  go_enter Try.func25, Try.ntmps25
  go_upto_region 8 with (first
    | (go_at_call 32; refine (cS _).out.mono ?_; rintro e w' ⟨rfl, rfl⟩)
    | (go_at_call 7; refine (cN _).out.mono ?_; rintro e w1 ⟨⟨g, b, rfl, hd, hg, hb⟩, hB⟩; have HD1 := Lib.hid hd; have HG := Lib.hid hg; have HB := Lib.hid hb; have HB1 := Lib.hid hB; obtain ⟨-, d1, -, -⟩ := hd.cells; clear hd hg hb hB)
    | (go_at_call 43; refine (cC _ (HA.out.below HB1.out)).out.mono ?_; rintro e w2 ⟨⟨q, c', C, rfl, h1, h2, h3, h4, h5⟩, hB⟩; have HC2 := Lib.hid h1; have HW2 := Lib.hid h4; have HQ := Lib.hid h5; have HD2 := Lib.hid (HD1.out.kept hB); have HB2 := Lib.hid (Below.trans HB1.out (hB.mono HB1.out.size)); obtain ⟨-, d1', -, -⟩ := HD2.out.cells; clear h1 h4 h5 hB))
  have HC3 := HC2
  have HBS : Hid (DevW w2 g b n m (bksF q m c' n 0) (lsF l m n 0) 0 0) := by
    rw [bksF_zero, lsF_zero]; exact HD2
  have hgq : w1.heap.size ≤ w2.heap.size := by have := HC2.out.lt; have := HQ.out; omega
  have HGQ : Hid (g < w1.heap.size ∧ b < w1.heap.size) := ⟨HD1.out.lt g (by simp [foot]), HD1.out.lt b (by simp [foot])⟩
  clear d1 d1' cS cN cC hr hq hw
  go_loopw [39] (fun i wr => ∃ k : Nat, k ≤ n ∧ i = .int .i64 k ∧ Hid (DevW wr g b n m (bksF q m c' n k) (lsF l m n k) 0 0) ∧ Hid (Cells 5 wr q C) ∧ Hid (Below w.heap.size w wr)) (fun i _ => n - (intOf i).toNat)
  case atStart => exact ⟨0, Nat.zero_le _, rfl, HBS, HC3, HB2⟩
  case round =>
    obtain ⟨k, hk, rfl, HDk, HRk, HBk⟩ := hrel
    clear HD2 HC2 HC3 HBS HB2 HD1
    by_cases hlt : k < n
    · go_upto_region 10 with fail
      obtain ⟨j, hj⟩ : ∃ j, j = k * m := ⟨_, rfl⟩
      have hjN : j + m ≤ N := by
        rw [hj, HN.out, ← Nat.succ_mul]
        exact Nat.mul_le_mul_right m hlt
      have hkm : IntKind.i64.wrap ((k : Int) * (m : Int)) = (j : Int) := by
        have : (k : Int) * (m : Int) = (j : Int) := by rw [hj]; simp
        rw [this, IntKind.wrap_i64]; omega
      have hk1 : IntKind.i64.wrap ((k : Int) + 1) = (k : Int) + 1 := by rw [IntKind.wrap_i64]; omega
      have hkm1 : IntKind.i64.wrap (((k : Int) + 1) * (m : Int)) = ((j + m : Nat) : Int) := by
        have : ((k : Int) + 1) * (m : Int) = ((j + m : Nat) : Int) := by rw [hj, Int.add_mul]; simp
        rw [this, IntKind.wrap_i64]; omega
      obtain ⟨i0, hi, _, hsz, _⟩ := info_parts u8info
      have hsl : ∀ w, (Instr.slice 42 (.slice (some ⟨q, 0, none⟩) N c') (some (.int .i64 (j : Int))) (some (.int .i64 ((j + m : Nat) : Int))) none).run Try.prog w = .ok (.slice (some ⟨q, j, none⟩) m (c' - j)) w := fun w => by
        have := run_mid (P := Try.prog) Try.underlying42 hi hsz q N c' j (j + m) (by omega) (by omega) (by omega) w
        rw [Nat.add_sub_cancel_left] at this
        exact this
      obtain ⟨j2, hj2⟩ : ∃ j2, j2 = j + m := ⟨_, rfl⟩
      rw [← hj2] at hsl hkm1
      obtain ⟨-, d1, -, -⟩ := HDk.out.cells
      have hlk : (bksF q m c' n k).length = n := by simp [bksF]
      rw [hlk] at d1
      have e1 := fun q : Drift.Tide [] wr [] => Drift.Tide.cell d1 (by simp) q
      have HJ := Lib.hid hj
      have HLK := Lib.hid hlk
      clear hj hi hsz hlk d1 hj2
      refine Drift.wp_region_drift [] [(0,[]),(1,[]),(2,[]),(3,[]),(4,[]),(5,[]),(6,[]),(7,[]),(8,[]),(9,[]),(10,[]),(11,[]),(12,[]),(13,[])] [] [] (by kernel_rfl) (by kernel_rfl) (by simp) ?_
      simp only [Drift.pick, Drift.opsAt, List.getElem?_toArray, List.getElem?_cons_zero, List.getElem?_cons_succ, List.cons_append, List.nil_append, List.filterMap_nil]
      repeat (refine Drift.walk_step (fun K hK => ?_); go_simp; (refine hK _ ?_; clear hK K))
      refine Drift.walk_nil ?_
      intro w3 hb3 _
      have HD3 := Lib.hid (HDk.out.kept hb3)
      have HR3 : Hid (Cells 5 w3 q C) := (hb3.block q HRk.out.lt).trans HRk.out
      have HB3 : Hid (Below w.heap.size w w3) := Below.trans HBk.out (hb3.mono HBk.out.size)
      have hput : DevW (w3.setCell ⟨b, k, none⟩ (.slice (some ⟨q, j, none⟩) m (c' - j))) g b n m ((bksF q m c' n k).set k (some (q, j, c' - j))) ((lsF l m n k).set k (win l j m)) 0 0 ∧ Flow.Into [b] w3 (w3.setCell ⟨b, k, none⟩ (.slice (some ⟨q, j, none⟩) m (c' - j))) := by
        refine HD3.out.put (by rw [HLK.out]; exact hlt) HR3.out (by have := HQ.out; have := HGQ.out; omega) (by have := HQ.out; have := HGQ.out; omega) (by omega) (win_sub HW2.out hjN) (by omega) fun i o' k' hne hi => ?_
        rw [bksF_at] at hi
        split at hi
        · split at hi
          · rename_i h5
            simp only [Option.some.injEq, Prod.mk.injEq] at hi
            obtain ⟨-, rfl, -⟩ := hi
            right
            rw [HJ.out, ← Nat.succ_mul]
            exact Nat.mul_le_mul_right m h5
          · cases hi
        · cases hi
      rw [HJ.out, bksF_succ hlt, lsF_succ hlt] at hput
      rw [← HJ.out] at hput
      have f5 := HD3.out.bfree k
      have d4 : w3.cell? ⟨b, k, none⟩ = some (.slice none 0 0) := HD3.out.bcell (x := none) (by rw [bksF_at, if_pos hlt, if_neg (Nat.lt_irrefl k)])
      clear hb3 e1
      simp only [List.length_cons, List.length_nil, List.drop_succ_cons, Nat.zero_add, Nat.reduceAdd]
      go_upto_region 11 with fail
      generalize w3.setCell ⟨b, k, none⟩ (.slice (some ⟨q, j, none⟩) m (c' - j)) = w4 at *
      obtain ⟨hd4, hi4⟩ := hput
      have HD4 := Lib.hid hd4
      have HR4 : Hid (Cells 5 w4 q C) := (hi4.block q HR3.out.lt (by have := HQ.out; have := HGQ.out; simp; omega)).trans HR3.out
      have HB4 : Hid (Below w.heap.size w w4) := HB3.out.trans (below_of_into hi4 (fun y hy => by
        obtain rfl : y = b := by simpa using hy
        exact HB.out) HB3.out.size)
      clear hd4 hi4 f5 d4
      go_wp2_with fail
      go_roundw
      case rel => exact ⟨k + 1, by omega, by go_num, HD4, HR4, HB4⟩
      case measure => simp [intOf]; omega
    · obtain rfl : k = n := by omega
      have HX : Hid (Made w wr m (chunks l m k) 0 0 (.returned (.tuple #[.pointer (some ⟨g, 0, none⟩), .int .i64 0]))) := by
        have hd := HDk.out
        rw [lsF_all] at hd
        refine ⟨g, _, rfl, ⟨⟨b, k, _, hd, fun x hx => hx⟩, m1, m2, by rw [chunks_len]; exact n1, by rw [chunks_len]; exact n2, hd.lt⟩, fun x hx => ?_⟩
        rcases of_foot hx with rfl | rfl | ⟨i, o, k', hi⟩
        · exact HG.out
        · exact HB.out
        · rw [bksF_at] at hi
          split at hi
          · simp only [Option.some.injEq, Prod.mk.injEq] at hi
            obtain ⟨rfl, -⟩ := hi
            have := HQ.out
            have := HB1.out.size
            omega
          · cases hi
      go_wp2
      exact bodyPost_ret (v := .tuple #[.pointer (some ⟨g, 0, none⟩), .int .i64 0]) (by simp [results, Try.results25, go_sem]) rfl ⟨HX.out, HBk.out⟩
theorem From_in (m n c : Nat) (A : Option Addr) (l : List UInt8) (w : World) (m1 : 1 ≤ m) (m2 : m ≤ 65536) (n1 : 5 ≤ n) (n2 : n ≤ 65536) (hl : l.length = n * m) (hA : BL w A l) (hm : n * m ≤ 1048576) :
    Calls Try.prog 25 #[.int .i64 (m : Int), .slice A l.length c] w fun e w' => Made w w' m (chunks l m n) 0 0 e ∧ Below w.heap.size w w' :=
  From_n m n l.length c A l w m1 m2 n1 n2 hl rfl hA (by omega)
end Dv
end Go.Proofs.Ytcpdbdaallbphaa
