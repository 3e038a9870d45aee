/-
  Contracts of layer cache: New.
-/
import Derived.Test.YtjnbdmimflhhiaaCacheRow
import Derived.Test.YtjnbdmimflhhiaaChainNew
import Derived.Carry
namespace Go.Proofs.Ytjnbdmimflhhiaa
open Go.RowKit
namespace Ca
open Mem Dv Cn

theorem frinfo : (Try.prog.info? 92).map (fun i => (i.zero, i.size, i.bytes)) = some (some (.agg #[.int .u32 0, .slice none 0 0, .bool false, .int .i64 0]), 4, 48) := by kernel_rfl
def zfr : Array Value := #[.int .u32 0, .slice none 0 0, .bool false, .int .i64 0]
theorem run_make_frames (n : Nat) (hn : n ≤ 64) (w : World) :
    (Instr.makeSlice 77 (.int .i64 (n : Int)) (.int .i64 (n : Int))).run Try.prog w = .ok (.slice (some ⟨w.heap.size, 0, none⟩) n n) (w.alloc (.cells (madeCells zfr (n * 4)) 92)) := by
  obtain ⟨i, hi, hz, hs, hb⟩ := info_parts frinfo
  have hr := run_make (P := Try.prog) w _ _ i _ Try.underlying77 hi hz .i64 .i64 n n (by omega) (by omega) (by rw [hb]; omega) (by omega)
  rw [hr, hs]
  simp only [Int.toNat_natCast]
  rfl
theorem made_at {n i : Nat} (h : i < n) : (madeCells zfr n).toList[i]? = some (zfr[i % 4]!) := by
  simp [madeCells, h, zfr]
theorem frw_made (n : Nat) (w : World) (qk : Nat → Nat × Nat) : FrW (w.alloc (.cells (madeCells zfr (n * 4)) 92)) w.heap.size qk (List.replicate n none) := by
  refine ⟨(madeCells zfr (n * 4)).toList, ?_, by simp [size_madeCells], fun j x hx => ?_⟩
  · unfold Cells
    rw [heap_alloc_new]
  · rw [List.getElem?_replicate] at hx
    split at hx
    · rename_i hj
      obtain rfl : x = none := by simpa using hx.symm
      rw [made_at (by omega), made_at (by omega), made_at (by omega), made_at (by omega)]
      rw [show j * 4 % 4 = 0 by omega, show (j * 4 + 1) % 4 = 1 by omega, show (j * 4 + 2) % 4 = 2 by omega, show (j * 4 + 3) % 4 = 3 by omega]
      exact ⟨rfl, rfl, rfl, rfl⟩
    · cases hx
/-- a new cache -/
def st0 (m n : Nat) (ls : List (List UInt8)) (r s : Nat) : St := ⟨m, ls, r, s, List.replicate n none, List.range n⟩
theorem repl_none {n j : Nat} {f : Fr} (h : (List.replicate n (none : Option Fr))[j]? = some (some f)) : False := by
  rw [List.getElem?_replicate] at h
  split at h <;> simp at h
theorem good_new {m n : Nat} {ls : List (List UInt8)} {r s : Nat} (n1 : 1 ≤ n) (n2 : n ≤ 64) (hm : ∀ l, l ∈ ls → l.length = m) (hl : ls.length ≤ 65536) : Good (st0 m n ls r s) :=
  ⟨by simpa [st0] using n1, by simpa [st0] using n2, fun i j f f' h => (repl_none h).elim, fun j f h => (repl_none h).elim, fun j f h => (repl_none h).elim, fun j => by
    simp only [st0, List.mem_range, List.length_replicate]
    exact ⟨fun h => ⟨h, fun f hf => (repl_none hf).elim⟩, fun h => h.1⟩, List.nodup_range, ⟨[], List.range n, rfl, fun j h => (by cases h), fun j h => by
    simp only [st0, List.getElem?_replicate]
    rw [if_pos (by simpa using h)]⟩, hm, hl⟩
theorem ix_new (n : Nat) : ix (List.replicate n none) = fun _ => none := by
  funext b
  exact ix_none_of fun j f h => (repl_none h).elim
theorem occ_new (n : Nat) : occ (List.replicate n none) = 0 := by
  unfold occ
  rw [List.length_eq_zero_iff, List.filterMap_eq_nil_iff]
  intro x hx
  rw [List.eq_of_mem_replicate hx]; rfl
theorem Dev.lm {w : World} {S : List Nat} {g m : Nat} {ls : List (List UInt8)} {r s : Nat} (h : Dev w S g m ls r s) : ∀ l, l ∈ ls → l.length = m := by
  obtain ⟨⟨b, c, bks, h1, h2⟩, _⟩ := h
  exact h1.ll
set_option maxRecDepth 100000 in
theorem Blocks_nil (w : World) : Calls Try.prog 30 #[.pointer none] w fun e w' => e = .returned (.int .i64 0) ∧ w = w' := by
  go_enter Try.func30, Try.ntmps30
  go_wp2
  go_ret
  exact ⟨rfl, rfl⟩
set_option maxRecDepth 100000 in
theorem New_nil (w : World) (n : Int) : Calls Try.prog 7 #[.pointer none, .int .i64 n] w fun e w' => e = .returned (.tuple #[.pointer none, .int .i64 1]) ∧ w = w' := by
  have cB := Lib.hid (Blocks_nil w)
  go_enter Try.func7, Try.ntmps7
  go_wp2_with (go_at_call 30; refine cB.out.mono ?_; rintro e w' ⟨rfl, rfl⟩)
  exact bodyPost_ret (v := .tuple #[.pointer none, .int .i64 1]) (by simp [results, Try.results7, go_sem]) rfl ⟨rfl, rfl⟩
section
variable {w : World} {S : List Nat} {g m : Nat} {ls : List (List UInt8)} {r s : Nat}
set_option maxRecDepth 100000 in
theorem New_no (h : Dev w S g m ls r s) (n : Int) (hn : ¬ (1 ≤ n ∧ n ≤ 64)) : Calls Try.prog 7 #[.pointer (some ⟨g, 0, none⟩), .int .i64 n] w fun e w' => e = .returned (.tuple #[.pointer none, .int .i64 2]) ∧ w = w' := by
  have cB := Lib.hid (Blocks_any h)
  have h5 := h.n1
  have hne : ((ls.length : Int) == 0) = false := by simp; intro e; simp [e] at h5
  generalize (ls.length : Int) = z at *
  clear h h5
  by_cases h1 : 64 < n
  · clear hn
    go_enter Try.func7, Try.ntmps7
    go_wp2_with (go_at_call 30; refine cB.out.mono ?_; rintro e w' ⟨rfl, rfl⟩)
    exact bodyPost_ret (v := .tuple #[.pointer none, .int .i64 2]) (by simp [results, Try.results7, go_sem]) rfl ⟨rfl, rfl⟩
  · have h2 : n ≤ 64 := by omega
    have cN := Lib.hid (Cn.New_out n w (by omega))
    clear hn h1
    go_enter Try.func7, Try.ntmps7
    go_wp2_with (first
      | (go_at_call 30; refine cB.out.mono ?_; rintro e w' ⟨rfl, rfl⟩)
      | (go_at_call 31; refine cN.out.mono ?_; rintro e w' ⟨rfl, rfl⟩))
    exact bodyPost_ret (v := .tuple #[.pointer none, .int .i64 2]) (by simp [results, Try.results7, go_sem]) rfl ⟨rfl, rfl⟩
/-- a cache that New made -/
def NewC (w w' : World) (S : List Nat) (g : Nat) (st : St) (e : Ending) : Prop := ∃ p F, e = .returned (.tuple #[.pointer (some ⟨p, 0, none⟩), .int .i64 0]) ∧ Cw w' F p g st ∧ Grew w S F ∧ Below w.heap.size w w'
set_option maxHeartbeats 1000000 in
set_option maxRecDepth 100000 in
theorem New_in (h : Dev w S g m ls r s) (n : Nat) (n1 : 1 ≤ n) (n2 : n ≤ 64) : Calls Try.prog 7 #[.pointer (some ⟨g, 0, none⟩), .int .i64 (n : Int)] w fun e w' => NewC w w' S g (st0 m n ls r s) e := by
  have cB := Lib.hid (Blocks_any h)
  have h5 := h.n1
  have hne : ((ls.length : Int) == 0) = false := by simp; intro e; simp [e] at h5
  have HG := Lib.hid (good_new (r := r) (s := s) n1 n2 (Dev.lm h) h.n2)
  generalize (ls.length : Int) = z at *
  have H := Lib.hid h
  have cN := Lib.hid (Cn.New_in n w n1 (by omega))
  have hmm := @run_makeMap Try.prog
  have hmk := fun w => run_make_frames n n2 w
  have HN := Lib.hid (And.intro n1 n2)
  clear h h5
  go_enter Try.func7, Try.ntmps7
  go_wp2_with (first
    | (go_at_call 30; refine cB.out.mono ?_; rintro e w' ⟨rfl, rfl⟩)
    | (go_at_call 31; refine cN.out.mono ?_; rintro e w1 ⟨⟨ch, cb, rfl, hc, hg1, hg2⟩, hb⟩; have HC := Lib.hid (And.intro hc (And.intro hg1 hg2)); have HB := Lib.hid hb; clear hc hb hg1 hg2))
  clear cB cN
  go_loopg [25] n (fun gk iv wr => ∃ k : Nat, k ≤ n ∧ gk = n - k ∧ iv = .int .i64 (k : Int) ∧ Hid (Chn wr ch cb n (List.range k)) ∧ Hid (Flow.Into [ch, cb] w1 wr))
  case atStart => exact ⟨0, Nat.zero_le _, rfl, rfl, HC.out.1, Flow.Into.refl _ _⟩
  case round =>
    obtain ⟨k, hk, rfl, rfl, HCk, HIk⟩ := hrel
    by_cases hlt : k < n
    · have cBk := Lib.hid (Back_any HCk.out hlt)
      have hw1 : IntKind.i64.wrap ((k : Int) + 1) = ((k + 1 : Nat) : Int) := by rw [IntKind.wrap_i64]; omega
      go_wp2_with (go_at_call 32; refine cBk.out.mono ?_; rintro e w2 ⟨z2, rfl, hc, hi⟩; have HC2 := Lib.hid hc; have HI2 := Lib.hid hi; clear hc hi)
      go_roundg (n - (k + 1))
      case measure => omega
      case rel =>
        refine ⟨k + 1, hlt, rfl, by go_num, ?_, HIk.out.trans HI2.out⟩
        have := HC2.out
        rw [del_none (by simp)] at this
        unfold Hid
        rw [List.range_succ]
        exact this
    · obtain rfl : k = n := by omega
      clear hlt
      go_wp2_with fail
      have hfw := frw_made k wr fun _ => (0, 0)
      have hA : Below wr.heap.size wr (wr.alloc (.cells (madeCells zfr (k * 4)) 92)) := (Below.refl _ _).alloc (Nat.le_refl _) _
      have hAs : (wr.alloc (.cells (madeCells zfr (k * 4)) 92)).heap.size = wr.heap.size + 1 := by simp
      generalize wr.alloc (.cells (madeCells zfr (k * 4)) 92) = w2 at *
      have hM := MC.made w2
      have hB2 : Below w2.heap.size w2 (w2.alloc (.map #[] 0)) := (Below.refl _ _).alloc (Nat.le_refl _) _
      have hBs : (w2.alloc (.map #[] 0)).heap.size = wr.heap.size + 1 + 1 := by simp [hAs]
      rw [hAs] at hM
      generalize w2.alloc (.map #[] 0) = w3 at *
      have hX := heap_alloc_new w3 (.cells #[.pointer (some ⟨g, 0, none⟩), .slice (some ⟨wr.heap.size, 0, none⟩) k k, .map (some (wr.heap.size + 1)), .pointer (some ⟨ch, 0, none⟩)] 80)
      have hC : Below w3.heap.size w3 (w3.alloc (.cells #[.pointer (some ⟨g, 0, none⟩), .slice (some ⟨wr.heap.size, 0, none⟩) k k, .map (some (wr.heap.size + 1)), .pointer (some ⟨ch, 0, none⟩)] 80)) := (Below.refl _ _).alloc (Nat.le_refl _) _
      rw [hBs] at hX
      generalize w3.alloc (.cells #[.pointer (some ⟨g, 0, none⟩), .slice (some ⟨wr.heap.size, 0, none⟩) k k, .map (some (wr.heap.size + 1)), .pointer (some ⟨ch, 0, none⟩)] 80) = w4 at *
      have hr4 : Below wr.heap.size wr w4 := below_all (below_all hA hB2 (Nat.le_refl _)) hC (Nat.le_refl _)
      obtain ⟨-, hg1, hg2⟩ := HC.out
      have hin : ∀ x, x ∈ [ch, cb] → w.heap.size ≤ x := fun x hx => by
        simp only [List.mem_cons, List.not_mem_nil, or_false] at hx
        rcases hx with rfl | rfl
        · exact hg1
        · exact hg2
      have hwr : Below w.heap.size w wr := HB.out.trans (below_of_into HIk.out hin HB.out.size)
      have hb4 : Below w.heap.size w w4 := below_all hwr hr4 (Nat.le_refl _)
      have hS := H.out.lt
      obtain ⟨l1, l2, l3, -⟩ := HCk.out.lt
      have hws := hwr.size
      refine bodyPost_ret (v := .tuple #[.pointer (some ⟨wr.heap.size + 1 + 1, 0, none⟩), .int .i64 0]) (by simp [results, Try.results7, go_sem]) rfl ⟨wr.heap.size + 1 + 1, [wr.heap.size + 1 + 1, wr.heap.size, wr.heap.size + 1, ch, cb] ++ S, rfl, ⟨S, wr.heap.size, wr.heap.size + 1, ch, cb, fun _ => (0, 0), ?_, fun x hx => List.mem_append_right _ hx, fun x hx => List.mem_append_left _ hx, fun j x hx => (repl_none hx).elim, HG.out, fun x hx => ?_⟩, fun x hx => ?_, hb4⟩
      · refine ⟨?_, (hfw.keep (hB2.block _ (by omega))).keep (hC.block _ (by omega)), fun j x hx => (repl_none hx).elim, ?_, ?_, H.out.kept hb4, ?_, fun x hx hm => ?_, fun j x hx => (repl_none hx).elim, fun i j x y hx => (repl_none hx).elim⟩
        · simp only [st0, List.length_replicate]
          exact hX
        · show MC w4 _ (ix (List.replicate k none)) (occ (List.replicate k none))
          rw [ix_new, occ_new]
          exact hM.keep (hC.block _ (by omega))
        · show Chn w4 ch cb (List.replicate k none).length (List.range k)
          rw [List.length_replicate]
          exact HCk.out.kept hr4
        · simp only [List.nodup_cons, List.mem_cons, List.not_mem_nil, or_false, not_or, List.nodup_nil, and_true, not_false_eq_true]
          omega
        · have := hS x hm
          simp only [List.mem_cons, List.not_mem_nil, or_false] at hx
          omega
      · have h4s := hC.size
        rcases List.mem_append.1 hx with hx | hx
        · simp only [List.mem_cons, List.not_mem_nil, or_false] at hx
          have : wr.heap.size + 1 + 1 < w4.heap.size := (Array.getElem?_eq_some_iff.1 hX).1
          omega
        · have := hS x hx
          omega
      · rcases List.mem_append.1 hx with hx | hx
        · right
          simp only [List.mem_cons, List.not_mem_nil, or_false] at hx
          omega
        · exact .inl hx
end
end Ca
end Go.Proofs.Ytjnbdmimflhhiaa
