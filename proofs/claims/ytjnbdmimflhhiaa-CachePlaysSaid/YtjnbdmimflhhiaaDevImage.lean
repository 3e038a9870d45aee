/-
  Contracts of layer dev: Image; slices.Clone.
-/
import Derived.Test.YtjnbdmimflhhiaaDevWrite
namespace Go.Proofs.Ytjnbdmimflhhiaa
open Go.RowKit
namespace Dv
open Mem

theorem run_cut_at {P : Program} {t e : TypeId} {i : TypeInfo} (ht : P.underlying t = some (.slice e)) (hi : P.info? e = some i) (hs : i.size = 1) (q n c k : Nat) (hk : k ≤ n) (hc : k < c) (w : World) :
    (Instr.slice t (.slice (some ⟨q, 0, none⟩) n c) (some (.int .i64 (k : Int))) none none).run P w = .ok (.slice (some ⟨q, k, none⟩) (n - k) (c - k)) w := by
  rw [run_cut ht hi hs _ n c k hk w]
  unfold cutA
  rw [if_neg (by omega)]
  by_cases h0 : k = 0 <;> simp [Addr.add, h0]
theorem run_mid {P : Program} {t e : TypeId} {i : TypeInfo} (ht : P.underlying t = some (.slice e)) (hi : P.info? e = some i) (hs : i.size = 1) (q n c k h : Nat) (hk : k ≤ h) (hh : h ≤ c) (hc : k < c) (w : World) :
    (Instr.slice t (.slice (some ⟨q, 0, none⟩) n c) (some (.int .i64 (k : Int))) (some (.int .i64 (h : Int))) none).run P w = .ok (.slice (some ⟨q, k, none⟩) (h - k) (c - k)) w := by
  have he : P.elem t = e := by simp [Program.elem, ht]
  rw [run_slice_lh w t _ n c (by rw [he]; exact ht) .i64 .i64 (k : Int) (h : Int) (by omega) (by omega) (by omega), he]
  by_cases h0 : k = 0
  · simp [sizeOf, typeInfo, hi, hs, sliced, Result.andThen, Addr.add, h0] <;> omega
  · simp [sizeOf, typeInfo, hi, hs, sliced, Result.andThen, Addr.add, h0] <;> omega

theorem own_cells {U : TypeId} {w : World} {B : Nat} {v : Value} {l : List UInt8} (h : Own U w B v l) (h0 : 0 < l.length) : ∃ q c C, v = .slice (some ⟨q, 0, none⟩) l.length c ∧ B ≤ q ∧ Cells U w q C ∧ l.length ≤ c ∧ l.length ≤ C.length ∧ win C 0 l.length = bytesV l := by
  obtain ⟨_, h2⟩ := h
  rcases h2 with ⟨_, h'⟩ | ⟨g, cap, cur, rfl, hB, hh, hle, _, hsz, htake⟩
  · omega
  · exact ⟨g, cap, cur.toList, rfl, hB, by unfold Cells; simpa using hh, hle, by simp; omega, by simpa [win] using htake⟩

/-- a copy of bytes at the front of a block of its own -/
def Cloned (w w' : World) (n : Nat) (l : List UInt8) (e : Ending) : Prop := ∃ q c' C, e = .returned (.slice (some ⟨q, 0, none⟩) n c') ∧ Cells 5 w' q C ∧ n ≤ c' ∧ n ≤ C.length ∧ win C 0 n = bytesV l ∧ w.heap.size ≤ q
set_option maxHeartbeats 1000000 in
set_option maxRecDepth 100000 in
theorem Clone_bytes (A : Option Addr) (c : Nat) (l : List UInt8) (w : World) (hA : BL w A l) (h0 : 0 < l.length) (hm : l.length ≤ 1048576) :
    Calls Try.prog 46 #[.slice A l.length c] w fun e w' => Cloned w w' l.length l e ∧ Below w.heap.size w w' := by
  obtain ⟨b, o, rfl, _⟩ := hA h0
  obtain ⟨m, hm'⟩ : ∃ m, m = l.length := ⟨_, rfl⟩
  have hnil : ∀ W, (binOp .eql 42 (.slice (some ⟨b, o, none⟩) m c) (.slice none 0 0)).run Try.prog W = .ok (.bool false) W := fun W => Lib.run_eql_slice_nil W _ _ _ _ _ _ _ Try.underlying42
  have HO : Hid (Own 5 (w.alloc (.cells #[] 5)) w.heap.size (.slice (some ⟨w.heap.size, 0, none⟩) 0 0) []) := Own.lit 5 w w.heap.size [] (Nat.le_refl _) (by decide)
  have HA := Lib.hid (hA.alloc (.cells #[] 5))
  have HL := Lib.hid hm'.symm
  have HP := Lib.hid h0
  have hs : w.heap.size ≤ (w.alloc (.cells #[] 5)).heap.size := by simp
  have HB : Hid (Below w.heap.size w (w.alloc (.cells #[] 5))) := (Below.refl _ _).alloc (Nat.le_refl _) _
  rw [← hm'] at hm ⊢
  clear hA h0 hm'
  go_enter Try.func46, Try.ntmps46
  have hmm : ([] : List UInt8).length + m ≤ 140737488355328 := by simp; omega
  go_wp2_with (with_reducible refine wpList_append_bytes rfl (.tmp 5) (.tmp 6) _ rfl w.heap.size 5 Try.underlying42 u8info (.slice (some ⟨w.heap.size, 0, none⟩) 0 0) [] rfl HO.out (some ⟨b, o, none⟩) m c l rfl HL.out HA.out hmm hs ?_; intro v' w1 hO hg _)
  have HOO : Hid (Own 5 w1 w.heap.size v' l) := by unfold Hid; simpa using hO.out
  obtain ⟨q, c', C, rfl, h1, h2, h3, h4, h5⟩ := own_cells HOO.out HP.out
  have HB1 := Lib.hid (HB.out.grown hg hs (fun k hk => by
    obtain rfl : w.heap.size = k := by simpa [Value.ownBlock] using hk
    exact Nat.le_refl _))
  have H5 := Lib.hid h5
  clear hO hg h5
  rw [HL.out] at *
  go_wp2_with fail
  go_ret
  exact ⟨⟨q, c', C, rfl, h2, h3, h4, H5.out, h1⟩, HB1.out⟩

/-- the blocks one behind the other, as far as they are copied -/
def part (ls : List (List UInt8)) (m k : Nat) : List UInt8 := (ls.take k).flatten ++ List.replicate ((ls.length - k) * m) 0
theorem flat_len {m : Nat} : ∀ {ls : List (List UInt8)}, (∀ l, l ∈ ls → l.length = m) → ls.flatten.length = ls.length * m
  | [], _ => by simp
  | x :: r, h => by
    rw [List.flatten_cons, List.length_append, h x List.mem_cons_self, flat_len fun l hl => h l (List.mem_cons_of_mem _ hl), List.length_cons, Nat.succ_mul]; omega
theorem take_flat_len {m k : Nat} {ls : List (List UInt8)} (h : ∀ l, l ∈ ls → l.length = m) (hk : k ≤ ls.length) : (ls.take k).flatten.length = k * m := by
  rw [flat_len fun l hl => h l (List.mem_of_mem_take hl), List.length_take, Nat.min_eq_left hk]
theorem part_zero (ls : List (List UInt8)) (m : Nat) : part ls m 0 = List.replicate (ls.length * m) 0 := by simp [part]
theorem part_all (ls : List (List UInt8)) (m : Nat) : part ls m ls.length = ls.flatten := by simp [part]
theorem part_len {m k : Nat} {ls : List (List UInt8)} (h : ∀ l, l ∈ ls → l.length = m) (hk : k ≤ ls.length) : (part ls m k).length = ls.length * m := by
  unfold part
  rw [List.length_append, take_flat_len h hk, List.length_replicate, ← Nat.add_mul]
  congr 1; omega
theorem splice_mid {α : Type} (P Z R X : List α) (h : X.length ≤ Z.length) : Go.splice (P ++ (Z ++ R)) P.length X = P ++ (Go.splice Z 0 X ++ R) := by
  have e : (P ++ (Z ++ R)).drop (P.length + X.length) = Z.drop X.length ++ R := by rw [← List.drop_drop, List.drop_left, List.drop_append_of_le_length h]
  unfold Go.splice
  rw [e, List.take_left]
  simp
theorem part_succ {m k : Nat} {ls : List (List UInt8)} (h : ∀ l, l ∈ ls → l.length = m) {x l' : List UInt8} (hx : ls[k]? = some x) (hl : l'.length ≤ m) (hs : Go.splice (bytesV (List.replicate m 0)) 0 (bytesV l') = bytesV x) :
    Go.splice (bytesV (part ls m k)) (k * m) (bytesV l') = bytesV (part ls m (k + 1)) := by
  obtain ⟨hk, hx'⟩ := List.getElem?_eq_some_iff.1 hx
  have ht : (ls.take (k + 1)).flatten = (ls.take k).flatten ++ x := by
    rw [List.take_add_one, hx]; simp
  have hr : List.replicate ((ls.length - k) * m) (0 : UInt8) = List.replicate m 0 ++ List.replicate ((ls.length - (k + 1)) * m) 0 := by
    rw [List.replicate_append_replicate]; congr 1
    rw [show ls.length - k = (ls.length - (k + 1)) + 1 by omega, Nat.succ_mul]; omega
  have h1 : (bytesV (ls.take k).flatten).length = k * m := by rw [bytesV_length, take_flat_len h (by omega)]
  unfold part
  rw [ht, hr]
  have hb : ∀ a b : List UInt8, bytesV (a ++ b) = bytesV a ++ bytesV b := fun a b => by simp [bytesV]
  rw [hb, hb, hb, hb, ← hs, List.append_assoc]
  generalize bytesV (ls.take k).flatten = P at *
  generalize bytesV (List.replicate ((ls.length - (k + 1)) * m) 0) = R at *
  have h2 : (bytesV (List.replicate m (0 : UInt8))).length = m := by simp
  have h3 : (bytesV l').length ≤ m := by simpa using hl
  generalize bytesV (List.replicate m 0) = Z at *
  generalize bytesV l' = X at *
  rw [← h1]
  exact splice_mid P Z R X (by omega)

/-- what Image tells -/
def Pictured (w w' : World) (N : Nat) (l : List UInt8) (e : Ending) : Prop := ∃ q, e = .returned (.slice (some ⟨q, 0, none⟩) N N) ∧ Row 5 w' q l ∧ w.heap.size ≤ q
set_option maxHeartbeats 2000000 in
set_option maxRecDepth 100000 in
theorem Image_n {w : World} {S : List Nat} {g m : Nat} {ls : List (List UInt8)} {r s : Nat} (h : Dev w S g m ls r s) (n N : Nat) (hn : n = ls.length) (hNN : N = n * m) (hN : N ≤ 1048576) :
    Calls Try.prog 15 #[.pointer (some ⟨g, 0, none⟩)] w fun e w' => Pictured w w' N ls.flatten e ∧ Below w.heap.size w w' := by
  have cB : ∀ w, Dev w S g m ls r s → Hid (Calls Try.prog 30 #[.pointer (some ⟨g, 0, none⟩)] w fun e w' => e = .returned (.int .i64 (n : Int)) ∧ w = w') := fun w h => by subst hn; exact Blocks_any h
  have cY := fun w (h : Dev w S g m ls r s) => Lib.hid (Bytes_any h)
  have HD := Lib.hid h
  have HLL : Hid (∀ l, l ∈ ls → l.length = m) := by
    obtain ⟨⟨b, c, bks, h1, _⟩, _⟩ := h
    exact h1.ll
  have m1 := h.m1
  have m2 := h.m2
  have n1 : 5 ≤ n := by rw [hn]; exact h.n1
  have n2 : n ≤ 65536 := by rw [hn]; exact h.n2
  have HP0 : Hid (part ls m 0 = List.replicate N 0) := by subst hNN hn; exact part_zero ls m
  have HPA : Hid (part ls m n = ls.flatten) := by subst hn; exact part_all ls m
  have HPL : Hid (∀ k, k ≤ n → (part ls m k).length = N) := by subst hNN hn; exact fun k hk => part_len HLL.out hk
  have hnm : (n : Int) * (m : Int) = (N : Int) := by rw [hNN]; simp
  have hmk := fun w => run_make_at (P := Try.prog) Try.underlying42 u8info rfl (by omega) N hN w
  have HN := Lib.hid hn
  have HNN := Lib.hid hNN
  clear h hn hNN
  go_enter Try.func15, Try.ntmps15
  go_upto_region 2 with (first | (go_at_call 30; refine (cB _ HD.out).out.mono ?_; rintro e w' ⟨rfl, rfl⟩) | (go_at_call 48; refine (cY _ HD.out).out.mono ?_; rintro e w' ⟨rfl, rfl⟩))
  have hrow : Cells 5 (w.alloc (.cells (Array.replicate N (.int .u8 0)) 5)) w.heap.size (bytesV (part ls m 0)) := by
    have := Row.new 5 w (List.replicate N 0)
    rw [HP0.out]
    unfold Cells
    unfold Row at this
    simpa [bytesV, byteV] using this
  have hb2 : Below w.heap.size w (w.alloc (.cells (Array.replicate N (.int .u8 0)) 5)) := (Below.refl _ _).alloc (Nat.le_refl _) _
  generalize w.alloc (.cells (Array.replicate N (.int .u8 0)) 5) = w2 at *
  have HD2 := Lib.hid (HD.out.kept hb2)
  obtain ⟨q, hq⟩ : ∃ q, q = w.heap.size := ⟨_, rfl⟩
  rw [← hq] at hrow
  have HROW := Lib.hid hrow
  have HB2 := Lib.hid hb2
  have HQ := Lib.hid hq
  simp only [← hq]
  clear hrow hb2 hq
  go_upto_region 3 with (go_at_call 30; refine (cB _ HD2.out).out.mono ?_; rintro e w' ⟨rfl, rfl⟩)
  go_loopw [13] (fun i wr => ∃ k : Nat, k ≤ n ∧ i = .int .i64 k ∧ Hid (Dev wr S g m ls r s) ∧ Hid (Cells 5 wr q (bytesV (part ls m k))) ∧ Hid (Below w.heap.size w wr)) (fun i _ => n - (intOf i).toNat)
  case atStart => exact ⟨0, Nat.zero_le _, rfl, HD2, HROW, HB2⟩
  case round =>
    obtain ⟨k, hk, rfl, HDk, HRk, HBk⟩ := hrel
    by_cases hlt : k < n
    · obtain ⟨x, hx⟩ : ∃ x, ls[k]? = some x := ⟨_, List.getElem?_eq_getElem (by rw [← HN.out]; exact hlt)⟩
      go_upto_region 5 with fail
      have hb3 : Below wr.heap.size wr { wr with drawn := wr.drawn + 1 } := ⟨rfl, rfl, rfl, Nat.le_refl _, fun _ _ => rfl⟩
      have HD3 := Lib.hid (HDk.out.kept hb3)
      have HR3 : Hid (Cells 5 { wr with drawn := wr.drawn + 1 } q (bytesV (part ls m k))) := HRk
      have HB3 : Hid (Below w.heap.size w { wr with drawn := wr.drawn + 1 }) := Below.trans HBk.out (hb3.mono HBk.out.size)
      have HQ3 : Hid (q < wr.heap.size) := HRk.out.lt
      refine wp_region_still_tail 15 (by kernel_rfl) (by kernel_rfl) ?_
      simp only [List.take_succ_cons, List.take_zero, List.drop_succ_cons, List.drop_zero]
      generalize { wr with drawn := wr.drawn + 1 } = w3 at *
      clear hb3 HDk HRk HBk HD2 HROW HB2
      obtain ⟨⟨b, c, bks, h1, h2⟩, _, _, _, _, _⟩ := HD3.out
      obtain ⟨d0, d1, -, -⟩ := h1.cells
      rw [h1.len, ← HN.out] at d1
      obtain ⟨A, n', k', l', e1, e2, e3, e4, e5⟩ := h1.look hx
      have HE2 := Lib.hid e2
      have HE3 := Lib.hid e3
      have HSP := Lib.hid (part_succ HLL.out hx (by omega) e5)
      obtain ⟨j, hj⟩ : ∃ j, j = k * m := ⟨_, rfl⟩
      rw [← hj] at HSP
      have hjN : j + m ≤ N := by
        rw [hj, HNN.out, ← Nat.succ_mul]
        exact Nat.mul_le_mul_right m hlt
      have hkm : IntKind.i64.wrap ((k : Int) * (m : Int)) = (j : Int) := by
        have : (k : Int) * (m : Int) = (j : Int) := by rw [hj]; simp
        rw [this, IntKind.wrap_i64]; omega
      obtain ⟨i0, hi, _, hsz, _⟩ := info_parts u8info
      have hsl := fun w => run_cut_at (P := Try.prog) Try.underlying42 hi hsz q N N j (by omega) (by omega) w
      have hjl : j + (N - j) ≤ (bytesV (part ls m k)).length := by rw [bytesV_length, HPL.out k hk]; omega
      have HJL := Lib.hid hjl
      have hnj : n' ≤ N - j := by omega
      clear hj h1 h2 hx e2 e3 e5 hi hsz hjl
      repeat (refine wpStill_step (fun K hK => ?_); go_simp; (refine hK _ ?_; clear hK K))
      refine wpStill_nil ?_
      go_wp2_with (with_reducible refine wpList_copy_into rfl (.tmp 23) (.tmp 30) _ _ rfl 5 Try.underlying42 u8size q j (N - j) (N - j) n' k' A rfl rfl (bytesV (part ls m k)) l' HR3.out HE3.out HE2.out hnj HJL.out ?_; intro w4 hr4 hi4)
      have HR4 : Hid (Cells 5 w4 q (bytesV (part ls m (k + 1)))) := by
        unfold Hid
        rw [← HSP.out]
        exact hr4.out
      have HB4 : Hid (Below w.heap.size w w4) := HB3.out.trans (below_of_into hi4.out (fun y hy => by
        obtain rfl : y = q := by simpa using hy
        exact Nat.le_of_eq HQ.out.symm) HB3.out.size)
      have HD4 := Lib.hid (HD.out.kept HB4.out)
      clear hr4 hi4
      go_roundw
      case rel => exact ⟨k + 1, by omega, by go_num, HD4, HR4, HB4⟩
      case measure => simp [intOf]; omega
    · obtain rfl : k = n := by omega
      go_wp2
      go_ret
      exact ⟨⟨q, rfl, by have := HRk.out; rw [HPA.out] at this; exact this, by have := HQ.out; omega⟩, HBk.out⟩
theorem Image_any {w : World} {S : List Nat} {g m : Nat} {ls : List (List UInt8)} {r s : Nat} (h : Dev w S g m ls r s) (hN : ls.length * m ≤ 1048576) :
    Calls Try.prog 15 #[.pointer (some ⟨g, 0, none⟩)] w fun e w' => Pictured w w' (ls.length * m) ls.flatten e ∧ Below w.heap.size w w' := Image_n h _ _ rfl rfl hN
end Dv
end Go.Proofs.Ytjnbdmimflhhiaa
