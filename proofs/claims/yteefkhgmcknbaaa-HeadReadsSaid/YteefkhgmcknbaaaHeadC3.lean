/-
  The code's head: Encode. Written by scripts/headc3.py.
-/
import Derived.Test.YteefkhgmcknbaaaHeadC2
import Derived.Test.YteefkhgmcknbaaaCodeC0
import Derived.Test.YteefkhgmcknbaaaCheckSum
namespace Go.Proofs.Yteefkhgmcknbaaa
open Go.RowKit
namespace No
open Mem Bu
open Wd (be val be_length val_be isW u8info)
open Ck (more more_lt)
/-- what Encode keeps: the head's box at g, bytes of the call's own -/
structure Eb (W : World) (g : Nat) (X : Array Value) (v : Value) (xs : List UInt8) (w : World) : Prop where
  box : w.heap[g]? = some (.cells X 26 (0, 0))
  own : Own 5 w (g + 1) v xs
  below : Below g W w
section
variable {W w w' : World} {g : Nat} {X : Array Value} {v v' : Value} {xs ys : List UInt8}
theorem Eb.lt (h : Eb W g X v xs w) : g + 1 ≤ w.heap.size := (Array.getElem?_eq_some_iff.1 h.box).1
theorem Eb.call (h : Eb W g X v xs w) (hb : Below w.heap.size w w') (ho : Own 5 w' w.heap.size v' ys) : Eb W g X v' ys w' := by
  have hl := h.lt
  refine ⟨kept3 h.box hb, ⟨ho.1, ?_⟩, h.below.trans (hb.mono (by omega))⟩
  rcases ho.2 with hn | ⟨b, cap, cur, e, h1, h2, h3⟩
  · exact .inl hn
  · exact .inr ⟨b, cap, cur, e, Nat.le_trans hl h1, h2, h3⟩
theorem Eb.keep (h : Eb W g X v xs w) (hb : Below w.heap.size w w') : Eb W g X v xs w' := by
  have hl := h.lt
  exact ⟨kept3 h.box hb, h.own.kept hb, h.below.trans (hb.mono (by omega))⟩
theorem Eb.app (h : Eb W g X v xs w) (hg : w.grownBy w' v.ownBlock) (ho : Own 5 w' (g + 1) v' ys) : Eb W g X v' ys w' := by
  have hk := (h.own.grown (T2 := 5) hg h.lt).below
  exact ⟨(hk.block g (Nat.lt_succ_self g)).trans h.box, ho, h.below.trans (hk.mono (Nat.le_succ g))⟩
theorem Eb.fr (h : Eb W g X v xs w) : ∃ A cap, v = .slice A xs.length cap ∧ FrB w g A xs ∧ xs.length ≤ cap := by
  obtain ⟨A, cap, rfl, hbl, hc⟩ := h.own.slice
  refine ⟨A, cap, rfl, ⟨hbl, fun h0 => ?_⟩, hc⟩
  obtain ⟨b, o', e, -⟩ := hbl h0
  subst e
  obtain ⟨hB, C, hC⟩ := h.own.row b rfl
  exact ⟨b, o', C, rfl, Nat.le_trans (Nat.le_succ g) hB, hC⟩
end
/-- the same, ahead of the first number: the letters are a constant's bytes -/
structure Ec (W : World) (g : Nat) (X : Array Value) (A : Option Addr) (n c : Nat) (xs : List UInt8) (k : Nat) (w : World) : Prop where
  box : w.heap[g]? = some (.cells X 26 (0, 0))
  bl : BL w A xs
  own : 0 < k → Own 5 w (g + 1) (.slice A n c) xs
  below : Below g W w
section
variable {W w w' : World} {g n c n' c' k : Nat} {X : Array Value} {A A' : Option Addr} {xs ys : List UInt8}
theorem Ec.keep (h : Ec W g X A n c xs k w) (hb : Below w.heap.size w w') : Ec W g X A n c xs k w' :=
  ⟨kept3 h.box hb, h.bl.below hb, fun h0 => (h.own h0).kept hb, h.below.trans (hb.mono (Nat.le_of_lt (Array.getElem?_eq_some_iff.1 h.box).1))⟩
theorem Ec.eb (h : Ec W g X A n c xs k w) (h0 : 0 < k) : Eb W g X (.slice A n c) xs w := ⟨h.box, h.own h0, h.below⟩
theorem Ec.call (h : Ec W g X A n c xs k w) (hb : Below w.heap.size w w') (ho : Own 5 w' w.heap.size (.slice A' n' c') ys) : Ec W g X A' n' c' ys (k + 1) w' := by
  have hl : g + 1 ≤ w.heap.size := (Array.getElem?_eq_some_iff.1 h.box).1
  obtain ⟨A2, c2, e, h2, -⟩ := ho.slice
  cases e
  refine ⟨kept3 h.box hb, h2, fun _ => ⟨ho.1, ?_⟩, h.below.trans (hb.mono (by omega))⟩
  rcases ho.2 with hn | ⟨b, cap, cur, e, h1, h2, h3⟩
  · exact .inl hn
  · exact .inr ⟨b, cap, cur, e, Nat.le_trans hl h1, h2, h3⟩
end
theorem own_row {U : TypeId} {w : World} {B b n : Nat} {l : List UInt8} (h : Row U w b l) (hn : n = l.length) (hb : B ≤ b) (hl : l.length ≤ 1000000) : Own U w B (.slice (some ⟨b, 0, none⟩) n n) l := by
  subst hn
  exact ⟨by simp, .inr ⟨b, l.length, _, rfl, hb, h, Nat.le_refl _, by unfold maxLen; omega, by simp, by simp [List.take_of_length_le]⟩⟩
theorem put4_any (w : World) (A : Option Addr) (c n : Nat) (l : List UInt8) (v : Nat) (h : BL w A l) (hn : n = l.length) (hl : n ≤ 1000) (hv : v < 4294967296) : Calls Try.prog 15 #[.slice A n c, .int .i64 4, .int .u64 (v : Int)] w fun e w' => (∃ A' c', e = .returned (.slice A' (n + 4) c') ∧ Own 5 w' w.heap.size (.slice A' (n + 4) c') (l ++ be 4 v)) ∧ Below w.heap.size w w' := by
  subst hn
  refine (Wd.Put_width A c l 4 v w h (by omega) rfl (by omega)).mono ?_
  rintro e w' ⟨rfl, hr, hb⟩
  exact ⟨⟨_, _, rfl, own_row hr (by rw [List.length_append, be_length]) (Nat.le_refl _) (by rw [List.length_append, be_length]; omega)⟩, hb⟩
theorem sum1_any (w : World) (b c n : Nat) (A : Option Addr) (l : List UInt8) (hx : w.heap[b]? = some (.cells #[.slice A n c] 27 (0, 0))) (h : BL w A l) (hn : n = l.length) (hc : n ≤ c) (hl : n ≤ 1000) : Calls Try.prog 16 #[.slice (some ⟨b, 0, none⟩) 1 1] w fun e w' => e = .returned (.int .u32 (more 1 l : Int)) ∧ w = w' := by
  subst hn
  have h9 := Ck.Sum_any (some ⟨b, 0, none⟩) 1 [l] w (LL.one hx h hc) (by simp) (by simp; omega)
  rw [Ck.sum_one] at h9
  exact h9
theorem lit_cell (w : World) (i : Nat) (hi : i < magicL.length) : (w.alloc (.cells #[.int .u8 83, .int .u8 76, .int .u8 85, .int .u8 73, .int .u8 67, .int .u8 69, .int .u8 48, .int .u8 49] 5 (8, 9))).cell? ⟨w.heap.size, 0 + i, none⟩ = some (byteV magicL[i]) := by
  have h : (w.alloc (.cells #[.int .u8 83, .int .u8 76, .int .u8 85, .int .u8 73, .int .u8 67, .int .u8 69, .int .u8 48, .int .u8 49] 5 (8, 9))).heap[w.heap.size]? = some (.cells #[.int .u8 83, .int .u8 76, .int .u8 85, .int .u8 73, .int .u8 67, .int .u8 69, .int .u8 48, .int .u8 49] 5 (8, 9)) := heap_alloc_new w _
  have h8 : i < 8 := hi
  simp only [World.cell?, h]
  rcases i with _ | _ | _ | _ | _ | _ | _ | _ | i
  any_goals rfl
  omega
theorem num_ix {L : List Nat} (hL : L.length = 10) {k x : Nat} (hx : L[k]? = some x) (w : World) : (Instr.index 45 (.agg (numCs L)) (.int .i64 (k : Int))).run Try.prog w = .ok (.int .u32 (x : Int)) w := by
  obtain ⟨x0, x1, x2, x3, x4, x5, x6, x7, x8, x9, rfl⟩ := ten_of hL
  rcases k with _ | _ | _ | _ | _ | _ | _ | _ | _ | _ | k
  any_goals (obtain rfl := Option.some.inj hx; kernel_rfl)
  exact absurd hx (by simp)
def ebL (h : Hdr) (k : Nat) : List UInt8 := magicL ++ ((hNums h).take k).flatMap (be 4)
theorem ebL_len (h : Hdr) {k : Nat} (hk : k ≤ 10) : (ebL h k).length = 8 + 4 * k := by
  unfold ebL
  rw [List.length_append, hflat_len, List.length_take]
  have e1 : (hNums h).length = 10 := rfl
  have e2 : magicL.length = 8 := rfl
  omega
theorem ebL_succ (h : Hdr) {k x : Nat} (hx : (hNums h)[k]? = some x) : ebL h k ++ be 4 x = ebL h (k + 1) := by
  unfold ebL
  rw [List.append_assoc, hflat_succ hx]
set_option maxRecDepth 100000 in
set_option maxHeartbeats 4000000 in
theorem HEncode_no (h : Hdr) (hr : h.root < 4294967296) (W : World) (ho : ¬ HdOk h) : Calls Try.prog 6 #[.agg (hdCs h)] W fun e w' => e = .returned (.tuple #[.slice none 0 0, .int .i64 2]) ∧ Below W.heap.size W w' := by
  have cR := fun w => Lib.hid (HRight_c h hr w false ⟨fun h => (by cases h), fun h => absurd h ho⟩)
  clear hr ho
  obtain ⟨⟨cB, cY, cF, cN, cU, cL, cKy, cV⟩, r, t⟩ := h
  unfold hdCs at *
  simp only at *
  go_enter Try.func6, Try.ntmps6
  go_upto_region 1 with fail
  have hx := heap_alloc_new W (.cells #[.int .i64 cB, .int .i64 cY, .int .i64 cF, .int .i64 cN, .int .i64 cU, .int .i64 cL, .int .i64 cKy, .int .i64 cV, .int .u32 (r : Int), .int .i64 t] 26)
  have hb : Below W.heap.size W (W.alloc (.cells #[.int .i64 cB, .int .i64 cY, .int .i64 cF, .int .i64 cN, .int .i64 cU, .int .i64 cL, .int .i64 cKy, .int .i64 cV, .int .u32 (r : Int), .int .i64 t] 26)) := (Below.refl _ _).alloc (Nat.le_refl _) _
  generalize W.alloc (.cells #[.int .i64 cB, .int .i64 cY, .int .i64 cF, .int .i64 cN, .int .i64 cU, .int .i64 cL, .int .i64 cKy, .int .i64 cV, .int .u32 (r : Int), .int .i64 t] 26) = w1 at *
  obtain ⟨g, hg⟩ : ∃ g, g = W.heap.size := ⟨_, rfl⟩
  rw [← hg] at hx
  simp only [← hg]
  clear hg
  obtain ⟨g0, g1, g2, g3, g4, g5, g6, g7, g8, g9⟩ := box10 hx
  have HX := Lib.hid hx
  have HB := Lib.hid hb
  clear hx hb
  go_wp2_with (go_at_call 9; refine (cR _).out.mono ?_; rintro e w2 ⟨rfl, hb⟩; replace HB := Lib.hid (HB.out.trans (hb.mono HB.out.size)); clear hb cR)
  exact bodyPost_ret (v := .tuple #[.slice none 0 0, .int .i64 2]) (by simp [results, Try.results6, go_sem]) rfl ⟨rfl, HB.out⟩
set_option maxRecDepth 100000 in
set_option maxHeartbeats 4000000 in
theorem HEncode_yes (h : Hdr) (ho : HdOk h) (hr : h.root < 4294967296) (W : World) : Calls Try.prog 6 #[.agg (hdCs h)] W fun e w' => (∃ A cap, e = .returned (.tuple #[.slice A (headL h).length cap, .int .i64 0]) ∧ FrB w' W.heap.size A (headL h) ∧ (headL h).length ≤ cap) ∧ Below W.heap.size W w' := by
  have cR := fun w => Lib.hid (HRight_c h hr w true ⟨fun _ => ho, fun _ => rfl⟩)
  have cNm := fun w => Lib.hid (NumbersOf_any h ho w)
  have hix : ∀ k x : Nat, (hNums h)[k]? = some x → ∀ w, (Instr.index 45 (.agg (numCs (hNums h))) (.int .i64 (k : Int))).run Try.prog w = .ok (.int .u32 (x : Int)) w := fun k x hx w => num_ix rfl hx w
  have HIX := Lib.hid hix
  have HNL : Hid ((hNums h).length = 10) := rfl
  have HSM := Lib.hid (nums_small ho)
  have HLN : Hid (∀ k, k ≤ 10 → (ebL h k).length = 8 + 4 * k) := fun k hk => ebL_len h hk
  have HNX : Hid (∀ k x : Nat, (hNums h)[k]? = some x → ebL h k ++ be 4 x = ebL h (k + 1)) := fun k x hx => ebL_succ h hx
  have HL0 : Hid (ebL h 0 = magicL) := by unfold Hid ebL; simp
  have HFR : Hid (ebL h 10 ++ List.replicate 12 0 = frontL h) := by
    unfold Hid ebL frontL
    rw [List.take_of_length_le (Nat.le_of_eq HNL.out), List.append_assoc]
    rfl
  have HFL := Lib.hid (front_len h)
  obtain ⟨d, hd⟩ : ∃ d : Nat, d = (h.c.bytes - 64).toNat := ⟨_, rfl⟩
  have hby := hd_bytes ho
  obtain ⟨yy, hyy⟩ : ∃ y : Nat, y = 64 + d := ⟨_, rfl⟩
  have HYY := Lib.hid hyy
  have hyd : h.c.bytes = (yy : Int) := by omega
  have HHL : Hid (headL h = frontL h ++ be 4 (more 1 (frontL h)) ++ List.replicate d 0) := by
    unfold Hid headL zs
    rw [← hd, List.append_assoc]
  have HHN : Hid ((headL h).length = yy) := by
    have h1 := HHL.out
    have h2 := HFL.out
    unfold Hid
    rw [h1, List.length_append, List.length_append, be_length, h2, List.length_replicate, hyy]
  have HDL : Hid (d ≤ 65536) := by unfold Hid; omega
  have HML := Lib.hid (more_lt 1 (frontL h))
  generalize hNums h = NL at *
  generalize numCs NL = NC at *
  clear hix hr hby ho hd hyy
  generalize hbl : ebL h = eb at *
  clear hbl
  generalize hfl : frontL h = fl at *
  clear hfl
  generalize hhl : headL h = hl at *
  rw [HHN.out]
  obtain ⟨⟨cB, cY, cF, cN, cU, cL, cKy, cV⟩, r, t⟩ := h
  unfold hdCs at *
  simp only at *
  subst hyd
  clear hhl
  go_enter Try.func6, Try.ntmps6
  go_upto_region 1 with fail
  have hx := heap_alloc_new W (.cells #[.int .i64 cB, .int .i64 (yy : Int), .int .i64 cF, .int .i64 cN, .int .i64 cU, .int .i64 cL, .int .i64 cKy, .int .i64 cV, .int .u32 (r : Int), .int .i64 t] 26)
  have hb : Below W.heap.size W (W.alloc (.cells #[.int .i64 cB, .int .i64 (yy : Int), .int .i64 cF, .int .i64 cN, .int .i64 cU, .int .i64 cL, .int .i64 cKy, .int .i64 cV, .int .u32 (r : Int), .int .i64 t] 26)) := (Below.refl _ _).alloc (Nat.le_refl _) _
  generalize W.alloc (.cells #[.int .i64 cB, .int .i64 (yy : Int), .int .i64 cF, .int .i64 cN, .int .i64 cU, .int .i64 cL, .int .i64 cKy, .int .i64 cV, .int .u32 (r : Int), .int .i64 t] 26) = w1 at *
  obtain ⟨g, hg⟩ : ∃ g, g = W.heap.size := ⟨_, rfl⟩
  rw [← hg] at hx hb ⊢
  have HG := Lib.hid hg
  obtain ⟨g0, g1, g2, g3, g4, g5, g6, g7, g8, g9⟩ := box10 hx
  have HX := Lib.hid hx
  have HB := Lib.hid hb
  clear hx hb hg
  go_upto_region 3 with (go_at_call 9; refine (cR _).out.mono ?_; rintro e w2 ⟨rfl, hb⟩; have hl9 := Nat.le_of_lt (Array.getElem?_eq_some_iff.1 HX.out).1; replace HX := Lib.hid (kept3 HX.out hb); replace HB := Lib.hid (HB.out.trans (hb.mono hl9)); clear hb hl9 cR g0 g1 g2 g3 g4 g5 g6 g7 g8 g9)
  have kc := fun (w : World) (C : Array Value) (n c : Nat) => Lib.run_convert_bytes_const (P := Try.prog) w 27 5 C n c Try.underlying27 Try.underlying5
  go_upto_region 4 with fail
  clear kc
  have HEB : Hid (Ec W g #[.int .i64 cB, .int .i64 (yy : Int), .int .i64 cF, .int .i64 cN, .int .i64 cU, .int .i64 cL, .int .i64 cKy, .int .i64 cV, .int .u32 (r : Int), .int .i64 t] (some ⟨w2.heap.size, 0, none⟩) 8 8 (eb 0) 0 (w2.alloc (.cells #[.int .u8 83, .int .u8 76, .int .u8 85, .int .u8 73, .int .u8 67, .int .u8 69, .int .u8 48, .int .u8 49] 5 (8, 9)))) := by
    rw [HL0.out]
    have hb : Below w2.heap.size w2 (w2.alloc (.cells #[.int .u8 83, .int .u8 76, .int .u8 85, .int .u8 73, .int .u8 67, .int .u8 69, .int .u8 48, .int .u8 49] 5 (8, 9))) := (Below.refl _ _).alloc (Nat.le_refl _) _
    have hl9 := (Array.getElem?_eq_some_iff.1 HX.out).1
    exact ⟨kept3 HX.out hb, fun _ => ⟨w2.heap.size, 0, rfl, fun i hi => lit_cell w2 i hi⟩, fun h => absurd h (by decide), HB.out.trans (hb.mono (Nat.le_of_lt hl9))⟩
  obtain ⟨A0, hA0⟩ : ∃ A : Option Addr, A = some ⟨w2.heap.size, 0, none⟩ := ⟨_, rfl⟩
  rw [← hA0] at HEB
  simp only [← hA0]
  generalize w2.alloc (.cells #[.int .u8 83, .int .u8 76, .int .u8 85, .int .u8 73, .int .u8 67, .int .u8 69, .int .u8 48, .int .u8 49] 5 (8, 9)) = w3 at *
  clear HX HB HL0 hA0
  obtain ⟨g0, g1, g2, g3, g4, g5, g6, g7, g8, g9⟩ := box10 HEB.out.box
  go_wp2_with (go_at_call 14; refine (cNm _).out.mono ?_; rintro e w4 ⟨rfl, hb⟩; replace HEB := Lib.hid (HEB.out.keep hb); clear hb cNm g0 g1 g2 g3 g4 g5 g6 g7 g8 g9)
  go_loopg [4, 14] 10 (fun gk bv iv wr => ∃ (k m : Nat) (A : Option Addr) (c : Nat), k ≤ 10 ∧ gk = 10 - k ∧ iv = .int .i64 (k : Int) ∧ bv = .slice A m c ∧ Hid (m = 8 + 4 * k) ∧ Hid (Ec W g #[.int .i64 cB, .int .i64 (yy : Int), .int .i64 cF, .int .i64 cN, .int .i64 cU, .int .i64 cL, .int .i64 cKy, .int .i64 cV, .int .u32 (r : Int), .int .i64 t] A m c (eb k) k wr))
  case atStart => exact ⟨0, 8, A0, 8, by omega, rfl, rfl, rfl, rfl, HEB⟩
  case round =>
    obtain ⟨k, m, A, c, hk, rfl, rfl, rfl, HM, HE⟩ := hrel
    by_cases hlt : k < 10
    · have hki : (k : Int) < 10 := by omega
      have hkl : k < NL.length := by rw [HNL.out]; exact hlt
      obtain ⟨x, hx⟩ : ∃ x, NL[k]? = some x := ⟨_, List.getElem?_eq_getElem hkl⟩
      have hix := HIX.out k x hx
      have hxs := HSM.out x (List.mem_of_getElem? hx)
      have hnx := HNX.out k x hx
      have hwx : IntKind.u64.wrap (x : Int) = (x : Int) := by rw [IntKind.wrap_u64]; omega
      have hml : m = (eb k).length := by rw [HLN.out k hk]; exact HM.out
      have hm9 : m ≤ 1000 := by have := HM.out; omega
      have cP := Lib.hid (put4_any wr A c m (eb k) x HE.out.bl hml hm9 hxs)
      rw [hnx] at cP
      clear hkl hx hxs hnx hml hm9
      go_wp2_with (go_at_call 15; refine cP.out.mono ?_; rintro e w5 ⟨⟨A', c', rfl, ho⟩, hb⟩; have HE5 := Lib.hid (HE.out.call hb ho); clear hb ho)
      go_roundg (10 - (k + 1))
      case measure => omega
      case rel => exact ⟨k + 1, m + 4, A', c', hlt, rfl, by go_num, rfl, by have := HM.out; unfold Hid; omega, HE5⟩
    · obtain rfl : k = 10 := by omega
      obtain rfl : m = 48 := by have := HM.out; omega
      have HE1 := Lib.hid (HE.out.eb (by decide))
      have hz1 : (eb 10).length + 12 ≤ 1048576 := by rw [HLN.out 10 (by decide)]; decide
      have hB1 := HE1.out.lt
      clear HE HM HLN HNX HIX HNL HSM HEB hk hlt
      go_upto_region 10 with (refine wpList_append_zeros rfl (.tmp 22) (.const (.int .i64 12)) 27 3 9 rfl (g + 1) 5 Try.underlying27 Try.underlying3 Try.underlying9 u8info (.slice A 48 c) (eb 10) rfl HE1.out.own 12 rfl hz1 hB1 ?_; intro v2 w5 HO2 hg2; have HE2 := Lib.hid (HE1.out.app hg2 HO2.out); rw [HFR.out] at HE2; clear HO2 hg2)
      clear HE1 HFR hz1 hB1
      obtain ⟨A2, c2, e2, hbl2, hc2⟩ := HE2.out.own.slice
      rw [HFL.out] at e2 hc2
      subst e2
      obtain ⟨sm, hsm⟩ : ∃ s, s = more 1 fl := ⟨_, rfl⟩
      have cS := fun (wx : World) h1 h2 => Lib.hid (sum1_any wx w5.heap.size c2 60 A2 fl h1 h2 HFL.out.symm hc2 (by decide))
      rw [← hsm] at cS HHL HML
      have hwx : IntKind.u64.wrap (sm : Int) = (sm : Int) := by have := HML.out; rw [IntKind.wrap_u64]; omega
      have cP : ∀ wx, BL wx A2 fl → Hid (Calls Try.prog 15 #[.slice A2 60 c2, .int .i64 4, .int .u64 (sm : Int)] wx fun e w' => (∃ A' c', e = .returned (.slice A' 64 c') ∧ Own 5 w' wx.heap.size (.slice A' 64 c') (fl ++ be 4 sm)) ∧ Below wx.heap.size wx w') := fun wx h => put4_any wx A2 c2 60 fl sm h HFL.out.symm (by decide) HML.out
      have HBL2 := Lib.hid hbl2
      clear hbl2 hc2 hsm
      go_upto_region 11 with (first
        | (go_at_call 16; refine (cS _ (heap_alloc_new w5 _) (HBL2.out.alloc _)).out.mono ?_; rintro e w6 ⟨rfl, rfl⟩)
        | (go_at_call 15; refine (cP _ (HBL2.out.alloc _)).out.mono ?_; rintro e w6 ⟨⟨A3, c3, rfl, ho⟩, hb⟩; have HE3 := Lib.hid ((HE2.out.keep ((Below.refl _ _).alloc (Nat.le_refl _) _)).call hb ho); clear hb ho))
      clear HE2 cP cS HBL2 hwx
      have hsub : IntKind.i64.wrap ((yy : Int) - 64) = (d : Int) := by have := HYY.out; have := HDL.out; rw [IntKind.wrap_i64]; omega
      obtain ⟨g0, g1, g2, g3, g4, g5, g6, g7, g8, g9⟩ := box10 HE3.out.box
      have hz3 : (fl ++ be 4 sm).length + d ≤ 1048576 := by have := HDL.out; rw [List.length_append, be_length, HFL.out]; omega
      have hB3 := HE3.out.lt
      go_wp2_with (refine wpList_append_zeros rfl (.tmp 30) (.tmp 36) 27 3 9 rfl (g + 1) 5 Try.underlying27 Try.underlying3 Try.underlying9 u8info (.slice A3 64 c3) (fl ++ be 4 sm) rfl HE3.out.own d rfl hz3 hB3 ?_; intro v4 w7 HO4 hg4; have HE4 := Lib.hid (HE3.out.app hg4 HO4.out); rw [← HHL.out] at HE4; clear HO4 hg4)
      obtain ⟨A4, c4, rfl, hfr, hc4⟩ := HE4.out.fr
      rw [HHN.out] at hc4 ⊢
      have hbw := HE4.out.below
      rw [HG.out] at hfr hbw
      exact bodyPost_ret (v := .tuple #[.slice A4 yy c4, .int .i64 0]) (by simp [results, Try.results6, go_sem]) rfl ⟨⟨A4, c4, rfl, hfr, hc4⟩, hbw⟩
set_option maxRecDepth 100000 in
set_option maxHeartbeats 4000000 in
theorem HEncode_c (h : Hdr) (hr : h.root < 4294967296) (W : World) {s : List UInt8} {f : Int} (he : HEncP h s f) : Calls Try.prog 6 #[.agg (hdCs h)] W fun e w' => (∃ A cap, e = .returned (.tuple #[.slice A s.length cap, .int .i64 f]) ∧ FrB w' W.heap.size A s ∧ s.length ≤ cap) ∧ Below W.heap.size W w' := by
  rcases he with ⟨ho, rfl, rfl⟩ | ⟨ho, rfl, rfl⟩
  · refine (HEncode_no h hr W ho).mono ?_
    rintro e w' ⟨rfl, hb⟩
    exact ⟨⟨none, 0, rfl, FrB.none_ _ _ _, Nat.le_refl _⟩, hb⟩
  · exact HEncode_yes h ho hr W
end No
end Go.Proofs.Yteefkhgmcknbaaa
