/-
  CodeR5, CodeR6. Put together by pack.py.
-/
import Derived.Test.YtgpbioljldkmaaaGreatPqCodeR4
import Derived.Laws.DeepStrings4
import Derived.Test.YtgpbioljldkmaaaGreatPkAI
import Derived.Test.YtgpbioljldkmaaaGreatPkAJ

namespace Go.Proofs.YtgpbioljldkmaaaGreat
open Go.RowKit
namespace No
open Mem Lx Bu Lf Fa
open Wd (be val be_length val_be isW val_snoc val_lt)
theorem RBlock_any (c : Cfg) {n : Nd} {a : At} {W : World} (h : NdIn W n a) (hr : RightA c n) : Calls Tryz.prog 19 #[.agg (cfCs c), .agg (ndCs n a)] W fun e w' => e = .returned (.string (strOf (blockL c n))) ∧ Below W.heap.size W w' := by
  by_cases h0 : n.lv = 0
  · exact RBlock_leaf c h hr h0
  · exact RBlock_inner c h hr h0
/-- what Encode tells: the block, or why there is none -/
def EncP (c : Cfg) (n : Nd) (s : List UInt8) (f : Int) : Prop :=
  (¬ Cf.Right c.blocks c.bytes c.frames c.fan c.buffer c.leaf c.key c.val ∧ s = [] ∧ f = 2) ∨
  (Cf.Right c.blocks c.bytes c.frames c.fan c.buffer c.leaf c.key c.val ∧ ¬ RightA c n ∧ s = [] ∧ f = 3) ∨ (RightA c n ∧ s = blockL c n ∧ f = 0)
theorem EncP.some (c : Cfg) (n : Nd) : ∃ s f, EncP c n s f := by
  by_cases h1 : Cf.Right c.blocks c.bytes c.frames c.fan c.buffer c.leaf c.key c.val
  · by_cases h2 : RightA c n
    · exact ⟨_, _, .inr (.inr ⟨h2, rfl, rfl⟩)⟩
    · exact ⟨_, _, .inr (.inl ⟨h1, h2, rfl, rfl⟩)⟩
  · exact ⟨_, _, .inl ⟨h1, rfl, rfl⟩⟩
theorem EncP.one {c : Cfg} {n : Nd} {s s' : List UInt8} {f f' : Int} (h : EncP c n s f) (h' : EncP c n s' f') : s = s' ∧ f = f' := by
  rcases h with ⟨h1, rfl, rfl⟩ | ⟨h1, h2, rfl, rfl⟩ | ⟨h1, rfl, rfl⟩ <;> rcases h' with ⟨k1, rfl, rfl⟩ | ⟨k1, k2, rfl, rfl⟩ | ⟨k1, rfl, rfl⟩ <;> first | exact ⟨rfl, rfl⟩ | exact absurd k1 h1 | exact absurd h1 k1 | exact absurd k1.1 h1 | exact absurd h1.1 k1 | exact absurd k1 h2 | exact absurd h1 k2
set_option maxRecDepth 100000 in
set_option maxHeartbeats 4000000 in
theorem REncode_any (c : Cfg) {n : Nd} {a : At} {W : World} (h : NdIn W n a) (hz : Sz n) (hkid : ∀ k, k ∈ n.kids → k < 4294967296) {s : List UInt8} {f : Int} (he : EncP c n s f) : Calls Tryz.prog 10 #[.agg (cfCs c), .agg (ndCs n a)] W fun e w' => e = .returned (.tuple #[.string (strOf s), .int .i64 f]) ∧ Below W.heap.size W w' := by
  obtain ⟨q, hq⟩ := bool_of (Cf.Right c.blocks c.bytes c.frames c.fan c.buffer c.leaf c.key c.val)
  have cQ : ∀ w, Hid (Calls Tryz.prog 18 #[.agg (cfCs c)] w fun e w' => e = .returned (.bool q) ∧ Below w.heap.size w w') := fun w => by
    cases q with
    | true => exact Cf.RRight_yes c.blocks c.bytes c.frames c.fan c.buffer c.leaf c.key c.val w (hq.1 rfl)
    | false => exact Cf.RRight_no c.blocks c.bytes c.frames c.fan c.buffer c.leaf c.key c.val w (fun h => by cases hq.2 h)
  obtain ⟨t, ht⟩ := bool_of (RightA c n)
  have cR : ∀ w, Below W.heap.size W w → Hid (Calls Tryz.prog 14 #[.agg (cfCs c), .agg (ndCs n a)] w fun e w' => e = .returned (.bool t) ∧ Below w.heap.size w w') := fun w hb => CRight_any c (h.kept hb) hz hkid t ht
  have cB : RightA c n → ∀ w, Below W.heap.size W w → Hid (Calls Tryz.prog 19 #[.agg (cfCs c), .agg (ndCs n a)] w fun e w' => e = .returned (.string (strOf (blockL c n))) ∧ Below w.heap.size w w') := fun hr w hb => RBlock_any c (h.kept hb) hr
  have HE : Hid ((q = false → s = [] ∧ f = 2) ∧ (q = true → t = false → s = [] ∧ f = 3) ∧ (t = true → q = true ∧ RightA c n ∧ s = blockL c n ∧ f = 0)) := by
    refine ⟨fun e => ?_, fun e e2 => ?_, fun e => ?_⟩
    · refine EncP.one he (.inl ⟨fun h => ?_, rfl, rfl⟩)
      rw [hq.2 h] at e
      cases e
    · refine EncP.one he (.inr (.inl ⟨hq.1 e, fun h => ?_, rfl, rfl⟩))
      rw [ht.2 h] at e2
      cases e2
    · have h9 := ht.1 e
      exact ⟨hq.2 h9.1, h9, EncP.one he (.inr (.inr ⟨h9, rfl, rfl⟩))⟩
  clear h hz hkid he hq ht
  cases q with
  | false =>
    obtain ⟨rfl, rfl⟩ := HE.out.1 rfl
    clear HE cR cB
    obtain ⟨cB, cY, cF, cN, cU, cL, cKy, cV⟩ := c
    obtain ⟨lv, K, P, B, Q⟩ := n
    obtain ⟨kA, kc, pA, pc, bA, bc, qA, qc⟩ := a
    unfold cfCs ndCs at *
    simp only at *
    go_enter Tryz.func10, Tryz.ntmps10
    go_upto_region 1 with fail
    have HB := Lib.hid (Bx2.new W (.cells #[.int .i64 cB, .int .i64 cY, .int .i64 cF, .int .i64 cN, .int .i64 cU, .int .i64 cL, .int .i64 cKy, .int .i64 cV] 23) (.cells #[.int .i64 lv, .slice kA K.length kc, .slice pA P.length pc, .slice bA B.length bc, .slice qA Q.length qc] 29))
    generalize (W.alloc (.cells #[.int .i64 cB, .int .i64 cY, .int .i64 cF, .int .i64 cN, .int .i64 cU, .int .i64 cL, .int .i64 cKy, .int .i64 cV] 23)).alloc (.cells #[.int .i64 lv, .slice kA K.length kc, .slice pA P.length pc, .slice bA B.length bc, .slice qA Q.length qc] 29) = w1 at *
    obtain ⟨g, hg⟩ : ∃ g, g = W.heap.size := ⟨_, rfl⟩
    rw [← hg] at HB
    simp only [← hg]
    clear hg
    obtain ⟨g0, g1, g2, g3, g4, g5, g6, g7⟩ := box8 HB.out.x
    go_wp2_with (go_at_call 18; refine (cQ _).out.mono ?_; rintro e w2 ⟨rfl, hb⟩; replace HB := Lib.hid (HB.out.kept hb))
    exact bodyPost_ret (v := .tuple #[.string ⟨#[]⟩, .int .i64 2]) (by simp [results, Tryz.results10, go_sem]) rfl ⟨rfl, HB.out.below⟩
  | true =>
    cases t with
    | false =>
      obtain ⟨rfl, rfl⟩ := HE.out.2.1 rfl rfl
      clear HE cB
      obtain ⟨cB, cY, cF, cN, cU, cL, cKy, cV⟩ := c
      obtain ⟨lv, K, P, B, Q⟩ := n
      obtain ⟨kA, kc, pA, pc, bA, bc, qA, qc⟩ := a
      unfold cfCs ndCs at *
      simp only at *
      generalize K.length = kn at *
      generalize P.length = pn at *
      generalize B.length = bn at *
      generalize Q.length = qn at *
      go_enter Tryz.func10, Tryz.ntmps10
      go_upto_region 1 with fail
      have HB := Lib.hid (Bx2.new W (.cells #[.int .i64 cB, .int .i64 cY, .int .i64 cF, .int .i64 cN, .int .i64 cU, .int .i64 cL, .int .i64 cKy, .int .i64 cV] 23) (.cells #[.int .i64 lv, .slice kA kn kc, .slice pA pn pc, .slice bA bn bc, .slice qA qn qc] 29))
      generalize (W.alloc (.cells #[.int .i64 cB, .int .i64 cY, .int .i64 cF, .int .i64 cN, .int .i64 cU, .int .i64 cL, .int .i64 cKy, .int .i64 cV] 23)).alloc (.cells #[.int .i64 lv, .slice kA kn kc, .slice pA pn pc, .slice bA bn bc, .slice qA qn qc] 29) = w1 at *
      obtain ⟨g, hg⟩ : ∃ g, g = W.heap.size := ⟨_, rfl⟩
      rw [← hg] at HB
      simp only [← hg]
      clear hg
      obtain ⟨g0, g1, g2, g3, g4, g5, g6, g7⟩ := box8 HB.out.x
      obtain ⟨d0, d1, d2, d3, d4⟩ := box5 HB.out.y
      go_wp2_with (first
        | (go_at_call 18; refine (cQ _).out.mono ?_; rintro e w2 ⟨rfl, hb⟩; replace HB := Lib.hid (HB.out.kept hb); clear hb cQ g0 g1 g2 g3 g4 g5 g6 g7 d0 d1 d2 d3 d4; obtain ⟨g0, g1, g2, g3, g4, g5, g6, g7⟩ := box8 HB.out.x; obtain ⟨d0, d1, d2, d3, d4⟩ := box5 HB.out.y)
        | (go_at_call 14; refine (cR _ HB.out.below).out.mono ?_; rintro e w3 ⟨rfl, hb⟩; replace HB := Lib.hid (HB.out.kept hb)))
      exact bodyPost_ret (v := .tuple #[.string ⟨#[]⟩, .int .i64 3]) (by simp [results, Tryz.results10, go_sem]) rfl ⟨rfl, HB.out.below⟩
    | true =>
      obtain ⟨-, h9, rfl, rfl⟩ := HE.out.2.2 rfl
      replace cB := cB h9
      clear HE h9
      generalize strOf (blockL c n) = bl at *
      have cBl := cB
      clear cB
      obtain ⟨cB, cY, cF, cN, cU, cL, cKy, cV⟩ := c
      obtain ⟨lv, K, P, B, Q⟩ := n
      obtain ⟨kA, kc, pA, pc, bA, bc, qA, qc⟩ := a
      unfold cfCs ndCs at *
      simp only at *
      generalize K.length = kn at *
      generalize P.length = pn at *
      generalize B.length = bn at *
      generalize Q.length = qn at *
      go_enter Tryz.func10, Tryz.ntmps10
      go_upto_region 1 with fail
      have HB := Lib.hid (Bx2.new W (.cells #[.int .i64 cB, .int .i64 cY, .int .i64 cF, .int .i64 cN, .int .i64 cU, .int .i64 cL, .int .i64 cKy, .int .i64 cV] 23) (.cells #[.int .i64 lv, .slice kA kn kc, .slice pA pn pc, .slice bA bn bc, .slice qA qn qc] 29))
      generalize (W.alloc (.cells #[.int .i64 cB, .int .i64 cY, .int .i64 cF, .int .i64 cN, .int .i64 cU, .int .i64 cL, .int .i64 cKy, .int .i64 cV] 23)).alloc (.cells #[.int .i64 lv, .slice kA kn kc, .slice pA pn pc, .slice bA bn bc, .slice qA qn qc] 29) = w1 at *
      obtain ⟨g, hg⟩ : ∃ g, g = W.heap.size := ⟨_, rfl⟩
      rw [← hg] at HB
      simp only [← hg]
      clear hg
      obtain ⟨g0, g1, g2, g3, g4, g5, g6, g7⟩ := box8 HB.out.x
      obtain ⟨d0, d1, d2, d3, d4⟩ := box5 HB.out.y
      go_wp2_with (first
        | (go_at_call 18; refine (cQ _).out.mono ?_; rintro e w2 ⟨rfl, hb⟩; replace HB := Lib.hid (HB.out.kept hb); clear hb cQ g0 g1 g2 g3 g4 g5 g6 g7 d0 d1 d2 d3 d4; obtain ⟨g0, g1, g2, g3, g4, g5, g6, g7⟩ := box8 HB.out.x; obtain ⟨d0, d1, d2, d3, d4⟩ := box5 HB.out.y)
        | (go_at_call 14; refine (cR _ HB.out.below).out.mono ?_; rintro e w3 ⟨rfl, hb⟩; replace HB := Lib.hid (HB.out.kept hb); clear hb cR g0 g1 g2 g3 g4 g5 g6 g7 d0 d1 d2 d3 d4; obtain ⟨g0, g1, g2, g3, g4, g5, g6, g7⟩ := box8 HB.out.x; obtain ⟨d0, d1, d2, d3, d4⟩ := box5 HB.out.y)
        | (go_at_call 19; refine (cBl _ HB.out.below).out.mono ?_; rintro e w4 ⟨rfl, hb⟩; replace HB := Lib.hid (HB.out.kept hb)))
      exact bodyPost_ret (v := .tuple #[.string bl, .int .i64 0]) (by simp [results, Tryz.results10, go_sem]) rfl ⟨rfl, HB.out.below⟩
/-! ### bytes of a text -/
theorem at_succ {b : ByteArray} {i k : Nat} (h : i + k < b.size) : atL (txt b) i (k + 1) = 256 * atL (txt b) i k + b[i + k].toNat := by
  unfold atL
  have hk : k < ((txt b).drop i).length := by
    rw [List.length_drop, txt_len]
    omega
  rw [List.take_succ_eq_append_getElem hk, val_snoc]
  congr 2
  rw [List.getElem_drop]
  rfl
theorem at_lt (b : List UInt8) (i : Nat) {k : Nat} (hk : k ≤ 3) : atL b i k < 16777216 := by
  have h1 := val_lt ((b.drop i).take k)
  have h2 : ((b.drop i).take k).length ≤ 3 := Nat.le_trans (List.length_take_le _ _) hk
  have h3 : 256 ^ ((b.drop i).take k).length ≤ 256 ^ 3 := Nat.pow_le_pow_right (by decide) h2
  unfold atL
  omega
set_option maxRecDepth 100000 in
set_option maxHeartbeats 4000000 in
theorem RAt_any (b : ByteArray) (i w : Nat) (hw : w ≤ 4) (h : i + w ≤ b.size) (hs : b.size ≤ 1000000) (W : World) : Calls Tryz.prog 21 #[.string b, .int .i64 (i : Int), .int .i64 (w : Int)] W fun e w' => e = .returned (.int .i64 (atL (txt b) i w : Int)) ∧ Below W.heap.size W w' := by
  go_enter Tryz.func21, Tryz.ntmps21
  go_wp2_with fail
  go_loopg [7, 8] w (fun gk vv kv wr => ∃ (k m : Nat), k ≤ w ∧ gk = w - k ∧ kv = .int .i64 (k : Int) ∧ vv = .int .i64 (m : Int) ∧ Hid (m = atL (txt b) i k) ∧ Hid (Below W.heap.size W wr))
  case atStart => exact ⟨0, 0, Nat.zero_le _, rfl, rfl, rfl, rfl, Below.refl _ _⟩
  case round =>
    obtain ⟨k, m, hk, rfl, rfl, rfl, HM, HB⟩ := hrel
    by_cases hlt : k < w
    · have hik : i + k < b.size := by omega
      have hm : m < 16777216 := by rw [HM.out]; exact at_lt _ _ (by omega)
      obtain ⟨x, hx⟩ : ∃ x : Nat, x = b[i + k].toNat := ⟨_, rfl⟩
      have hx2 : x < 256 := by rw [hx]; exact UInt8.toNat_lt _
      obtain ⟨m2, hm2⟩ : ∃ m2 : Nat, m2 = 256 * m + x := ⟨_, rfl⟩
      have HM2 : Hid (m2 = atL (txt b) i (k + 1)) := by
        unfold Hid
        rw [at_succ hik, ← HM.out, hm2, hx]
      have hw1 : IntKind.i64.wrap ((i : Int) + (k : Int)) = ((i + k : Nat) : Int) := by rw [IntKind.wrap_i64]; omega
      have hw2 : IntKind.i64.wrap (256 * (m : Int)) = ((256 * m : Nat) : Int) := by rw [IntKind.wrap_i64]; omega
      have hw3 : IntKind.i64.wrap (((256 * m : Nat) : Int) + (x : Int)) = (m2 : Int) := by rw [IntKind.wrap_i64]; omega
      have hw4 : IntKind.i64.wrap ((k : Int) + 1) = ((k + 1 : Nat) : Int) := by rw [IntKind.wrap_i64]; omega
      have hwx : IntKind.i64.wrap (x : Int) = (x : Int) := by rw [IntKind.wrap_i64]; omega
      have hix : ∀ w, (Instr.index 9 (.string b) (.int .i64 ((i + k : Nat) : Int))).run Tryz.prog w = .ok (.int .u8 (x : Int)) w := fun w => by
        rw [run_index_string w _ b .i64 _ Tryz.underlying9, dif_pos ⟨by omega, by omega⟩, hx]
        rfl
      generalize 256 * m = q at *
      generalize i + k = j at *
      clear hm hm2 hx hik
      go_wp2_with fail
      go_roundg (w - (k + 1))
      case measure => omega
      case rel => exact ⟨k + 1, m2, hlt, rfl, by go_num, by go_num, HM2, HB⟩
    · obtain rfl : w = k := by omega
      go_wp2_with fail
      go_ret
      exact ⟨by rw [HM.out]; rfl, HB.out⟩
theorem ext_sub (b : ByteArray) (i j : Nat) : b.extract i j = strOf (((txt b).drop i).take (j - i)) := by
  apply ByteArray.ext
  apply Array.ext'
  simp [txt, strOf, ByteArray.data_extract]
set_option maxRecDepth 100000 in
set_option maxHeartbeats 4000000 in
theorem RSub_any (b : ByteArray) (i n : Nat) (hs : b.size ≤ 1000000) (hi : i ≤ 1000000) (hn : n ≤ 1000000) (W : World) : Calls Tryz.prog 22 #[.string b, .int .i64 (i : Int), .int .i64 (n : Int)] W fun e w' => e = .returned (.string (strOf (subL (txt b) i n))) ∧ Below W.heap.size W w' := by
  unfold subL
  obtain ⟨m, hm⟩ : ∃ m, m = b.size := ⟨_, rfl⟩
  have hml : (txt b).length = m := by rw [txt_len, hm]
  by_cases h1 : m < i
  · have HE : Hid (strOf (((txt b).drop i).take n) = ⟨#[]⟩) := by
      unfold Hid
      rw [List.drop_eq_nil_of_le (by omega), List.take_nil]
      rfl
    rw [HE.out]
    rw [← hm] at hs
    have hl : ((b.size : Nat) : Int) < (i : Int) := by omega
    clear hm hml HE
    go_enter Tryz.func22, Tryz.ntmps22
    go_wp2_with fail
    go_ret
    exact ⟨rfl, Below.refl _ _⟩
  · have h1' : (i : Int) ≤ ((b.size : Nat) : Int) := by omega
    have hw1 : IntKind.i64.wrap ((b.size : Int) - (i : Int)) = ((m - i : Nat) : Int) := by rw [IntKind.wrap_i64]; omega
    by_cases h2 : m - i < n
    · have h2' : ((m - i : Nat) : Int) < (n : Int) := by omega
      have HE : Hid (strOf (((txt b).drop i).take n) = strOf (((txt b).drop i).take (m - i))) := by
        unfold Hid
        have hd : ((txt b).drop i).length = m - i := by rw [List.length_drop, hml]
        rw [List.take_of_length_le (by omega), List.take_of_length_le (by omega)]
      obtain ⟨r, hr⟩ : ∃ r, r = strOf (((txt b).drop i).take (m - i)) := ⟨_, rfl⟩
      rw [HE.out, ← hr]
      have hsl : ∀ w, (Instr.slice 9 (.string b) (some (.int .i64 (i : Int))) (some (.int .i64 (m : Int))) none).run Tryz.prog w = .ok (.string r) w := fun w => by
        rw [run_slice_string_if w _ b .i64 .i64 _ _ Tryz.underlying9, if_pos (by omega), if_pos (by omega), Int.toNat_natCast, Int.toNat_natCast, ext_sub, hr]
      have hw2 : IntKind.i64.wrap ((i : Int) + ((m - i : Nat) : Int)) = (m : Int) := by rw [IntKind.wrap_i64]; omega
      generalize m - i = d at *
      clear HE hr hml hm hs hi hn h1 h2
      go_enter Tryz.func22, Tryz.ntmps22
      go_wp2_with fail
      go_ret
      exact ⟨rfl, Below.refl _ _⟩
    · have h2' : (n : Int) ≤ ((m - i : Nat) : Int) := by omega
      obtain ⟨j, hj⟩ : ∃ j, j = i + n := ⟨_, rfl⟩
      obtain ⟨r, hr⟩ : ∃ r, r = strOf (((txt b).drop i).take n) := ⟨_, rfl⟩
      rw [← hr]
      have hsl : ∀ w, (Instr.slice 9 (.string b) (some (.int .i64 (i : Int))) (some (.int .i64 (j : Int))) none).run Tryz.prog w = .ok (.string r) w := fun w => by
        rw [run_slice_string_if w _ b .i64 .i64 _ _ Tryz.underlying9, if_pos (by omega), if_pos (by omega), Int.toNat_natCast, Int.toNat_natCast, ext_sub, hr, show j - i = n by omega]
      have hw2 : IntKind.i64.wrap ((i : Int) + (n : Int)) = (j : Int) := by rw [IntKind.wrap_i64]; omega
      generalize m - i = d at *
      clear hr hml hm hs hi hn h1 h2 hj
      go_enter Tryz.func22, Tryz.ntmps22
      go_wp2_with fail
      go_ret
      exact ⟨rfl, Below.refl _ _⟩
end No
end Go.Proofs.YtgpbioljldkmaaaGreat

namespace Go.Proofs.YtgpbioljldkmaaaGreat
open Go.RowKit
namespace No
open Mem Lx Bu Lf Fa
open Wd (be val be_length val_be isW)
def nilN : Nd := ⟨0, [], [], [], []⟩
/-- what Decode tells: the node whose block the bytes are, or why there is none -/
def DecP (c : Cfg) (b : List UInt8) (n : Nd) (f : Int) : Prop :=
  (¬ Cf.Right c.blocks c.bytes c.frames c.fan c.buffer c.leaf c.key c.val ∧ n = nilN ∧ f = 2) ∨
  (Cf.Right c.blocks c.bytes c.frames c.fan c.buffer c.leaf c.key c.val ∧ (∀ m, ¬ (RightA c m ∧ blockL c m = b)) ∧ n = nilN ∧ f = 12) ∨ (RightA c n ∧ blockL c n = b ∧ f = 0)
theorem DecP.one {c : Cfg} {b : List UInt8} {n n' : Nd} {f f' : Int} (h : DecP c b n f) (h' : DecP c b n' f') : n = n' ∧ f = f' := by
  rcases h with ⟨h1, rfl, rfl⟩ | ⟨h1, h2, rfl, rfl⟩ | ⟨h1, h2, rfl⟩ <;> rcases h' with ⟨k1, rfl, rfl⟩ | ⟨k1, k2, rfl, rfl⟩ | ⟨k1, k2, rfl⟩ <;> first | exact ⟨rfl, rfl⟩ | exact absurd k1 h1 | exact absurd h1 k1 | exact absurd k1.1 h1 | exact absurd h1.1 k1 | exact absurd ⟨k1, k2⟩ (h2 _) | exact absurd ⟨h1, h2⟩ (k2 _) | exact ⟨block_inj h1 k1 (h2.trans k2.symm), rfl⟩
/-- the same with the node in memory -/
def EvDec (c : Cfg) (b : List UInt8) (v : Value) (w : World) : Prop := ∃ n f z, v = .tuple #[.agg (ndCs n z), .int .i64 f] ∧ NdIn w n z ∧ DecP c b n f
theorem NdIn.nil (w : World) : NdIn w nilN ⟨none, 0, none, 0, none, 0, none, 0⟩ := ⟨RC.nil _ _ _, RC.nil _ _ _, RC.nil _ _ _, RC.nil _ _ _⟩
/-- the boxes within Decode: settings, result, and the node that grows; the rows lie from w0's end on -/
structure Dc (W w0 : World) (g s : Nat) (X Y N : Obj) (w : World) : Prop where
  bx : Bx2 W g X Y w
  box : w.heap[s]? = some N
  at_ : W.heap.size ≤ g
  lo : g + 1 < w0.heap.size
  ls : s < w0.heap.size
  size : w0.heap.size ≤ w.heap.size
  sne : W.heap.size ≤ s ∧ g ≠ s ∧ g + 1 ≠ s
section
variable {W w0 w w' : World} {g s i : Nat} {X Y N : Obj}
theorem Dc.kept (h : Dc W w0 g s X Y N w) (hb : Below w.heap.size w w') : Dc W w0 g s X Y N w' := ⟨h.bx.kept hb, kept3 h.box hb, h.at_, h.lo, h.ls, Nat.le_trans h.size hb.size, h.sne⟩
theorem Dc.grow (h : Dc W w0 g s X Y N w) (hb : Below w0.heap.size w w') : Dc W w0 g s X Y N w' := by
  have h1 := h.lo
  have h2 := h.ls
  have h3 := h.size
  have h4 := h.at_
  exact ⟨⟨h.bx.below.trans (hb.mono (by omega)), (hb.block g (by omega)).trans h.bx.x, (hb.block (g + 1) (by omega)).trans h.bx.y⟩, (hb.block s h2).trans h.box, h.at_, h.lo, h.ls, Nat.le_trans h.size hb.size, h.sne⟩
theorem Dc.set (h : Dc W w0 g s X Y N w) (v : Value) (N' : Obj) (hn : (w.setCell ⟨s, i, none⟩ v).heap[s]? = some N') : Dc W w0 g s X Y N' (w.setCell ⟨s, i, none⟩ v) := by
  obtain ⟨h1, h2, h3⟩ := h.sne
  exact ⟨⟨h.bx.below.setCell h1 _, (set_other _ h2).trans h.bx.x, (set_other _ h3).trans h.bx.y⟩, hn, h.at_, h.lo, h.ls, by simpa using h.size, h.sne⟩
end
/-- rows of unlike kinds lie in unlike blocks -/
theorem vk_ne {α β : Type} {K : Kind α} {K2 : Kind β} {w : World} {B B2 c c2 : Nat} {A A2 : Option Addr} {L : List α} {L2 : List β} (h : VK K w B A c L) (h' : VK K2 w B2 A2 c2 L2) (hT : K.T ≠ K2.T) : ∀ a a2, A = some a → A2 = some a2 → a2.block ≠ a.block := fun a a2 ha ha2 e => by
  rcases h.2 with ⟨h1, -⟩ | ⟨q, cap, cur, he, -, hh, -⟩
  · rw [ha] at h1
    cases h1
  rcases h'.2 with ⟨h1, -⟩ | ⟨q', cap', cur', he', -, hh', -⟩
  · rw [ha2] at h1
    cases h1
  rw [ha] at he
  rw [ha2] at he'
  cases he
  cases he'
  simp only at e
  subst e
  rw [hh] at hh'
  simp only [Option.some.injEq, Obj.cells.injEq] at hh'
  exact hT hh'.2.1
/-- another row behind an append -/
theorem vk_app {α β : Type} {K : Kind α} {K2 : Kind β} {w w' : World} {B B2 c c2 c' : Nat} {A A' A2 : Option Addr} {L L' : List α} {L2 : List β} (h : VK K w B A c L) (h' : VK K2 w B2 A2 c2 L2) (hT : K.T ≠ K2.T) (hd : AppW K B w w' A A' c' L') : VK K2 w' B2 A2 c2 L2 :=
  h'.keep fun a2 ha2 => hd.block _ (h'.at_ a2 ha2).2 fun a ha e => vk_ne h h' hT a a2 ha ha2 e.symm
theorem vk_setb {α : Type} {K : Kind α} {w : World} {B b i c : Nat} {A : Option Addr} {L : List α} (h : VK K w B A c L) (v : Value) (hb : b < B) : VK K (w.setCell ⟨b, i, none⟩ v) B A c L := h.into (into_one w b i v) fun a ha hm => by
  have h1 := (h.at_ a ha).1
  obtain rfl : a.block = b := by simpa using hm
  omega
/-- the first so many -/
def rgF {α : Type} (f : Nat → α) (k : Nat) : List α := (List.range k).map f
theorem rgF_len {α : Type} (f : Nat → α) (k : Nat) : (rgF f k).length = k := by simp [rgF]
theorem rgF_succ {α : Type} (f : Nat → α) (k : Nat) {y : α} (h : f k = y) : rgF f k ++ [y] = rgF f (k + 1) := by
  unfold rgF
  rw [List.range_succ, List.map_append, ← h]
  rfl
theorem many_lt {k cnt i S len : Nat} (hS : 0 < S) : k < manyF cnt i S len ↔ k < cnt ∧ i + k * S + S ≤ len := by
  unfold manyF
  rw [Nat.lt_min]
  refine and_congr_right fun _ => ?_
  rw [Nat.lt_iff_add_one_le, Nat.le_div_iff_mul_le hS, Nat.succ_mul]
  omega
end No
end Go.Proofs.YtgpbioljldkmaaaGreat
