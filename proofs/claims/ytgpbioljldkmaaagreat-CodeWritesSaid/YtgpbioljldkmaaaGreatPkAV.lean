/-
  CodeR8, CodeLaw0. Put together by pack.py.
-/
import Derived.Test.YtgpbioljldkmaaaGreatPqCodeR7
import Derived.Test.YtgpbioljldkmaaaGreatPkAJ

namespace Go.Proofs.YtgpbioljldkmaaaGreat
open Go.RowKit
namespace No
open Mem Lx Bu Lf Fa
set_option maxRecDepth 100000 in
set_option maxHeartbeats 8000000 in
theorem RDecode_no (c : Cfg) (b : ByteArray) (hc : ¬ Cf.Right c.blocks c.bytes c.frames c.fan c.buffer c.leaf c.key c.val) (W : World) : Calls Tryz.prog 12 #[.agg (cfCs c), .string b] W fun e w' => (∃ v, e = .returned v ∧ EvDec c (txt b) v w') ∧ Below W.heap.size W w' := by
  have cQ : ∀ w, Hid (Calls Tryz.prog 18 #[.agg (cfCs c)] w fun e w' => e = .returned (.bool false) ∧ Below w.heap.size w w') := fun w => Cf.RRight_no c.blocks c.bytes c.frames c.fan c.buffer c.leaf c.key c.val w hc
  have HN : Hid (∀ {w}, EvDec c (txt b) (.tuple #[.agg #[.int .i64 0, .slice none 0 0, .slice none 0 0, .slice none 0 0, .slice none 0 0], .int .i64 2]) w) := fun {w} => ⟨nilN, 2, ⟨none, 0, none, 0, none, 0, none, 0⟩, rfl, NdIn.nil w, .inl ⟨hc, rfl, rfl⟩⟩
  generalize EvDec c (txt b) = E at *
  clear hc
  obtain ⟨cB, cY, cF, cN, cU, cL, cKy, cV⟩ := c
  unfold cfCs at *
  simp only at *
  go_enter Tryz.func12, Tryz.ntmps12
  go_upto_region 1 with fail
  have HB := Lib.hid (Bx2.new W (.cells #[.int .i64 cB, .int .i64 cY, .int .i64 cF, .int .i64 cN, .int .i64 cU, .int .i64 cL, .int .i64 cKy, .int .i64 cV] 23) (.cells #[.int .i64 0, .slice none 0 0, .slice none 0 0, .slice none 0 0, .slice none 0 0] 29))
  generalize (W.alloc (.cells #[.int .i64 cB, .int .i64 cY, .int .i64 cF, .int .i64 cN, .int .i64 cU, .int .i64 cL, .int .i64 cKy, .int .i64 cV] 23)).alloc (.cells #[.int .i64 0, .slice none 0 0, .slice none 0 0, .slice none 0 0, .slice none 0 0] 29) = w1 at *
  obtain ⟨g, hg⟩ : ∃ g, g = W.heap.size := ⟨_, rfl⟩
  have HG : Hid (W.heap.size ≤ g) := Nat.le_of_eq hg.symm
  rw [← hg] at HB
  simp only [← hg]
  clear hg
  obtain ⟨g0, g1, g2, g3, g4, g5, g6, g7⟩ := box8 HB.out.x
  go_upto_region 2 with (go_at_call 18; refine (cQ _).out.mono ?_; rintro e w2 ⟨rfl, hb⟩; replace HB := Lib.hid (HB.out.kept hb); clear hb cQ g0 g1 g2 g3 g4 g5 g6 g7)
  obtain ⟨y0, y1, y2, y3, y4⟩ := box5 HB.out.y
  have f0 := free5 HB.out.y 0; have f1 := free5 HB.out.y 1; have f2 := free5 HB.out.y 2; have f3 := free5 HB.out.y 3; have f4 := free5 HB.out.y 4
  have HU := Lib.hid (set5_at HB.out.y (.int .i64 0) (.slice none 0 0) (.slice none 0 0) (.slice none 0 0) (.slice none 0 0))
  have HBW := Lib.hid (set5_below HB.out.below (Nat.le_succ_of_le HG.out) (.int .i64 0) (.slice none 0 0) (.slice none 0 0) (.slice none 0 0) (.slice none 0 0))
  unfold set5 at HU HBW
  go_wp2_with fail
  generalize ((((w2.setCell ⟨g + 1, 0, none⟩ (.int .i64 0)).setCell ⟨g + 1, 1, none⟩ (.slice none 0 0)).setCell ⟨g + 1, 2, none⟩ (.slice none 0 0)).setCell ⟨g + 1, 3, none⟩ (.slice none 0 0)).setCell ⟨g + 1, 4, none⟩ (.slice none 0 0) = w91 at *
  clear y0 y1 y2 y3 y4 f0 f1 f2 f3 f4
  obtain ⟨y0, y1, y2, y3, y4⟩ := box5 HU.out
  exact bodyPost_ret (v := .tuple #[.agg #[.int .i64 0, .slice none 0 0, .slice none 0 0, .slice none 0 0, .slice none 0 0], .int .i64 2]) (by simp [results, Tryz.results12, go_sem, y0, y1, y2, y3, y4]) rfl ⟨⟨_, rfl, HN.out⟩, HBW.out⟩
set_option maxRecDepth 100000 in
set_option maxHeartbeats 8000000 in
theorem RDecode_size (c : Cfg) (b : ByteArray) (hc : Cf.Right c.blocks c.bytes c.frames c.fan c.buffer c.leaf c.key c.val) (hb : (b.size : Int) ≠ c.bytes) (W : World) : Calls Tryz.prog 12 #[.agg (cfCs c), .string b] W fun e w' => (∃ v, e = .returned v ∧ EvDec c (txt b) v w') ∧ Below W.heap.size W w' := by
  have cQ : ∀ w, Hid (Calls Tryz.prog 18 #[.agg (cfCs c)] w fun e w' => e = .returned (.bool true) ∧ Below w.heap.size w w') := fun w => Cf.RRight_yes c.blocks c.bytes c.frames c.fan c.buffer c.leaf c.key c.val w hc
  have hno : ∀ m, ¬ (RightA c m ∧ blockL c m = txt b) := fun m hm => by
    have h1 := (block_cand hm.1).1
    rw [hm.2, txt_len] at h1
    obtain ⟨F, B, L, K, V, hs⟩ := set_ok hc
    have := hs.bytes
    omega
  have HN : Hid (∀ {w}, EvDec c (txt b) (.tuple #[.agg #[.int .i64 0, .slice none 0 0, .slice none 0 0, .slice none 0 0, .slice none 0 0], .int .i64 12]) w) := fun {w} => ⟨nilN, 12, ⟨none, 0, none, 0, none, 0, none, 0⟩, rfl, NdIn.nil w, .inr (.inl ⟨hc, hno, rfl, rfl⟩)⟩
  generalize EvDec c (txt b) = E at *
  clear hc hno
  obtain ⟨cB, cY, cF, cN, cU, cL, cKy, cV⟩ := c
  have hne : ((b.size : Int) != cY) = true := by simpa using hb
  unfold cfCs at *
  simp only at *
  clear hb
  go_enter Tryz.func12, Tryz.ntmps12
  go_upto_region 1 with fail
  have HB := Lib.hid (Bx2.new W (.cells #[.int .i64 cB, .int .i64 cY, .int .i64 cF, .int .i64 cN, .int .i64 cU, .int .i64 cL, .int .i64 cKy, .int .i64 cV] 23) (.cells #[.int .i64 0, .slice none 0 0, .slice none 0 0, .slice none 0 0, .slice none 0 0] 29))
  generalize (W.alloc (.cells #[.int .i64 cB, .int .i64 cY, .int .i64 cF, .int .i64 cN, .int .i64 cU, .int .i64 cL, .int .i64 cKy, .int .i64 cV] 23)).alloc (.cells #[.int .i64 0, .slice none 0 0, .slice none 0 0, .slice none 0 0, .slice none 0 0] 29) = w1 at *
  obtain ⟨g, hg⟩ : ∃ g, g = W.heap.size := ⟨_, rfl⟩
  have HG : Hid (W.heap.size ≤ g) := Nat.le_of_eq hg.symm
  rw [← hg] at HB
  simp only [← hg]
  clear hg
  obtain ⟨g0, g1, g2, g3, g4, g5, g6, g7⟩ := box8 HB.out.x
  go_upto_region 4 with (go_at_call 18; refine (cQ _).out.mono ?_; rintro e w2 ⟨rfl, hb⟩; replace HB := Lib.hid (HB.out.kept hb); clear hb cQ g0 g1 g2 g3 g4 g5 g6 g7; obtain ⟨g0, g1, g2, g3, g4, g5, g6, g7⟩ := box8 HB.out.x)
  obtain ⟨y0, y1, y2, y3, y4⟩ := box5 HB.out.y
  have f0 := free5 HB.out.y 0; have f1 := free5 HB.out.y 1; have f2 := free5 HB.out.y 2; have f3 := free5 HB.out.y 3; have f4 := free5 HB.out.y 4
  have HU := Lib.hid (set5_at HB.out.y (.int .i64 0) (.slice none 0 0) (.slice none 0 0) (.slice none 0 0) (.slice none 0 0))
  have HBW := Lib.hid (set5_below HB.out.below (Nat.le_succ_of_le HG.out) (.int .i64 0) (.slice none 0 0) (.slice none 0 0) (.slice none 0 0) (.slice none 0 0))
  unfold set5 at HU HBW
  go_wp2_with fail
  generalize ((((w2.setCell ⟨g + 1, 0, none⟩ (.int .i64 0)).setCell ⟨g + 1, 1, none⟩ (.slice none 0 0)).setCell ⟨g + 1, 2, none⟩ (.slice none 0 0)).setCell ⟨g + 1, 3, none⟩ (.slice none 0 0)).setCell ⟨g + 1, 4, none⟩ (.slice none 0 0) = w91 at *
  clear y0 y1 y2 y3 y4 f0 f1 f2 f3 f4 g0 g1 g2 g3 g4 g5 g6 g7
  obtain ⟨y0, y1, y2, y3, y4⟩ := box5 HU.out
  exact bodyPost_ret (v := .tuple #[.agg #[.int .i64 0, .slice none 0 0, .slice none 0 0, .slice none 0 0, .slice none 0 0], .int .i64 12]) (by simp [results, Tryz.results12, go_sem, y0, y1, y2, y3, y4]) rfl ⟨⟨_, rfl, HN.out⟩, HBW.out⟩
theorem RDecode_any (c : Cfg) (b : ByteArray) (hsz : b.size ≤ 4000) (W : World) : Calls Tryz.prog 12 #[.agg (cfCs c), .string b] W fun e w' => (∃ v, e = .returned v ∧ EvDec c (txt b) v w') ∧ Below W.heap.size W w' := by
  by_cases hc : Cf.Right c.blocks c.bytes c.frames c.fan c.buffer c.leaf c.key c.val
  · by_cases hb : (b.size : Int) = c.bytes
    · exact RDecode_yes c b hc hb hsz W
    · exact RDecode_size c b hc hb W
  · exact RDecode_no c b hc W
end No
end Go.Proofs.YtgpbioljldkmaaaGreat

namespace Go.Proofs.YtgpbioljldkmaaaGreat
open Go.RowKit
namespace No
open Mem Lx Bu Lf Fa
/-- bytes of the call's own: the slice reads as s, and its block may be written -/
structure FrB (w : World) (B : Nat) (A : Option Addr) (s : List UInt8) : Prop where
  bl : BL w A s
  own : 0 < s.length → ∃ (g o : Nat) (C : Array Value), A = some ⟨g, o, none⟩ ∧ B ≤ g ∧ w.heap[g]? = some (.cells C 5 (0, 0))
theorem FrB.kept {w w' : World} {B : Nat} {A : Option Addr} {s : List UInt8} (h : FrB w B A s) (hb : Below w.heap.size w w') : FrB w' B A s := ⟨h.bl.below hb, fun h0 => by
  obtain ⟨g, o, C, e, h1, h2⟩ := h.own h0
  exact ⟨g, o, C, e, h1, kept3 h2 hb⟩⟩
/-- one byte stored -/
theorem bl_set {w : World} {g o k : Nat} {C : Array Value} {U : TypeId} {s : List UInt8} (h : BL w (some ⟨g, o, none⟩) s) (hx : w.heap[g]? = some (.cells C U (0, 0))) (hk : k < s.length) (y : UInt8) : BL (w.setCell ⟨g, o + k, none⟩ (.int .u8 (y.toNat : Int))) (some ⟨g, o, none⟩) (s.set k y) := fun h0 => by
  rw [List.length_set] at h0
  obtain ⟨b', o', e, hc⟩ := h h0
  cases e
  refine ⟨g, o, rfl, fun i hi => ?_⟩
  rw [List.length_set] at hi
  have h1 := hc i hi
  have h2 := hc k hk
  simp only [World.cell?, hx, Option.isSome_none, Bool.false_eq_true, if_false] at h1 h2
  have hcs : o + k < C.size := (Array.getElem?_eq_some_iff.1 h2).1
  simp only [World.cell?, World.setCell, Array.getElem?_modify, hx, if_true, Option.map_some, Option.isSome_none, Bool.false_eq_true, if_false]
  by_cases e : i = k
  · subst e
    simp [byteV, hcs]
  · rw [Array.getElem?_setIfInBounds_ne (by omega), h1]
    rw [List.getElem_set_ne (by omega)]
set_option maxHeartbeats 1000000 in
theorem Light_any (c : Cfg) (W : World) : Calls Tryz.prog 6 #[.agg (cfCs c)] W fun e w' => e = .returned (.bool (decide (c.bytes ≤ 3000))) ∧ Below W.heap.size W w' := by
  obtain ⟨cB, cY, cF, cN, cU, cL, cKy, cV⟩ := c
  unfold cfCs
  have HB : Hid (Below W.heap.size W (W.alloc (.cells #[.int .i64 cB, .int .i64 cY, .int .i64 cF, .int .i64 cN, .int .i64 cU, .int .i64 cL, .int .i64 cKy, .int .i64 cV] 23))) := (Below.refl _ _).alloc (Nat.le_refl _) _
  by_cases h : cY ≤ 3000
  · have HR : Hid (decide (cY ≤ 3000) = true) := decide_eq_true h
    go_enter Tryz.func6, Tryz.ntmps6
    go_wp2_with fail
    go_ret
    exact ⟨by rw [HR.out]; rfl, HB.out⟩
  · have HR : Hid (decide (cY ≤ 3000) = false) := decide_eq_false h
    have h2 : (3000 : Int) < cY := by omega
    clear h
    go_enter Tryz.func6, Tryz.ntmps6
    go_wp2_with fail
    go_ret
    exact ⟨by rw [HR.out]; rfl, HB.out⟩
/-! ### the page's example -/
def cC : Cfg := ⟨9, 200, 8, 8, 16, 16, 2, 1⟩
def cN : Nd := ⟨0, [], [], [], [(⟨#[97]⟩, ⟨#[55]⟩)]⟩
theorem c_right : RightA cC cN := by
  refine ⟨by unfold Cf.Right Cf.Shape Cf.few Cf.inn Cf.out cC; decide, fun _ => ⟨fun p hp => ?_, rfl, rfl, rfl, by decide, fun i a b ha hb => ?_⟩, fun h => absurd rfl h⟩
  · obtain rfl : p = (⟨#[97]⟩, ⟨#[55]⟩) := by simpa [cN] using hp
    exact ⟨by decide +kernel, by decide +kernel, by decide +kernel⟩
  · match i, ha, hb with
    | 0, _, hb => simp [cN] at hb
    | i + 1, ha, _ => simp [cN] at ha
theorem c_block : (blockL cC cN).take 15 = [1, 0, 0, 1, 0, 0, 0, 0, 1, 0, 1, 97, 0, 55, 0] ∧ (blockL cC cN).length = 200 := by
  refine ⟨by decide +kernel, ?_⟩
  rw [(block_cand c_right).1]
  rfl
theorem c_sz : Sz cN := ⟨by decide +kernel, by decide +kernel, by decide +kernel, by decide, by decide, by decide, by decide⟩
theorem c_enc : EncP cC cN (blockL cC cN) 0 := .inr (.inr ⟨c_right, rfl, rfl⟩)
theorem c_dec : DecP cC (blockL cC cN) cN 0 := .inr (.inr ⟨c_right, rfl, rfl⟩)
end No
end Go.Proofs.YtgpbioljldkmaaaGreat
