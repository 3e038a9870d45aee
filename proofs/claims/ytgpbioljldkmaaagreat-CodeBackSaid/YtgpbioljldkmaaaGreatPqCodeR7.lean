/-
  CodeR7. Put together by pack.py.
-/
import Derived.Test.YtgpbioljldkmaaaGreatPkAT

namespace Go.Proofs.YtgpbioljldkmaaaGreat
open Go.RowKit
namespace No
open Mem Lx Bu Lf Fa
open Wd (be val be_length val_be isW)
theorem kdinfD : (Tryz.prog.info? 59).map (fun i => (i.zero, i.size, i.bytes)) = some (some (.int .u32 0), 1, 4) := by kernel_rfl
theorem stinfD : (Tryz.prog.info? 9).map (fun i => (i.zero, i.size, i.bytes)) = some (some (.string ⟨#[]⟩), 1, 16) := by kernel_rfl
theorem at_any_lt (b : List UInt8) (i w : Nat) : atL b i w < 256 ^ w := by
  have h1 := Wd.val_lt ((b.drop i).take w)
  exact Nat.lt_of_lt_of_le h1 (Nat.pow_le_pow_right (by decide) (List.length_take_le _ _))
theorem sub_le (b : List UInt8) (i n : Nat) : (strOf (subL b i n)).size ≤ b.length := by
  rw [strOf_size]
  unfold subL
  rw [List.length_take, List.length_drop]
  omega
theorem at_one {b : ByteArray} {i : Nat} (h : i < b.size) : atL (txt b) i 1 = b[i].toNat := by
  have h1 := at_succ (b := b) (i := i) (k := 0) (by omega)
  have h0 : atL (txt b) i 0 = 0 := by
    unfold atL
    rw [List.take_zero]
    rfl
  rw [h1, h0]
  simp
theorem cand_sz {c : Cfg} {b : List UInt8} (hb : b.length ≤ 4000) (hk : 1 ≤ c.key.toNat) (hf : c.fan.toNat ≤ 64) : Sz (candN c b) ∧ ∀ k, k ∈ (candN c b).kids → k < 4294967296 := by
  have hm : ∀ cnt i S, 4 ≤ S → manyF cnt i S b.length ≤ 1000 := fun cnt i S hS => by
    unfold manyF
    refine Nat.le_trans (Nat.min_le_right _ _) ?_
    refine Nat.le_trans (Nat.div_le_div_left hS (by decide)) ?_
    omega
  have hsz : ∀ i n, (strOf (subL b i n)).size ≤ maxLen := fun i n => Nat.le_trans (sub_le b i n) (Nat.le_trans hb (by decide))
  unfold candN
  split
  · refine ⟨⟨(fun p hp => by cases hp), (fun p hp => by cases hp), fun p hp => ?_, Nat.zero_le _, Nat.zero_le _, Nat.zero_le _, ?_⟩, (fun k hk => by cases hk)⟩
    · obtain ⟨j, -, rfl⟩ := List.mem_map.1 hp
      exact hsz _ _
    · rw [List.length_map, List.length_range]
      exact hm _ _ _ (by omega)
  · refine ⟨⟨fun p hp => ?_, fun p hp => ?_, (fun p hp => by cases hp), ?_, ?_, ?_, Nat.zero_le _⟩, fun k hk => ?_⟩
    · obtain ⟨j, -, rfl⟩ := List.mem_map.1 hp
      exact hsz _ _
    · obtain ⟨j, -, rfl⟩ := List.mem_map.1 hp
      exact hsz _ _
    · simp only [List.length_map, List.length_range]
      omega
    · simp only [List.length_map, List.length_range]
      omega
    · simp only [List.length_map, List.length_range]
      exact hm _ _ _ (by omega)
    · obtain ⟨j, -, rfl⟩ := List.mem_map.1 hk
      exact at_any_lt b _ 4
set_option maxRecDepth 100000 in
set_option maxHeartbeats 64000000 in
theorem RDecode_yes (c : Cfg) (b : ByteArray) (hc : Cf.Right c.blocks c.bytes c.frames c.fan c.buffer c.leaf c.key c.val) (hb : (b.size : Int) = c.bytes) (hsz : b.size ≤ 4000) (W : World) : Calls Tryz.prog 12 #[.agg (cfCs c), .string b] W fun e w' => (∃ v, e = .returned v ∧ EvDec c (txt b) v w') ∧ Below W.heap.size W w' := by
  obtain ⟨F, BB, LL, K, V, hs⟩ := set_ok hc
  have hk := hs.key
  have hv := hs.val
  have hf := hs.fan
  have hk2 := hs.k
  have hv2 := hs.v
  have hf2 := hs.f
  have hin := hs.inn
  have hb1 := hs.bytes
  have hK : c.key.toNat = K := by rw [hk]; rfl
  have hF : c.fan.toNat = F := by rw [hf]; rfl
  have hV : c.val.toNat = V := by rw [hv]; rfl
  obtain ⟨hcs, hckid⟩ := cand_sz (c := c) (b := txt b) hsz (by omega) (by omega)
  obtain ⟨t, ht⟩ := bool_of (RightA c (candN c (txt b)))
  obtain ⟨q, hq⟩ := bool_of (blockL c (candN c (txt b)) = txt b)
  have cQ : ∀ w, Hid (Calls Tryz.prog 18 #[.agg (cfCs c)] w fun e w' => e = .returned (.bool true) ∧ Below w.heap.size w w') := fun w => Cf.RRight_yes c.blocks c.bytes c.frames c.fan c.buffer c.leaf c.key c.val w hc
  have cR : ∀ w z, NdIn w (candN c (txt b)) z → Hid (Calls Tryz.prog 14 #[.agg (cfCs c), .agg (ndCs (candN c (txt b)) z)] w fun e w' => e = .returned (.bool t) ∧ Below w.heap.size w w') := fun w z h => CRight_any c h hcs hckid t ht
  have cBl : t = true → ∀ w z, NdIn w (candN c (txt b)) z → Hid (Calls Tryz.prog 19 #[.agg (cfCs c), .agg (ndCs (candN c (txt b)) z)] w fun e w' => e = .returned (.string (strOf (blockL c (candN c (txt b))))) ∧ Below w.heap.size w w') := fun h1 w z h => RBlock_any c h (ht.1 h1)
  have HEQ : Hid ((strOf (blockL c (candN c (txt b)))).toList = b.toList ↔ q = true) := by
    unfold Hid
    rw [hq, Lib.toList_data, Lib.toList_data]
    exact Iff.rfl
  have HY : Hid (∀ {w z}, t = true → q = true → NdIn w (candN c (txt b)) z → EvDec c (txt b) (.tuple #[.agg (ndCs (candN c (txt b)) z), .int .i64 0]) w) := fun {w z} h1 h2 h => ⟨_, _, z, rfl, h, .inr (.inr ⟨ht.1 h1, hq.1 h2, rfl⟩)⟩
  have hno : (t && q) = false → ∀ m, ¬ (RightA c m ∧ blockL c m = txt b) := fun h1 m hm => by
    have e1 : candN c (txt b) = m := by rw [← hm.2, (block_cand hm.1).2]
    have e2 : t = true := ht.2 (by rw [e1]; exact hm.1)
    have e3 : q = true := hq.2 (by rw [e1]; exact hm.2)
    rw [e2, e3] at h1
    cases h1
  have HN : Hid (∀ {w}, (t && q) = false → EvDec c (txt b) (.tuple #[.agg #[.int .i64 0, .slice none 0 0, .slice none 0 0, .slice none 0 0, .slice none 0 0], .int .i64 12]) w) := fun {w} h1 => ⟨nilN, 12, ⟨none, 0, none, 0, none, 0, none, 0⟩, rfl, NdIn.nil w, .inr (.inl ⟨hc, hno h1, rfl, rfl⟩)⟩
  have cAt := fun (i w : Nat) (hw : w ≤ 4) (h : i + w ≤ b.size) (W : World) => Lib.hid (RAt_any b i w hw h (by omega) W)
  have cSub := fun (i n : Nat) (hi : i ≤ 1000000) (hn : n ≤ 1000000) (W : World) => Lib.hid (RSub_any b i n (by omega) hi hn W)
  have HIX : Hid (∀ i : Nat, i < b.size → ∀ w, (Instr.index 9 (.string b) (.int .i64 (i : Int))).run Tryz.prog w = .ok (.int .u8 (atL (txt b) i 1 : Int)) w) := fun i hi w => by
    rw [run_index_string w _ b .i64 _ Tryz.underlying9, dif_pos ⟨by omega, by omega⟩, at_one hi]
    rfl
  generalize hE : EvDec c (txt b) = E at *
  obtain ⟨tb, htb⟩ : ∃ tb, tb = txt b := ⟨_, rfl⟩
  have HTB := Lib.hid htb
  rw [← htb] at cAt cSub HIX
  have HTL : Hid (tb.length = b.size) := by unfold Hid; rw [htb, txt_len]
  rw [← htb] at cR cBl HY HEQ hcs hckid ht hq
  obtain ⟨cand, hcand⟩ : ∃ n, n = candN c tb := ⟨_, rfl⟩
  have HC := Lib.hid hcand
  rw [← hcand] at cR cBl HY HEQ hcs hckid ht hq
  obtain ⟨bk, hbk⟩ : ∃ x, x = strOf (blockL c cand) := ⟨_, rfl⟩
  rw [← hbk] at cBl HEQ
  obtain ⟨m, hm⟩ : ∃ m, m = b.size := ⟨_, rfl⟩
  have HM := Lib.hid hm
  rw [← hm] at hb hsz HTL HIX
  have cA1 : ∀ W, Hid (Calls Tryz.prog 21 #[.string b, .int .i64 1, .int .i64 1] W fun e w' => e = .returned (.int .i64 (atL tb 1 1 : Int)) ∧ Below W.heap.size W w') := fun W => cAt 1 1 (by decide) (by omega) W
  have cA2 : ∀ W, Hid (Calls Tryz.prog 21 #[.string b, .int .i64 2, .int .i64 2] W fun e w' => e = .returned (.int .i64 (atL tb 2 2 : Int)) ∧ Below W.heap.size W w') := fun W => cAt 2 2 (by decide) (by omega) W
  have cA3 : ∀ W, Hid (Calls Tryz.prog 21 #[.string b, .int .i64 4, .int .i64 2] W fun e w' => e = .returned (.int .i64 (atL tb 4 2 : Int)) ∧ Below W.heap.size W w') := fun W => cAt 4 2 (by decide) (by omega) W
  have hx1 := at_any_lt tb 1 1
  have hx2 := at_any_lt tb 2 2
  have hx3 := at_any_lt tb 4 2
  obtain ⟨lvl, hlvl⟩ : ∃ x, x = atL tb 1 1 := ⟨_, rfl⟩
  obtain ⟨cnt, hcnt⟩ : ∃ x, x = atL tb 2 2 := ⟨_, rfl⟩
  obtain ⟨bc, hbc⟩ : ∃ x, x = atL tb 4 2 := ⟨_, rfl⟩
  rw [← hlvl] at cA1 hx1
  rw [← hcnt] at cA2 hx2
  rw [← hbc] at cA3 hx3
  have HLV := Lib.hid hlvl
  have HCN := Lib.hid hcnt
  have HBC := Lib.hid hbc
  have HCL : Hid (∃ fp : Nat → Pr, (∀ i k, i = 8 + k * (3 + K + V) → fp k = (strOf (subL tb (i + 3) (atL tb i 1)), strOf (subL tb (i + 3 + K) (atL tb (i + 1) 2)))) ∧ (lvl = 0 → cand = ⟨0, [], [], [], rgF fp (manyF cnt 8 (3 + K + V) m)⟩)) := by
    refine ⟨fun k => prAt c tb (8 + k * (3 + K + V)), fun i k hi => ?_, fun h0 => ?_⟩
    · rw [hi]
      unfold prAt
      rw [hK]
    · rw [hcand]
      unfold candN
      rw [← hlvl, ← hcnt, if_pos h0, hK, hV, HTL.out]
      rfl
  have HCI : Hid (∃ (fk : Nat → Nat) (fv : Nat → ByteArray) (fm : Nat → Mg), (∀ i k, i = 8 + 4 * k → fk k = atL tb i 4) ∧ (∀ i k, i = 8 + 4 * F + (1 + K) * k → fv k = strOf (subL tb (i + 1) (atL tb i 1))) ∧ (∀ i k, i = 8 + 4 * F + (1 + K) * (F - 1) + k * (4 + K + V) → fm k = (strOf (subL tb (i + 4) (atL tb (i + 1) 1)), decide (atL tb i 1 = 2), strOf (subL tb (i + 4 + K) (atL tb (i + 2) 2)))) ∧
      (lvl ≠ 0 → cand = ⟨lvl, rgF fk (min cnt F), rgF fv (min (cnt - 1) (F - 1)), rgF fm (manyF bc (8 + 4 * F + (1 + K) * (F - 1)) (4 + K + V) m), []⟩)) := by
    refine ⟨fun k => atL tb (8 + k * 4) 4, fun k => pvAt tb (8 + 4 * F + k * (1 + K)), fun k => msAt c tb (8 + 4 * F + (1 + K) * (F - 1) + k * (4 + K + V)), fun i k hi => ?_, fun i k hi => ?_, fun i k hi => ?_, fun h0 => ?_⟩
    · rw [hi, Nat.mul_comm 4 k]
    · rw [hi, Nat.mul_comm (1 + K) k]
      rfl
    · rw [hi]
      unfold msAt
      rw [hK]
    · rw [hcand]
      unfold candN
      rw [← hlvl, ← hcnt, ← hbc, if_neg h0, hK, hV, hF, HTL.out]
      rfl
  have hlc : ∀ z : At, ndCs cand z = #[.int .i64 cand.lv, .slice z.kA cand.kids.length z.kc, .slice z.pA cand.piv.length z.pc, .slice z.bA cand.buf.length z.bc, .slice z.qA cand.prs.length z.qc] := fun z => rfl
  clear hno hlvl hcnt hbc htb hcand hbk hE hs hcs hckid ht hq hc hm
  obtain ⟨cB, cY, cF, cN, cU, cL, cKy, cV⟩ := c
  unfold cfCs at *
  simp only at *
  subst hk
  subst hv
  subst hf
  subst hb
  go_enter Tryz.func12, Tryz.ntmps12
  go_upto_region 1 with fail
  have HB := Lib.hid (Bx2.new W (.cells #[.int .i64 cB, .int .i64 (m : Int), .int .i64 cF, .int .i64 (F : Int), .int .i64 cU, .int .i64 cL, .int .i64 (K : Int), .int .i64 (V : Int)] 23) (.cells #[.int .i64 0, .slice none 0 0, .slice none 0 0, .slice none 0 0, .slice none 0 0] 29))
  generalize (W.alloc (.cells #[.int .i64 cB, .int .i64 (m : Int), .int .i64 cF, .int .i64 (F : Int), .int .i64 cU, .int .i64 cL, .int .i64 (K : Int), .int .i64 (V : Int)] 23)).alloc (.cells #[.int .i64 0, .slice none 0 0, .slice none 0 0, .slice none 0 0, .slice none 0 0] 29) = w1 at *
  obtain ⟨g, hg⟩ : ∃ g, g = W.heap.size := ⟨_, rfl⟩
  have HG : Hid (W.heap.size ≤ g) := Nat.le_of_eq hg.symm
  rw [← hg] at HB
  simp only [← hg]
  clear hg
  obtain ⟨g0, g1, g2, g3, g4, g5, g6, g7⟩ := box8 HB.out.x
  obtain ⟨d0, d1, d2, d3, d4⟩ := box5 HB.out.y
  have hml : (b.size : Int) = (m : Int) := by rw [HM.out]
  go_upto_region 6 with (first
    | (go_at_call 18; refine (cQ _).out.mono ?_; rintro e w2 ⟨rfl, hb⟩; replace HB := Lib.hid (HB.out.kept hb); clear hb cQ g0 g1 g2 g3 g4 g5 g6 g7 d0 d1 d2 d3 d4; obtain ⟨g0, g1, g2, g3, g4, g5, g6, g7⟩ := box8 HB.out.x; obtain ⟨d0, d1, d2, d3, d4⟩ := box5 HB.out.y)
    | (go_at_call 21; refine (cA1 _).out.mono ?_; rintro e w3 ⟨rfl, hb⟩; replace HB := Lib.hid (HB.out.kept hb); clear hb cA1 g0 g1 g2 g3 g4 g5 g6 g7 d0 d1 d2 d3 d4; obtain ⟨g0, g1, g2, g3, g4, g5, g6, g7⟩ := box8 HB.out.x; obtain ⟨d0, d1, d2, d3, d4⟩ := box5 HB.out.y))
  clear g0 g1 g2 g3 g4 g5 g6 g7 d0 d1 d2 d3 d4
  have hbx := heap_alloc_new w3 (.cells #[.int .i64 (lvl : Int), .slice none 0 0, .slice none 0 0, .slice none 0 0, .slice none 0 0] 29)
  have hbl : Below w3.heap.size w3 (w3.alloc (.cells #[.int .i64 (lvl : Int), .slice none 0 0, .slice none 0 0, .slice none 0 0, .slice none 0 0] 29)) := (Below.refl _ _).alloc (Nat.le_refl _) _
  generalize w3.alloc (.cells #[.int .i64 (lvl : Int), .slice none 0 0, .slice none 0 0, .slice none 0 0, .slice none 0 0] 29) = w0 at *
  obtain ⟨s, hs⟩ : ∃ s, s = w3.heap.size := ⟨_, rfl⟩
  have h3g := (Array.getElem?_eq_some_iff.1 HB.out.y).1
  have h3W := HB.out.below.size
  rw [← hs] at hbx h3g h3W
  simp only [← hs]
  have HD : Hid (Dc W w0 g s (.cells #[.int .i64 cB, .int .i64 (m : Int), .int .i64 cF, .int .i64 (F : Int), .int .i64 cU, .int .i64 cL, .int .i64 (K : Int), .int .i64 (V : Int)] 23) (.cells #[.int .i64 0, .slice none 0 0, .slice none 0 0, .slice none 0 0, .slice none 0 0] 29) (.cells #[.int .i64 (lvl : Int), .slice none 0 0, .slice none 0 0, .slice none 0 0, .slice none 0 0] 29) w0) := ⟨HB.out.kept hbl, hbx, HG.out, by have := (Array.getElem?_eq_some_iff.1 hbx).1; omega, (Array.getElem?_eq_some_iff.1 hbx).1, Nat.le_refl _, h3W, by omega, by omega⟩
  clear hbx hbl hs h3g h3W HB HG
  obtain ⟨g0, g1, g2, g3, g4, g5, g6, g7⟩ := box8 HD.out.bx.x
  obtain ⟨d0, d1, d2, d3, d4⟩ := box5 HD.out.box
  go_upto_region 8 with (first
    | (go_at_call 21; refine (cA2 _).out.mono ?_; rintro e w4 ⟨rfl, hb⟩; replace HD := Lib.hid (HD.out.kept hb); clear hb cA2 g0 g1 g2 g3 g4 g5 g6 g7 d0 d1 d2 d3 d4; obtain ⟨g0, g1, g2, g3, g4, g5, g6, g7⟩ := box8 HD.out.bx.x; obtain ⟨d0, d1, d2, d3, d4⟩ := box5 HD.out.box)
    | (go_at_call 21; refine (cA3 _).out.mono ?_; rintro e w5 ⟨rfl, hb⟩; replace HD := Lib.hid (HD.out.kept hb); clear hb cA3 g0 g1 g2 g3 g4 g5 g6 g7 d0 d1 d2 d3 d4; obtain ⟨g0, g1, g2, g3, g4, g5, g6, g7⟩ := box8 HD.out.bx.x; obtain ⟨d0, d1, d2, d3, d4⟩ := box5 HD.out.box))
  go_upto_if 33 with fail
  go_cut [] (fun wx => ∃ z : At, Hid (wx.heap[s]? = some (.cells #[.int .i64 cand.lv, .slice z.kA cand.kids.length z.kc, .slice z.pA cand.piv.length z.pc, .slice z.bA cand.buf.length z.bc, .slice z.qA cand.prs.length z.qc] 29)) ∧ Hid (NdIn wx cand z) ∧ Hid (Bx2 W g (.cells #[.int .i64 cB, .int .i64 (m : Int), .int .i64 cF, .int .i64 (F : Int), .int .i64 cU, .int .i64 cL, .int .i64 (K : Int), .int .i64 (V : Int)] 23) (.cells #[.int .i64 0, .slice none 0 0, .slice none 0 0, .slice none 0 0, .slice none 0 0] 29) wx) ∧ Hid (W.heap.size ≤ g ∧ g + 1 ≠ s))
  case first =>
    by_cases e0 : lvl = 0
    · have hz : ((lvl : Int) == 0) = true := by rw [e0]; rfl
      have HE0 := Lib.hid e0
      rw [hz]
      clear hz
      obtain ⟨fp, hfp, hcl⟩ := HCL.out
      have HFP := Lib.hid hfp
      have HCE := Lib.hid (hcl e0)
      obtain ⟨S, hS⟩ : ∃ S, S = 3 + K + V := ⟨_, rfl⟩
      rw [← hS] at HFP HCE
      obtain ⟨M, hM⟩ : ∃ M, M = manyF cnt 8 S m := ⟨_, rfl⟩
      rw [← hM] at HCE
      have HMY : Hid (∀ k, k < M ↔ k < cnt ∧ 8 + k * S + S ≤ m) := fun k => by rw [hM]; exact many_lt (by omega)
      have hMc : M ≤ cnt := by rw [hM]; exact Nat.min_le_left _ _
      have HSS := Lib.hid hS
      clear e0 hfp hcl HCL HCI hM hS
      go_wp2_with fail
      go_loopg [9, 10] M (fun gk iv kv wr => ∃ (k i cc : Nat) (A : Option Addr), k ≤ M ∧ gk = M - k ∧ kv = .int .i64 (k : Int) ∧ iv = .int .i64 (i : Int) ∧ i ≤ m ∧ Hid (i = 8 + k * S) ∧ Hid (Dc W w0 g s (.cells #[.int .i64 cB, .int .i64 (m : Int), .int .i64 cF, .int .i64 (F : Int), .int .i64 cU, .int .i64 cL, .int .i64 (K : Int), .int .i64 (V : Int)] 23) (.cells #[.int .i64 0, .slice none 0 0, .slice none 0 0, .slice none 0 0, .slice none 0 0] 29) (.cells #[.int .i64 (lvl : Int), .slice none 0 0, .slice none 0 0, .slice none 0 0, .slice A k cc] 29) wr) ∧ Hid (VK PrK wr w0.heap.size A cc (rgF fp k)))
      case atStart => exact ⟨0, 8, 0, none, Nat.zero_le _, rfl, rfl, rfl, by omega, by unfold Hid; omega, HD, VK.nil _ _⟩
      case round =>
        clear HD
        obtain ⟨k, i, cc, A, hk, rfl, rfl, rfl, him, HI, HD, HV⟩ := hrel
        obtain ⟨g0, g1, g2, g3, g4, g5, g6, g7⟩ := box8 HD.out.bx.x
        obtain ⟨d0, d1, d2, d3, d4⟩ := box5 HD.out.box
        have hSx := HSS.out
        have hKM := HMY.out k
        rw [← HI.out] at hKM
        have hi3 : IntKind.i64.wrap ((i : Int) + 3) = ((i + 3 : Nat) : Int) := by rw [IntKind.wrap_i64]; omega
        have hi4 : IntKind.i64.wrap (((i + 3 : Nat) : Int) + (K : Int)) = ((i + 3 + K : Nat) : Int) := by rw [IntKind.wrap_i64]; omega
        have hi5 : IntKind.i64.wrap (((i + 3 + K : Nat) : Int) + (V : Int)) = ((i + S : Nat) : Int) := by rw [IntKind.wrap_i64]; omega
        have hk1 : IntKind.i64.wrap ((k : Int) + 1) = ((k + 1 : Nat) : Int) := by rw [IntKind.wrap_i64]; omega
        have hi1 : IntKind.i64.wrap ((i : Int) + 1) = ((i + 1 : Nat) : Int) := by rw [IntKind.wrap_i64]; omega
        by_cases hlt : k < M
        · obtain ⟨hl1, hl2⟩ := hKM.1 hlt
          have hf1 := at_any_lt tb i 1
          have hf2 := at_any_lt tb (i + 1) 2
          have c1 := cAt i 1 (by decide) (by omega)
          have c2 := cSub (i + 3) (atL tb i 1) (by omega) (by omega)
          have c3 := cAt (i + 1) 2 (by decide) (by omega)
          have c4 := cSub (i + 3 + K) (atL tb (i + 1) 2) (by omega) (by omega)
          obtain ⟨key, hkey⟩ : ∃ x, x = strOf (subL tb (i + 3) (atL tb i 1)) := ⟨_, rfl⟩
          obtain ⟨val', hval⟩ : ∃ x, x = strOf (subL tb (i + 3 + K) (atL tb (i + 1) 2)) := ⟨_, rfl⟩
          have HY2 : Hid (fp k = (key, val')) := by
            unfold Hid
            rw [HFP.out i k HI.out, hkey, hval]
          have HY3 : Hid (rgF fp k ++ [(key, val')] = rgF fp (k + 1)) := rgF_succ fp k HY2.out
          rw [← hkey] at c2
          rw [← hval] at c4
          clear hkey hval HY2 hf1 hf2
          generalize atL tb i 1 = kl at *
          generalize atL tb (i + 1) 2 = vl at *
          have hlen : ((i + S : Nat) : Int) ≤ (m : Int) := by omega
          have hlt2 : (k : Int) < (cnt : Int) := by omega
          have hI2 : Hid (i + S = 8 + (k + 1) * S) := by
            unfold Hid
            rw [HI.out, Nat.succ_mul]
            omega
          have him2 : i + S ≤ m := by omega
          have hkM : k + 1 ≤ 4000 := by
            have h8 := HI.out
            have h9 : k * 4 ≤ k * S := Nat.mul_le_mul_left k (by omega)
            omega
          clear hKM hl1 hl2 hSx
          generalize i + S = i5 at *
          generalize i + 3 + K = i4 at *
          generalize i + 3 = i3 at *
          generalize i + 1 = i1 at *
          have HY := HY3
          go_upto_region 12 with fail
          obtain ⟨SS, hS1, hS2⟩ := VK.blocks HV.out
          have hS3 : ∀ k, k ∈ SS → k < wr.heap.size := fun k hk => (hS2 k hk).2
          have hbig : ∀ k, k < w0.heap.size → k ∉ SS := fun k hk hm => by
            have := (hS2 k hm).1
            omega
          have hgS : g ∉ SS := hbig g (Nat.lt_of_succ_lt HD.out.lo)
          have hsS : s ∉ SS := hbig s HD.out.ls
          have HS1 := Lib.hid hS1
          have hm1 : k + 1 ≤ 1048576 := by omega
          have tg6 := fun q : Drift.Tide SS wr [] => Drift.Tide.cell g6 hgS q
          have td := fun q : Drift.Tide SS wr [] => Drift.Tide.cell d4 hsS q
          clear hbig hgS hsS hS1 hS2 g0 g1 g2 g3 g4 g5 g6 g7 d0 d1 d2 d3 d4
          refine Drift.wp_region_drift SS [(0,[]),(1,[]),(2,[]),(3,[]),(4,[]),(5,[]),(6,[]),(7,[]),(8,[]),(9,[]),(10,[]),(11,[]),(12,[]),(13,[]),(14,[]),(15,[]),(16,[]),(17,[]),(18,[]),(19,[]),(20,[]),(21,[]),(22,[])] [22] [21] (by kernel_rfl) (by kernel_rfl) hS3 ?_
          clear hS3
          simp only [Drift.pick, Drift.opsAt, List.getElem?_toArray, List.getElem?_cons_zero, List.getElem?_cons_succ, List.cons_append, List.nil_append, List.filterMap_nil]
          iterate 7 (refine Drift.walk_step (fun K hK => ?_); go_simp; (refine hK _ ?_; clear hK K))
          refine Drift.walk_step (fun K hK => ?_); go_simp; (apply Exists.intro; refine ⟨fun q => ?_, hK _ ?_⟩; (go_at_call 21; exact (c1 _).out); clear hK K)
          refine Drift.walk_step (fun K hK => ?_); go_simp; (apply Exists.intro; refine ⟨fun q => ?_, hK _ ?_⟩; (go_at_call 22; exact (c2 _).out); clear hK K)
          iterate 9 (refine Drift.walk_step (fun K hK => ?_); go_simp; (refine hK _ ?_; clear hK K))
          refine Drift.walk_step (fun K hK => ?_); go_simp; (apply Exists.intro; refine ⟨fun q => ?_, hK _ ?_⟩; (go_at_call 21; exact (c3 _).out); clear hK K)
          refine Drift.walk_step (fun K hK => ?_); go_simp; (apply Exists.intro; refine ⟨fun q => ?_, hK _ ?_⟩; (go_at_call 22; exact (c4 _).out); clear hK K)
          iterate 1 (refine Drift.walk_step (fun K hK => ?_); go_simp; (refine hK _ ?_; clear hK K))
          refine Drift.walk_make rfl Drift.mkwalk_nil (fun b => .slice (some ⟨b, 0, none⟩) 1 1) (.cells #[.string key, .string val'] 51) (fun W => by go_simp) (fun b1 hb1 hT1 => ?_)
          refine Drift.walk_event rfl Drift.mkwalk_nil (EvApp PrK w0.heap.size wr A (k + 1) (rgF fp k ++ [(key, val')])) (fun W2 hk hl2 => ?_) (fun v w5 hv hI _ hTd => ?_)
          · exact evAt_appW (K := PrK) Tryz.underlying27 prinfo rfl (by decide) (by decide) (.tmp 53) (.tmp 73) rfl w0.heap.size A k cc (rgF fp k) rfl (rgF_len _ _) HV.out hk b1 1 ((key, val')) rfl (hl2 (b1, .cells #[.string key, .string val'] 51) (by simp)) hm1 HD.out.size HS1.out
          obtain ⟨A5, c5, rfl, hd5⟩ := hv
          have HD5 := Lib.hid hd5
          clear hI hd5 hTd
          refine Drift.walk_nil ?_
          intro w6 hb6 _
          have HD6 := Lib.hid (HD5.out.then_ hb6 (Nat.le_trans HD.out.size HD5.out.below.size))
          have hnew := HD6.out.vo
          rw [HY.out] at hnew
          replace HV := Lib.hid (vk_setb (b := s) (i := 4) hnew (.slice A5 (k + 1) c5) HD.out.ls)
          replace HD := Lib.hid (HD.out.grow HD6.out.below)
          have hbx := HD.out.box
          obtain ⟨u0, u1, u2, u3, u4⟩ := box5 hbx
          have fr := free5 hbx 4
          replace HD := Lib.hid (HD.out.set (i := 4) (.slice A5 (k + 1) c5) (.cells #[.int .i64 (lvl : Int), .slice none 0 0, .slice none 0 0, .slice none 0 0, .slice A5 (k + 1) c5] 29) (by simp [World.setCell, Array.getElem?_modify, hbx]))
          clear hb6 HD5 HD6 td tg6 hT1 HS1 hnew hbx HY
          simp only [List.length_cons, List.length_nil, List.drop_succ_cons, List.drop_zero, Nat.zero_add, Nat.reduceAdd]
          go_upto_region 13 with fail
          clear u0 u1 u2 u3 u4 fr
          generalize w6.setCell ⟨s, 4, none⟩ (.slice A5 (k + 1) c5) = w7 at *
          obtain ⟨g0, g1, g2, g3, g4, g5, g6, g7⟩ := box8 HD.out.bx.x
          obtain ⟨d0, d1, d2, d3, d4⟩ := box5 HD.out.box
          go_wp2_with fail
          go_roundg (M - (k + 1))
          case measure => omega
          case rel => exact ⟨k + 1, i5, c5, A5, hlt, rfl, by go_num, rfl, him2, hI2, HD, HV⟩
        · obtain rfl : M = k := by omega
          have HBX : Hid (wr.heap[s]? = some (.cells #[.int .i64 cand.lv, .slice (none : Option Addr) cand.kids.length 0, .slice (none : Option Addr) cand.piv.length 0, .slice (none : Option Addr) cand.buf.length 0, .slice A cand.prs.length cc] 29)) := by
            have := HD.out.box
            unfold Hid
            rw [HCE.out]
            rw [HE0.out] at this
            simp only [rgF_len]
            exact this
          have HND : Hid (NdIn wr cand ⟨none, 0, none, 0, none, 0, A, cc⟩) := by
            unfold Hid
            rw [HCE.out]
            exact ⟨RC.nil _ _ _, RC.nil _ _ _, RC.nil _ _ _, HV.out.rc⟩
          have HFB := Lib.hid HD.out.bx
          have HFS := Lib.hid (⟨HD.out.at_, HD.out.sne.2.2⟩ : W.heap.size ≤ g ∧ g + 1 ≠ s)
          clear hSx HFP HMY HSS hMc hi1 hk1 HD HV HI
          by_cases h1 : M < cnt
          · have h2 : (m : Int) < ((i + S : Nat) : Int) := by
              have h3 : ¬ (i + S ≤ m) := fun h4 => hlt (hKM.2 ⟨h1, h4⟩)
              omega
            have h1' : (M : Int) < (cnt : Int) := by omega
            clear h1 hlt hKM
            generalize i + S = i5 at *
            generalize i + 3 + K = i4 at *
            generalize i + 3 = i3 at *
            go_wp2_with fail
            go_meet
            exact ⟨⟨none, 0, none, 0, none, 0, A, cc⟩, HBX, HND, HFB, HFS⟩
          · have h1' : (cnt : Int) ≤ (M : Int) := by omega
            clear h1 hlt hKM
            go_wp2_with fail
            go_meet
            exact ⟨⟨none, 0, none, 0, none, 0, A, cc⟩, HBX, HND, HFB, HFS⟩
    · have hz : ((lvl : Int) == 0) = false := by
        have h9 : (lvl : Int) ≠ 0 := by omega
        simpa using h9
      rw [hz]
      clear hz
      obtain ⟨fk, fv, fm, hfk, hfv, hfm, hcl⟩ := HCI.out
      have HFK := Lib.hid hfk
      have HFV := Lib.hid hfv
      have HFM := Lib.hid hfm
      have HCE := Lib.hid (hcl e0)
      obtain ⟨M1, hM1⟩ : ∃ M, M = min cnt F := ⟨_, rfl⟩
      obtain ⟨M2, hM2⟩ : ∃ M, M = min (cnt - 1) (F - 1) := ⟨_, rfl⟩
      obtain ⟨S, hS⟩ : ∃ S, S = 4 + K + V := ⟨_, rfl⟩
      obtain ⟨i2, hi2⟩ : ∃ i, i = 8 + 4 * F := ⟨_, rfl⟩
      obtain ⟨i9, hi9⟩ : ∃ i, i = i2 + (1 + K) * (F - 1) := ⟨_, rfl⟩
      obtain ⟨M3, hM3⟩ : ∃ M, M = manyF bc i9 S m := ⟨_, rfl⟩
      rw [← hi2] at HFV HFM HCE hin
      rw [← hi9] at HFM HCE hin
      rw [← hS] at HFM HCE
      rw [← hM1, ← hM2, ← hM3] at HCE
      have hMY : ∀ k, k < M3 ↔ k < bc ∧ i9 + k * S + S ≤ m := fun k => by rw [hM3]; exact many_lt (by omega)
      have HMY := Lib.hid hMY
      have hMc : M3 ≤ bc := by rw [hM3]; exact Nat.min_le_left _ _
      have HMC := Lib.hid hMc
      have HSS := Lib.hid hS
      have HM1 := Lib.hid hM1
      have HM2 := Lib.hid hM2
      have HI2 := Lib.hid hi2
      have HI9 := Lib.hid hi9
      have h9m : i9 ≤ m := by
        generalize BB * (4 + K + V) = U at *
        omega
      have H9M := Lib.hid h9m
      have hM1b : M1 ≤ 64 := by omega
      have hM2b : M2 ≤ 64 := by omega
      have h2m : i2 ≤ i9 := by omega
      have H2M := Lib.hid h2m
      clear hin h2m e0 hfk hfv hfm hcl HCL HCI hM1 hM2 hM3 hS hi2 hi9 hMY hMc h9m
      go_upto_block 2 with fail
      go_cut [] (fun wx => ∃ (c1 : Nat) (A1 : Option Addr), Hid (Dc W w0 g s (.cells #[.int .i64 cB, .int .i64 (m : Int), .int .i64 cF, .int .i64 (F : Int), .int .i64 cU, .int .i64 cL, .int .i64 (K : Int), .int .i64 (V : Int)] 23) (.cells #[.int .i64 0, .slice none 0 0, .slice none 0 0, .slice none 0 0, .slice none 0 0] 29) (.cells #[.int .i64 (lvl : Int), .slice A1 M1 c1, .slice none 0 0, .slice none 0 0, .slice none 0 0] 29) wx) ∧ Hid (VK KdK wx w0.heap.size A1 c1 (rgF fk M1)))
      case first =>
        go_wp2_with fail
        go_loopg [11] M1 (fun gk kv wr => ∃ (k cc : Nat) (A : Option Addr), k ≤ M1 ∧ gk = M1 - k ∧ kv = .int .i64 (k : Int) ∧ Hid (Dc W w0 g s (.cells #[.int .i64 cB, .int .i64 (m : Int), .int .i64 cF, .int .i64 (F : Int), .int .i64 cU, .int .i64 cL, .int .i64 (K : Int), .int .i64 (V : Int)] 23) (.cells #[.int .i64 0, .slice none 0 0, .slice none 0 0, .slice none 0 0, .slice none 0 0] 29) (.cells #[.int .i64 (lvl : Int), .slice A k cc, .slice none 0 0, .slice none 0 0, .slice none 0 0] 29) wr) ∧ Hid (VK KdK wr w0.heap.size A cc (rgF fk k)))
        case atStart => exact ⟨0, 0, none, Nat.zero_le _, rfl, rfl, HD, VK.nil _ _⟩
        case round =>
          clear HD
          obtain ⟨k, cc, A, hk, rfl, rfl, HD, HV⟩ := hrel
          obtain ⟨g0, g1, g2, g3, g4, g5, g6, g7⟩ := box8 HD.out.bx.x
          obtain ⟨d0, d1, d2, d3, d4⟩ := box5 HD.out.box
          have hk1 : IntKind.i64.wrap ((k : Int) + 1) = ((k + 1 : Nat) : Int) := by rw [IntKind.wrap_i64]; omega
          by_cases hlt : k < M1
          · have hm1e := HM1.out
            have hi2e := HI2.out
            have h2me := H2M.out
            have h9me := H9M.out
            obtain ⟨j4, hj4⟩ : ∃ j, j = 4 * k := ⟨_, rfl⟩
            obtain ⟨j, hj⟩ : ∃ j, j = 8 + j4 := ⟨_, rfl⟩
            have hw1 : IntKind.i64.wrap (4 * (k : Int)) = (j4 : Int) := by rw [IntKind.wrap_i64]; omega
            have hw2 : IntKind.i64.wrap (8 + (j4 : Int)) = (j : Int) := by rw [IntKind.wrap_i64]; omega
            have hf1 := at_any_lt tb j 4
            have c1 := cAt j 4 (by decide) (by omega)
            have hY2 : fk k = atL tb j 4 := HFK.out j k (by omega)
            generalize atL tb j 4 = x at *
            have HY3 : Hid (rgF fk k ++ [x] = rgF fk (k + 1)) := rgF_succ fk k hY2
            have hu : IntKind.u32.wrap (x : Int) = (x : Int) := by rw [IntKind.wrap_u32]; omega
            have hlt1 : (k : Int) < (cnt : Int) := by omega
            have hlt2 : (k : Int) < (F : Int) := by omega
            clear hY2 hf1 hj hj4 hm1e hi2e h2me h9me
            have HY := HY3
            go_upto_region 17 with fail
            obtain ⟨SS, hS1, hS2⟩ := VK.blocks HV.out
            have hS3 : ∀ k, k ∈ SS → k < wr.heap.size := fun k hk => (hS2 k hk).2
            have hbig : ∀ k, k < w0.heap.size → k ∉ SS := fun k hk hm => by
              have := (hS2 k hm).1
              omega
            have hgS : g ∉ SS := hbig g (Nat.lt_of_succ_lt HD.out.lo)
            have hsS : s ∉ SS := hbig s HD.out.ls
            have HS1 := Lib.hid hS1
            have hm1 : k + 1 ≤ 1048576 := by omega
            have td := fun q : Drift.Tide SS wr [] => Drift.Tide.cell d1 hsS q
            clear hbig hgS hsS hS1 hS2 g0 g1 g2 g3 g4 g5 g6 g7 d0 d1 d2 d3 d4
            refine Drift.wp_region_drift SS [(0,[]),(1,[]),(2,[]),(3,[]),(4,[]),(5,[]),(6,[]),(7,[]),(8,[]),(9,[]),(10,[])] [10] [9] (by kernel_rfl) (by kernel_rfl) hS3 ?_
            clear hS3
            simp only [Drift.pick, Drift.opsAt, List.getElem?_toArray, List.getElem?_cons_zero, List.getElem?_cons_succ, List.cons_append, List.nil_append, List.filterMap_nil]
            iterate 7 (refine Drift.walk_step (fun K hK => ?_); go_simp; (refine hK _ ?_; clear hK K))
            refine Drift.walk_step (fun K hK => ?_); go_simp; (apply Exists.intro; refine ⟨fun q => ?_, hK _ ?_⟩; (go_at_call 21; exact (c1 _).out); clear hK K)
            iterate 1 (refine Drift.walk_step (fun K hK => ?_); go_simp; (refine hK _ ?_; clear hK K))
            refine Drift.walk_make rfl Drift.mkwalk_nil (fun b => .slice (some ⟨b, 0, none⟩) 1 1) (.cells #[.int .u32 (x : Int)] 59) (fun W => by go_simp) (fun b1 hb1 hT1 => ?_)
            refine Drift.walk_event rfl Drift.mkwalk_nil (EvApp KdK w0.heap.size wr A (k + 1) (rgF fk k ++ [x])) (fun W2 hk hl2 => ?_) (fun v w5 hv hI _ hTd => ?_)
            · exact evAt_appW (K := KdK) Tryz.underlying24 kdinfD rfl (by decide) (by decide) (.tmp 96) (.tmp 104) rfl w0.heap.size A k cc (rgF fk k) rfl (rgF_len _ _) HV.out hk b1 1 (x) rfl (hl2 (b1, .cells #[.int .u32 (x : Int)] 59) (by simp)) hm1 HD.out.size HS1.out
            obtain ⟨A5, c5, rfl, hd5⟩ := hv
            have HD5 := Lib.hid hd5
            clear hI hd5 hTd
            refine Drift.walk_nil ?_
            intro w6 hb6 _
            have HD6 := Lib.hid (HD5.out.then_ hb6 (Nat.le_trans HD.out.size HD5.out.below.size))
            have hnew := HD6.out.vo
            rw [HY.out] at hnew
            replace HV := Lib.hid (vk_setb (b := s) (i := 1) hnew (.slice A5 (k + 1) c5) HD.out.ls)
            replace HD := Lib.hid (HD.out.grow HD6.out.below)
            have hbx := HD.out.box
            obtain ⟨u0, u1, u2, u3, u4⟩ := box5 hbx
            have fr := free5 hbx 1
            replace HD := Lib.hid (HD.out.set (i := 1) (.slice A5 (k + 1) c5) (.cells #[.int .i64 (lvl : Int), .slice A5 (k + 1) c5, .slice none 0 0, .slice none 0 0, .slice none 0 0] 29) (by simp [World.setCell, Array.getElem?_modify, hbx]))
            clear hb6 HD5 HD6 td  hT1 HS1 hnew hbx HY
            simp only [List.length_cons, List.length_nil, List.drop_succ_cons, List.drop_zero, Nat.zero_add, Nat.reduceAdd]
            go_upto_region 16 with fail
            clear u0 u1 u2 u3 u4 fr
            generalize w6.setCell ⟨s, 1, none⟩ (.slice A5 (k + 1) c5) = w7 at *
            obtain ⟨g0, g1, g2, g3, g4, g5, g6, g7⟩ := box8 HD.out.bx.x
            obtain ⟨d0, d1, d2, d3, d4⟩ := box5 HD.out.box
            go_wp2_with fail
            go_roundg (M1 - (k + 1))
            case measure => omega
            case rel => exact ⟨k + 1, c5, A5, hlt, rfl, by go_num, HD, HV⟩
          · obtain rfl : M1 = k := by omega
            have hm1e := HM1.out
            clear hk1
            by_cases h1 : M1 < cnt
            · have h1' : (M1 : Int) < (cnt : Int) := by omega
              have h2' : (F : Int) ≤ (M1 : Int) := by omega
              clear h1 hm1e hlt
              go_wp2_with fail
              go_meet
              exact ⟨cc, A, HD, HV⟩
            · have h1' : (cnt : Int) ≤ (M1 : Int) := by omega
              clear h1 hm1e hlt
              go_wp2_with fail
              go_meet
              exact ⟨cc, A, HD, HV⟩
      case rest =>
      clear HD
      obtain ⟨c1, A1, HD, HV1⟩ := hcut
      obtain ⟨g0, g1, g2, g3, g4, g5, g6, g7⟩ := box8 HD.out.bx.x
      obtain ⟨d0, d1, d2, d3, d4⟩ := box5 HD.out.box
      obtain ⟨f4, hf4⟩ : ∃ f4 : Nat, f4 = 4 * F := ⟨_, rfl⟩
      have hw4 : IntKind.i64.wrap (4 * (F : Int)) = (f4 : Int) := by rw [IntKind.wrap_i64]; omega
      have hwi : IntKind.i64.wrap (8 + (f4 : Int)) = (i2 : Int) := by rw [IntKind.wrap_i64, HI2.out]; omega
      clear hf4
      go_upto_block 4 with fail
      clear hw4 hwi
      go_cut [] (fun wx => ∃ (c2 : Nat) (A2 : Option Addr), Hid (Dc W w0 g s (.cells #[.int .i64 cB, .int .i64 (m : Int), .int .i64 cF, .int .i64 (F : Int), .int .i64 cU, .int .i64 cL, .int .i64 (K : Int), .int .i64 (V : Int)] 23) (.cells #[.int .i64 0, .slice none 0 0, .slice none 0 0, .slice none 0 0, .slice none 0 0] 29) (.cells #[.int .i64 (lvl : Int), .slice A1 M1 c1, .slice A2 M2 c2, .slice none 0 0, .slice none 0 0] 29) wx) ∧ Hid (VK StK wx w0.heap.size A2 c2 (rgF fv M2)) ∧ Hid (VK KdK wx w0.heap.size A1 c1 (rgF fk M1)))
      case first =>
        clear g0 g1 g2 g3 g4 g5 g6 g7 d0 d1 d2 d3 d4
        go_wp2_with fail
        go_loopg [12] M2 (fun gk kv wr => ∃ (k cc : Nat) (A : Option Addr), k ≤ M2 ∧ gk = M2 - k ∧ kv = .int .i64 (k : Int) ∧ Hid (Dc W w0 g s (.cells #[.int .i64 cB, .int .i64 (m : Int), .int .i64 cF, .int .i64 (F : Int), .int .i64 cU, .int .i64 cL, .int .i64 (K : Int), .int .i64 (V : Int)] 23) (.cells #[.int .i64 0, .slice none 0 0, .slice none 0 0, .slice none 0 0, .slice none 0 0] 29) (.cells #[.int .i64 (lvl : Int), .slice A1 M1 c1, .slice A k cc, .slice none 0 0, .slice none 0 0] 29) wr) ∧ Hid (VK StK wr w0.heap.size A cc (rgF fv k)) ∧ Hid (VK KdK wr w0.heap.size A1 c1 (rgF fk M1)))
        case atStart => exact ⟨0, 0, none, Nat.zero_le _, rfl, rfl, HD, VK.nil _ _, HV1⟩
        case round =>
          clear HD HV1
          obtain ⟨k, cc, A, hk, rfl, rfl, HD, HV, HV1⟩ := hrel
          obtain ⟨g0, g1, g2, g3, g4, g5, g6, g7⟩ := box8 HD.out.bx.x
          obtain ⟨d0, d1, d2, d3, d4⟩ := box5 HD.out.box
          obtain ⟨kp, hkp⟩ : ∃ x, x = k + 1 := ⟨_, rfl⟩
          have hk1 : IntKind.i64.wrap ((k : Int) + 1) = (kp : Int) := by rw [IntKind.wrap_i64]; omega
          have HKP := Lib.hid hkp
          by_cases hlt : k < M2
          · have hm2e := HM2.out
            have h9me := H9M.out
            have h9e := HI9.out
            obtain ⟨kk, hkk⟩ : ∃ x, x = 1 + K := ⟨_, rfl⟩
            have hup : (1 + K) * (k + 1) ≤ (1 + K) * (F - 1) := Nat.mul_le_mul_left _ (by omega)
            rw [Nat.mul_add, Nat.mul_one, ← hkk] at hup
            rw [← hkk] at h9e
            obtain ⟨q', hq'⟩ : ∃ x, x = kk * k := ⟨_, rfl⟩
            rw [← hq'] at hup
            obtain ⟨j, hj⟩ : ∃ x, x = i2 + q' := ⟨_, rfl⟩
            have hjm : j + 1 + K ≤ m := by omega
            have hwk : IntKind.i64.wrap (1 + (K : Int)) = (kk : Int) := by rw [IntKind.wrap_i64]; omega
            have hwq : IntKind.i64.wrap ((kk : Int) * (k : Int)) = (q' : Int) := by rw [← Int.natCast_mul, ← hq', IntKind.wrap_i64]; omega
            have hwj : IntKind.i64.wrap ((i2 : Int) + (q' : Int)) = (j : Int) := by rw [IntKind.wrap_i64]; omega
            have hwj1 : IntKind.i64.wrap ((j : Int) + 1) = ((j + 1 : Nat) : Int) := by rw [IntKind.wrap_i64]; omega
            have hf1 := at_any_lt tb j 1
            have c1a := cAt j 1 (by decide) (by omega)
            have c2a := cSub (j + 1) (atL tb j 1) (by omega) (by omega)
            have hY2 : fv k = strOf (subL tb (j + 1) (atL tb j 1)) := HFV.out j k (by rw [hj, hq', hkk])
            generalize strOf (subL tb (j + 1) (atL tb j 1)) = x at *
            have HY3 : Hid (rgF fv k ++ [x] = rgF fv (k + 1)) := rgF_succ fv k hY2
            generalize atL tb j 1 = kl at *
            have hlt1 : (kp : Int) < (cnt : Int) := by omega
            have hlt2 : (kp : Int) < (F : Int) := by omega
            clear hkp
            generalize j + 1 = j1 at *
            clear hY2 hf1 hj hq' hkk hm2e h9me h9e hup hjm
            have HY := HY3
            go_upto_region 22 with fail
            obtain ⟨SS, hS1, hS2⟩ := VK.blocks HV.out
            have hS3 : ∀ k, k ∈ SS → k < wr.heap.size := fun k hk => (hS2 k hk).2
            have hbig : ∀ k, k < w0.heap.size → k ∉ SS := fun k hk hm => by
              have := (hS2 k hm).1
              omega
            have hgS : g ∉ SS := hbig g (Nat.lt_of_succ_lt HD.out.lo)
            have hsS : s ∉ SS := hbig s HD.out.ls
            have HS1 := Lib.hid hS1
            have hm1 : k + 1 ≤ 1048576 := by omega
            have tg6 := fun q : Drift.Tide SS wr [] => Drift.Tide.cell g6 hgS q
            have td := fun q : Drift.Tide SS wr [] => Drift.Tide.cell d2 hsS q
            clear hbig hgS hsS hS1 hS2 g0 g1 g2 g3 g4 g5 g6 g7 d0 d1 d2 d3 d4
            refine Drift.wp_region_drift SS [(0,[]),(1,[]),(2,[]),(3,[]),(4,[]),(5,[]),(6,[]),(7,[]),(8,[]),(9,[]),(10,[]),(11,[]),(12,[]),(13,[]),(14,[]),(15,[]),(16,[]),(17,[]),(18,[]),(19,[]),(20,[]),(21,[]),(22,[])] [22] [21] (by kernel_rfl) (by kernel_rfl) hS3 ?_
            clear hS3
            simp only [Drift.pick, Drift.opsAt, List.getElem?_toArray, List.getElem?_cons_zero, List.getElem?_cons_succ, List.cons_append, List.nil_append, List.filterMap_nil]
            iterate 19 (refine Drift.walk_step (fun K hK => ?_); go_simp; (refine hK _ ?_; clear hK K))
            refine Drift.walk_step (fun K hK => ?_); go_simp; (apply Exists.intro; refine ⟨fun q => ?_, hK _ ?_⟩; (go_at_call 21; exact (c1a _).out); clear hK K)
            refine Drift.walk_step (fun K hK => ?_); go_simp; (apply Exists.intro; refine ⟨fun q => ?_, hK _ ?_⟩; (go_at_call 22; exact (c2a _).out); clear hK K)
            refine Drift.walk_make rfl Drift.mkwalk_nil (fun b => .slice (some ⟨b, 0, none⟩) 1 1) (.cells #[.string x] 9) (fun W => by go_simp) (fun b1 hb1 hT1 => ?_)
            refine Drift.walk_event rfl Drift.mkwalk_nil (EvApp StK w0.heap.size wr A (k + 1) (rgF fv k ++ [x])) (fun W2 hk hl2 => ?_) (fun v w5 hv hI _ hTd => ?_)
            · exact evAt_appW (K := StK) Tryz.underlying25 stinfD rfl (by decide) (by decide) (.tmp 126) (.tmp 146) rfl w0.heap.size A k cc (rgF fv k) rfl (rgF_len _ _) HV.out hk b1 1 (x) rfl (hl2 (b1, .cells #[.string x] 9) (by simp)) hm1 HD.out.size HS1.out
            obtain ⟨A5, c5, rfl, hd5⟩ := hv
            have HD5 := Lib.hid hd5
            clear hI hd5 hTd
            refine Drift.walk_nil ?_
            intro w6 hb6 _
            have HD6 := Lib.hid (HD5.out.then_ hb6 (Nat.le_trans HD.out.size HD5.out.below.size))
            replace HV1 := Lib.hid (vk_setb (b := s) (i := 2) (vk_app HV.out HV1.out (by decide) HD6.out) (.slice A5 (k + 1) c5) HD.out.ls)
            have hnew := HD6.out.vo
            rw [HY.out] at hnew
            replace HV := Lib.hid (vk_setb (b := s) (i := 2) hnew (.slice A5 (k + 1) c5) HD.out.ls)
            replace HD := Lib.hid (HD.out.grow HD6.out.below)
            have hbx := HD.out.box
            obtain ⟨u0, u1, u2, u3, u4⟩ := box5 hbx
            have fr := free5 hbx 2
            replace HD := Lib.hid (HD.out.set (i := 2) (.slice A5 (k + 1) c5) (.cells #[.int .i64 (lvl : Int), .slice A1 M1 c1, .slice A5 (k + 1) c5, .slice none 0 0, .slice none 0 0] 29) (by simp [World.setCell, Array.getElem?_modify, hbx]))
            clear hb6 HD5 HD6 td tg6 hT1 HS1 hnew hbx HY
            simp only [List.length_cons, List.length_nil, List.drop_succ_cons, List.drop_zero, Nat.zero_add, Nat.reduceAdd]
            go_upto_region 21 with fail
            clear u0 u1 u2 u3 u4 fr
            generalize w6.setCell ⟨s, 2, none⟩ (.slice A5 (k + 1) c5) = w7 at *
            obtain ⟨g0, g1, g2, g3, g4, g5, g6, g7⟩ := box8 HD.out.bx.x
            obtain ⟨d0, d1, d2, d3, d4⟩ := box5 HD.out.box
            go_wp2_with fail
            go_roundg (M2 - (k + 1))
            case measure => omega
            case rel => exact (by have hkp := HKP.out; subst hkp; exact ⟨k + 1, c5, A5, hlt, rfl, rfl, HD, HV, HV1⟩)
          · obtain rfl : M2 = k := by omega
            have hm2e := HM2.out
            by_cases h1 : kp < cnt
            · have h1' : (kp : Int) < (cnt : Int) := by omega
              have h2' : (F : Int) ≤ (kp : Int) := by omega
              clear h1 hm2e hlt hkp
              go_wp2_with fail
              go_meet
              exact ⟨cc, A, HD, HV, HV1⟩
            · have h1' : (cnt : Int) ≤ (kp : Int) := by omega
              clear h1 hm2e hlt hkp
              go_wp2_with fail
              go_meet
              exact ⟨cc, A, HD, HV, HV1⟩
      case rest =>
      clear HD HV1
      obtain ⟨c2, A2, HD, HV2, HV1⟩ := hcut
      obtain ⟨g0, g1, g2, g3, g4, g5, g6, g7⟩ := box8 HD.out.bx.x
      obtain ⟨d0, d1, d2, d3, d4⟩ := box5 HD.out.box
      obtain ⟨kk, hkk⟩ : ∃ x, x = 1 + K := ⟨_, rfl⟩
      obtain ⟨f1, hf1⟩ : ∃ x, x = F - 1 := ⟨_, rfl⟩
      obtain ⟨q', hq'⟩ : ∃ x, x = kk * f1 := ⟨_, rfl⟩
      have h9e := HI9.out
      have h9me := H9M.out
      rw [← hkk, ← hf1, ← hq'] at h9e
      have hwk : IntKind.i64.wrap (1 + (K : Int)) = (kk : Int) := by rw [IntKind.wrap_i64]; omega
      have hwf : IntKind.i64.wrap ((F : Int) - 1) = (f1 : Int) := by rw [IntKind.wrap_i64]; omega
      have hwq : IntKind.i64.wrap ((kk : Int) * (f1 : Int)) = (q' : Int) := by rw [← Int.natCast_mul, ← hq', IntKind.wrap_i64]; omega
      have hwj : IntKind.i64.wrap ((i2 : Int) + (q' : Int)) = (i9 : Int) := by rw [IntKind.wrap_i64]; omega
      clear h9e h9me hkk hf1 hq'
      go_upto_block 6 with fail
      clear hwk hwf hwq hwj g0 g1 g2 g3 g4 g5 g6 g7 d0 d1 d2 d3 d4
      have hMc := HMC.out
      have h9me := H9M.out
      go_wp2_with fail
      go_loopg [9, 13] M3 (fun gk iv kv wr => ∃ (k i cc : Nat) (A : Option Addr), k ≤ M3 ∧ gk = M3 - k ∧ kv = .int .i64 (k : Int) ∧ iv = .int .i64 (i : Int) ∧ i ≤ m ∧ Hid (i = i9 + k * S) ∧ Hid (Dc W w0 g s (.cells #[.int .i64 cB, .int .i64 (m : Int), .int .i64 cF, .int .i64 (F : Int), .int .i64 cU, .int .i64 cL, .int .i64 (K : Int), .int .i64 (V : Int)] 23) (.cells #[.int .i64 0, .slice none 0 0, .slice none 0 0, .slice none 0 0, .slice none 0 0] 29) (.cells #[.int .i64 (lvl : Int), .slice A1 M1 c1, .slice A2 M2 c2, .slice A k cc, .slice none 0 0] 29) wr) ∧ Hid (VK MgK wr w0.heap.size A cc (rgF fm k)) ∧ Hid (VK KdK wr w0.heap.size A1 c1 (rgF fk M1)) ∧ Hid (VK StK wr w0.heap.size A2 c2 (rgF fv M2)))
      case atStart => exact ⟨0, i9, 0, none, Nat.zero_le _, rfl, rfl, rfl, h9me, by unfold Hid; omega, HD, VK.nil _ _, HV1, HV2⟩
      case round =>
        clear HD HV1 HV2
        obtain ⟨k, i, cc, A, hk, rfl, rfl, rfl, him, HI, HD, HV, HV1, HV2⟩ := hrel
        obtain ⟨g0, g1, g2, g3, g4, g5, g6, g7⟩ := box8 HD.out.bx.x
        obtain ⟨d0, d1, d2, d3, d4⟩ := box5 HD.out.box
        have hSx := HSS.out
        have hKM := HMY.out k
        rw [← HI.out] at hKM
        have hi4 : IntKind.i64.wrap ((i : Int) + 4) = ((i + 4 : Nat) : Int) := by rw [IntKind.wrap_i64]; omega
        have hi5 : IntKind.i64.wrap (((i + 4 : Nat) : Int) + (K : Int)) = ((i + 4 + K : Nat) : Int) := by rw [IntKind.wrap_i64]; omega
        have hi6 : IntKind.i64.wrap (((i + 4 + K : Nat) : Int) + (V : Int)) = ((i + S : Nat) : Int) := by rw [IntKind.wrap_i64]; omega
        have hk1 : IntKind.i64.wrap ((k : Int) + 1) = ((k + 1 : Nat) : Int) := by rw [IntKind.wrap_i64]; omega
        have hi1 : IntKind.i64.wrap ((i : Int) + 1) = ((i + 1 : Nat) : Int) := by rw [IntKind.wrap_i64]; omega
        have hi2' : IntKind.i64.wrap ((i : Int) + 2) = ((i + 2 : Nat) : Int) := by rw [IntKind.wrap_i64]; omega
        by_cases hlt : k < M3
        · obtain ⟨hl1, hl2⟩ := hKM.1 hlt
          have hf1 := at_any_lt tb (i + 1) 1
          have hf2 := at_any_lt tb (i + 2) 2
          have c1a := cAt (i + 1) 1 (by decide) (by omega)
          have c2a := cSub (i + 4) (atL tb (i + 1) 1) (by omega) (by omega)
          have c3a := cAt (i + 2) 2 (by decide) (by omega)
          have c4a := cSub (i + 4 + K) (atL tb (i + 2) 2) (by omega) (by omega)
          have hix := HIX.out i (by omega)
          obtain ⟨key, hkey⟩ : ∃ x, x = strOf (subL tb (i + 4) (atL tb (i + 1) 1)) := ⟨_, rfl⟩
          obtain ⟨val', hval⟩ : ∃ x, x = strOf (subL tb (i + 4 + K) (atL tb (i + 2) 2)) := ⟨_, rfl⟩
          obtain ⟨dl, hdl⟩ : ∃ x, x = decide (atL tb i 1 = 2) := ⟨_, rfl⟩
          have HY2 : Hid (fm k = (key, dl, val')) := by
            unfold Hid
            rw [HFM.out i k HI.out, hkey, hval, hdl]
          have HY3 : Hid (rgF fm k ++ [(key, dl, val')] = rgF fm (k + 1)) := rgF_succ fm k HY2.out
          have hxd : ((atL tb i 1 : Int) == 2) = dl := by
            rw [hdl, Bool.eq_iff_iff, beq_iff_eq, decide_eq_true_eq]
            omega
          rw [← hkey] at c2a
          rw [← hval] at c4a
          clear hkey hval HY2 hf1 hf2 hdl
          generalize atL tb i 1 = xl at *
          generalize atL tb (i + 1) 1 = kl at *
          generalize atL tb (i + 2) 2 = vl at *
          have hlen : ((i + S : Nat) : Int) ≤ (m : Int) := by omega
          have hlt2 : (k : Int) < (bc : Int) := by omega
          have hI2 : Hid (i + S = i9 + (k + 1) * S) := by
            unfold Hid
            rw [HI.out, Nat.succ_mul]
            omega
          have him2 : i + S ≤ m := by omega
          have hkM : k + 1 ≤ 70000 := by omega
          clear hKM hl1 hl2 hSx
          generalize i + S = i6 at *
          generalize i + 4 + K = i5 at *
          generalize i + 4 = i4 at *
          generalize i + 2 = i2' at *
          generalize i + 1 = i1 at *
          have HY := HY3
          go_upto_region 27 with fail
          obtain ⟨SS, hS1, hS2⟩ := VK.blocks HV.out
          have hS3 : ∀ k, k ∈ SS → k < wr.heap.size := fun k hk => (hS2 k hk).2
          have hbig : ∀ k, k < w0.heap.size → k ∉ SS := fun k hk hm => by
            have := (hS2 k hm).1
            omega
          have hgS : g ∉ SS := hbig g (Nat.lt_of_succ_lt HD.out.lo)
          have hsS : s ∉ SS := hbig s HD.out.ls
          have HS1 := Lib.hid hS1
          have hm1 : k + 1 ≤ 1048576 := by omega
          have tg6 := fun q : Drift.Tide SS wr [] => Drift.Tide.cell g6 hgS q
          have td := fun q : Drift.Tide SS wr [] => Drift.Tide.cell d3 hsS q
          clear hbig hgS hsS hS1 hS2 g0 g1 g2 g3 g4 g5 g6 g7 d0 d1 d2 d3 d4
          refine Drift.wp_region_drift SS [(0,[]),(1,[]),(2,[]),(3,[]),(4,[]),(5,[]),(6,[]),(7,[]),(8,[]),(9,[]),(10,[]),(11,[]),(12,[]),(13,[]),(14,[]),(15,[]),(16,[]),(17,[]),(18,[]),(19,[]),(20,[]),(21,[]),(22,[]),(23,[]),(24,[]),(25,[]),(26,[]),(27,[])] [27] [26] (by kernel_rfl) (by kernel_rfl) hS3 ?_
          clear hS3
          simp only [Drift.pick, Drift.opsAt, List.getElem?_toArray, List.getElem?_cons_zero, List.getElem?_cons_succ, List.cons_append, List.nil_append, List.filterMap_nil]
          iterate 8 (refine Drift.walk_step (fun K hK => ?_); go_simp; (refine hK _ ?_; clear hK K))
          refine Drift.walk_step (fun K hK => ?_); go_simp; (apply Exists.intro; refine ⟨fun q => ?_, hK _ ?_⟩; (go_at_call 21; exact (c1a _).out); clear hK K)
          refine Drift.walk_step (fun K hK => ?_); go_simp; (apply Exists.intro; refine ⟨fun q => ?_, hK _ ?_⟩; (go_at_call 22; exact (c2a _).out); clear hK K)
          iterate 13 (refine Drift.walk_step (fun K hK => ?_); go_simp; (refine hK _ ?_; clear hK K))
          refine Drift.walk_step (fun K hK => ?_); go_simp; (apply Exists.intro; refine ⟨fun q => ?_, hK _ ?_⟩; (go_at_call 21; exact (c3a _).out); clear hK K)
          refine Drift.walk_step (fun K hK => ?_); go_simp; (apply Exists.intro; refine ⟨fun q => ?_, hK _ ?_⟩; (go_at_call 22; exact (c4a _).out); clear hK K)
          iterate 1 (refine Drift.walk_step (fun K hK => ?_); go_simp; (refine hK _ ?_; clear hK K))
          refine Drift.walk_make rfl Drift.mkwalk_nil (fun b => .slice (some ⟨b, 0, none⟩) 1 1) (.cells #[.string key, .bool dl, .string val'] 49) (fun W => by go_simp) (fun b1 hb1 hT1 => ?_)
          refine Drift.walk_event rfl Drift.mkwalk_nil (EvApp MgK w0.heap.size wr A (k + 1) (rgF fm k ++ [(key, dl, val')])) (fun W2 hk hl2 => ?_) (fun v w5 hv hI _ hTd => ?_)
          · exact evAt_appW (K := MgK) Tryz.underlying26 mginfo rfl (by decide) (by decide) (.tmp 177) (.tmp 202) rfl w0.heap.size A k cc (rgF fm k) rfl (rgF_len _ _) HV.out hk b1 1 ((key, dl, val')) rfl (hl2 (b1, .cells #[.string key, .bool dl, .string val'] 49) (by simp)) hm1 HD.out.size HS1.out
          obtain ⟨A5, c5, rfl, hd5⟩ := hv
          have HD5 := Lib.hid hd5
          clear hI hd5 hTd
          refine Drift.walk_nil ?_
          intro w6 hb6 _
          have HD6 := Lib.hid (HD5.out.then_ hb6 (Nat.le_trans HD.out.size HD5.out.below.size))
          replace HV1 := Lib.hid (vk_setb (b := s) (i := 3) (vk_app HV.out HV1.out (by decide) HD6.out) (.slice A5 (k + 1) c5) HD.out.ls)
          replace HV2 := Lib.hid (vk_setb (b := s) (i := 3) (vk_app HV.out HV2.out (by decide) HD6.out) (.slice A5 (k + 1) c5) HD.out.ls)
          have hnew := HD6.out.vo
          rw [HY.out] at hnew
          replace HV := Lib.hid (vk_setb (b := s) (i := 3) hnew (.slice A5 (k + 1) c5) HD.out.ls)
          replace HD := Lib.hid (HD.out.grow HD6.out.below)
          have hbx := HD.out.box
          obtain ⟨u0, u1, u2, u3, u4⟩ := box5 hbx
          have fr := free5 hbx 3
          replace HD := Lib.hid (HD.out.set (i := 3) (.slice A5 (k + 1) c5) (.cells #[.int .i64 (lvl : Int), .slice A1 M1 c1, .slice A2 M2 c2, .slice A5 (k + 1) c5, .slice none 0 0] 29) (by simp [World.setCell, Array.getElem?_modify, hbx]))
          clear hb6 HD5 HD6 td tg6 hT1 HS1 hnew hbx HY
          simp only [List.length_cons, List.length_nil, List.drop_succ_cons, List.drop_zero, Nat.zero_add, Nat.reduceAdd]
          go_upto_region 28 with fail
          clear u0 u1 u2 u3 u4 fr
          generalize w6.setCell ⟨s, 3, none⟩ (.slice A5 (k + 1) c5) = w7 at *
          obtain ⟨g0, g1, g2, g3, g4, g5, g6, g7⟩ := box8 HD.out.bx.x
          obtain ⟨d0, d1, d2, d3, d4⟩ := box5 HD.out.box
          go_wp2_with fail
          go_roundg (M3 - (k + 1))
          case measure => omega
          case rel => exact ⟨k + 1, i6, c5, A5, hlt, rfl, by go_num, rfl, him2, hI2, HD, HV, HV1, HV2⟩
        · obtain rfl : M3 = k := by omega
          have HBX : Hid (wr.heap[s]? = some (.cells #[.int .i64 cand.lv, .slice A1 cand.kids.length c1, .slice A2 cand.piv.length c2, .slice A cand.buf.length cc, .slice (none : Option Addr) cand.prs.length 0] 29)) := by
            have := HD.out.box
            unfold Hid
            rw [HCE.out]
            simp only [rgF_len]
            exact this
          have HND : Hid (NdIn wr cand ⟨A1, c1, A2, c2, A, cc, none, 0⟩) := by
            unfold Hid
            rw [HCE.out]
            exact ⟨HV1.out.rc, HV2.out.rc, HV.out.rc, RC.nil _ _ _⟩
          have HFB := Lib.hid HD.out.bx
          have HFS := Lib.hid (⟨HD.out.at_, HD.out.sne.2.2⟩ : W.heap.size ≤ g ∧ g + 1 ≠ s)
          clear hSx HFM HMY HSS hMc hi1 hi2' hk1 HD HV HV1 HV2 HI
          by_cases h1 : M3 < bc
          · have h2 : (m : Int) < ((i + S : Nat) : Int) := by
              have h3 : ¬ (i + S ≤ m) := fun h4 => hlt (hKM.2 ⟨h1, h4⟩)
              omega
            have h1' : (M3 : Int) < (bc : Int) := by omega
            clear h1 hlt hKM
            generalize i + S = i5 at *
            generalize i + 4 + K = i4 at *
            generalize i + 4 = i3 at *
            go_wp2_with fail
            go_meet
            exact ⟨⟨A1, c1, A2, c2, A, cc, none, 0⟩, HBX, HND, HFB, HFS⟩
          · have h1' : (bc : Int) ≤ (M3 : Int) := by omega
            clear h1 hlt hKM
            go_wp2_with fail
            go_meet
            exact ⟨⟨A1, c1, A2, c2, A, cc, none, 0⟩, HBX, HND, HFB, HFS⟩
  case rest =>
  obtain ⟨z, HBX, HND, HFB, HFG⟩ := hcut
  have cR' := fun w h => cR w z h
  rw [hlc z] at cR'
  obtain ⟨x0, x1, x2, x3, x4⟩ := box5 HBX.out
  obtain ⟨g0, g1, g2, g3, g4, g5, g6, g7⟩ := box8 HFB.out.x
  cases t with
  | false =>
    clear cBl HY
    go_upto_region 30 with (first
      | (go_at_call 14; refine (cR' _ HND.out).out.mono ?_; rintro e w20 ⟨rfl, hb⟩; replace HFB := Lib.hid (HFB.out.kept hb); replace HBX := Lib.hid (kept3 HBX.out hb); replace HND := Lib.hid (HND.out.kept hb); clear hb cR' x0 x1 x2 x3 x4 g0 g1 g2 g3 g4 g5 g6 g7; obtain ⟨x0, x1, x2, x3, x4⟩ := box5 HBX.out; obtain ⟨g0, g1, g2, g3, g4, g5, g6, g7⟩ := box8 HFB.out.x))
    obtain ⟨y0, y1, y2, y3, y4⟩ := box5 HFB.out.y
    have f0 := free5 HFB.out.y 0; have f1 := free5 HFB.out.y 1; have f2 := free5 HFB.out.y 2; have f3 := free5 HFB.out.y 3; have f4 := free5 HFB.out.y 4
    have HU := Lib.hid (set5_at HFB.out.y (.int .i64 0) (.slice none 0 0) (.slice none 0 0) (.slice none 0 0) (.slice none 0 0))
    have HI5 := Lib.hid (into_set5 w20 (g + 1) (.int .i64 0) (.slice none 0 0) (.slice none 0 0) (.slice none 0 0) (.slice none 0 0))
    have HBW := Lib.hid (set5_below HFB.out.below (Nat.le_succ_of_le HFG.out.1) (.int .i64 0) (.slice none 0 0) (.slice none 0 0) (.slice none 0 0) (.slice none 0 0))
    have HND9 := Lib.hid (nd_box HND.out HI5.out (IsBox.of HFB.out.y).one)
    unfold set5 at HU HBW HND9
    clear HI5
    go_wp2_with fail
    generalize ((((w20.setCell ⟨g + 1, 0, none⟩ (.int .i64 0)).setCell ⟨g + 1, 1, none⟩ (.slice none 0 0)).setCell ⟨g + 1, 2, none⟩ (.slice none 0 0)).setCell ⟨g + 1, 3, none⟩ (.slice none 0 0)).setCell ⟨g + 1, 4, none⟩ (.slice none 0 0) = w91 at *
    clear y0 y1 y2 y3 y4 f0 f1 f2 f3 f4 x0 x1 x2 x3 x4 g0 g1 g2 g3 g4 g5 g6 g7
    obtain ⟨y0, y1, y2, y3, y4⟩ := box5 HU.out
    exact bodyPost_ret (v := .tuple #[.agg #[.int .i64 0, .slice none 0 0, .slice none 0 0, .slice none 0 0, .slice none 0 0], .int .i64 12]) (by simp [results, Tryz.results12, go_sem, y0, y1, y2, y3, y4]) rfl ⟨⟨_, rfl, HN.out rfl⟩, HBW.out⟩
  | true =>
    have cBl' := fun w h => cBl rfl w z h
    rw [hlc z] at cBl'
    cases q with
    | false =>
      clear HY
      have hqq : (bk.toList == b.toList) = false := by
        have h9 : ¬ (bk.toList = b.toList) := fun h => by cases HEQ.out.1 h
        simpa using h9
      go_upto_region 30 with (first
        | (go_at_call 14; refine (cR' _ HND.out).out.mono ?_; rintro e w20 ⟨rfl, hb⟩; replace HFB := Lib.hid (HFB.out.kept hb); replace HBX := Lib.hid (kept3 HBX.out hb); replace HND := Lib.hid (HND.out.kept hb); clear hb cR' x0 x1 x2 x3 x4 g0 g1 g2 g3 g4 g5 g6 g7; obtain ⟨x0, x1, x2, x3, x4⟩ := box5 HBX.out; obtain ⟨g0, g1, g2, g3, g4, g5, g6, g7⟩ := box8 HFB.out.x)
        | (go_at_call 19; refine (cBl' _ HND.out).out.mono ?_; rintro e w21 ⟨rfl, hb⟩; replace HFB := Lib.hid (HFB.out.kept hb); replace HBX := Lib.hid (kept3 HBX.out hb); replace HND := Lib.hid (HND.out.kept hb); clear hb cBl' x0 x1 x2 x3 x4 g0 g1 g2 g3 g4 g5 g6 g7; obtain ⟨x0, x1, x2, x3, x4⟩ := box5 HBX.out; obtain ⟨g0, g1, g2, g3, g4, g5, g6, g7⟩ := box8 HFB.out.x))
      obtain ⟨y0, y1, y2, y3, y4⟩ := box5 HFB.out.y
      have f0 := free5 HFB.out.y 0; have f1 := free5 HFB.out.y 1; have f2 := free5 HFB.out.y 2; have f3 := free5 HFB.out.y 3; have f4 := free5 HFB.out.y 4
      have HU := Lib.hid (set5_at HFB.out.y (.int .i64 0) (.slice none 0 0) (.slice none 0 0) (.slice none 0 0) (.slice none 0 0))
      have HI5 := Lib.hid (into_set5 w21 (g + 1) (.int .i64 0) (.slice none 0 0) (.slice none 0 0) (.slice none 0 0) (.slice none 0 0))
      have HBW := Lib.hid (set5_below HFB.out.below (Nat.le_succ_of_le HFG.out.1) (.int .i64 0) (.slice none 0 0) (.slice none 0 0) (.slice none 0 0) (.slice none 0 0))
      have HND9 := Lib.hid (nd_box HND.out HI5.out (IsBox.of HFB.out.y).one)
      unfold set5 at HU HBW HND9
      clear HI5
      go_wp2_with fail
      generalize ((((w21.setCell ⟨g + 1, 0, none⟩ (.int .i64 0)).setCell ⟨g + 1, 1, none⟩ (.slice none 0 0)).setCell ⟨g + 1, 2, none⟩ (.slice none 0 0)).setCell ⟨g + 1, 3, none⟩ (.slice none 0 0)).setCell ⟨g + 1, 4, none⟩ (.slice none 0 0) = w91 at *
      clear y0 y1 y2 y3 y4 f0 f1 f2 f3 f4 x0 x1 x2 x3 x4 g0 g1 g2 g3 g4 g5 g6 g7
      obtain ⟨y0, y1, y2, y3, y4⟩ := box5 HU.out
      exact bodyPost_ret (v := .tuple #[.agg #[.int .i64 0, .slice none 0 0, .slice none 0 0, .slice none 0 0, .slice none 0 0], .int .i64 12]) (by simp [results, Tryz.results12, go_sem, y0, y1, y2, y3, y4]) rfl ⟨⟨_, rfl, HN.out rfl⟩, HBW.out⟩
    | true =>
      clear HN
      have hqq : (bk.toList == b.toList) = true := by
        have h9 : bk.toList = b.toList := HEQ.out.2 rfl
        simpa using h9
      go_upto_region 31 with (first
        | (go_at_call 14; refine (cR' _ HND.out).out.mono ?_; rintro e w20 ⟨rfl, hb⟩; replace HFB := Lib.hid (HFB.out.kept hb); replace HBX := Lib.hid (kept3 HBX.out hb); replace HND := Lib.hid (HND.out.kept hb); clear hb cR' x0 x1 x2 x3 x4 g0 g1 g2 g3 g4 g5 g6 g7; obtain ⟨x0, x1, x2, x3, x4⟩ := box5 HBX.out; obtain ⟨g0, g1, g2, g3, g4, g5, g6, g7⟩ := box8 HFB.out.x)
        | (go_at_call 19; refine (cBl' _ HND.out).out.mono ?_; rintro e w21 ⟨rfl, hb⟩; replace HFB := Lib.hid (HFB.out.kept hb); replace HBX := Lib.hid (kept3 HBX.out hb); replace HND := Lib.hid (HND.out.kept hb); clear hb cBl' x0 x1 x2 x3 x4 g0 g1 g2 g3 g4 g5 g6 g7; obtain ⟨x0, x1, x2, x3, x4⟩ := box5 HBX.out; obtain ⟨g0, g1, g2, g3, g4, g5, g6, g7⟩ := box8 HFB.out.x))
      obtain ⟨y0, y1, y2, y3, y4⟩ := box5 HFB.out.y
      have f0 := free5 HFB.out.y 0; have f1 := free5 HFB.out.y 1; have f2 := free5 HFB.out.y 2; have f3 := free5 HFB.out.y 3; have f4 := free5 HFB.out.y 4
      have HU := Lib.hid (set5_at HFB.out.y (.int .i64 cand.lv) (.slice z.kA cand.kids.length z.kc) (.slice z.pA cand.piv.length z.pc) (.slice z.bA cand.buf.length z.bc) (.slice z.qA cand.prs.length z.qc))
      have HI5 := Lib.hid (into_set5 w21 (g + 1) (.int .i64 cand.lv) (.slice z.kA cand.kids.length z.kc) (.slice z.pA cand.piv.length z.pc) (.slice z.bA cand.buf.length z.bc) (.slice z.qA cand.prs.length z.qc))
      have HBW := Lib.hid (set5_below HFB.out.below (Nat.le_succ_of_le HFG.out.1) (.int .i64 cand.lv) (.slice z.kA cand.kids.length z.kc) (.slice z.pA cand.piv.length z.pc) (.slice z.bA cand.buf.length z.bc) (.slice z.qA cand.prs.length z.qc))
      have HND9 := Lib.hid (nd_box HND.out HI5.out (IsBox.of HFB.out.y).one)
      unfold set5 at HU HBW HND9
      clear HI5
      go_wp2_with fail
      generalize ((((w21.setCell ⟨g + 1, 0, none⟩ (.int .i64 cand.lv)).setCell ⟨g + 1, 1, none⟩ (.slice z.kA cand.kids.length z.kc)).setCell ⟨g + 1, 2, none⟩ (.slice z.pA cand.piv.length z.pc)).setCell ⟨g + 1, 3, none⟩ (.slice z.bA cand.buf.length z.bc)).setCell ⟨g + 1, 4, none⟩ (.slice z.qA cand.prs.length z.qc) = w91 at *
      clear y0 y1 y2 y3 y4 f0 f1 f2 f3 f4 x0 x1 x2 x3 x4 g0 g1 g2 g3 g4 g5 g6 g7
      obtain ⟨y0, y1, y2, y3, y4⟩ := box5 HU.out
      exact bodyPost_ret (v := .tuple #[.agg #[.int .i64 cand.lv, .slice z.kA cand.kids.length z.kc, .slice z.pA cand.piv.length z.pc, .slice z.bA cand.buf.length z.bc, .slice z.qA cand.prs.length z.qc], .int .i64 0]) (by simp [results, Tryz.results12, go_sem, y0, y1, y2, y3, y4]) rfl ⟨⟨_, rfl, by have h9 := HY.out (by trivial) (by trivial) HND9.out; rw [hlc z] at h9; exact h9⟩, HBW.out⟩
end No
end Go.Proofs.YtgpbioljldkmaaaGreat
