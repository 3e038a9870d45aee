/-
  The document's head: Block. Written by scripts/headr2.py.
-/
import Derived.Test.YteefkhgmcknbaaaHeadR1
import Derived.Test.YteefkhgmcknbaaaCatB
import Derived.Test.YteefkhgmcknbaaaWordBytesR
import Derived.Test.YteefkhgmcknbaaaWordPut
import Derived.Test.YteefkhgmcknbaaaCheckMore
namespace Go.Proofs.Yteefkhgmcknbaaa
open Go.RowKit
namespace No
open Mem Bu
open Wd (be val be_length val_be isW)
open Ck (more more_lt)
/-- a row of ints as a literal lays it -/
def intV (x : Nat) : Value := .int .i64 (x : Int)
theorem intRow {w : World} {b : Nat} {L : List Nat} {U : TypeId} (h : w.heap[b]? = some (.cells (L.map intV).toArray U (0, 0))) {k x : Nat} (hx : L[k]? = some x) : w.cell? ⟨b, k, none⟩ = some (.int .i64 (x : Int)) := by
  simp only [World.cell?, h]
  simp [hx, intV]
theorem hflat_succ {f : Nat → List UInt8} {L : List Nat} {k x : Nat} (h : L[k]? = some x) : (L.take k).flatMap f ++ f x = (L.take (k + 1)).flatMap f := by
  rw [List.take_add_one, h, List.flatMap_append]
  simp
theorem hflat_len (L : List Nat) : (L.flatMap (be 4)).length = L.length * 4 := chunk_len fun x _ => be_length 4 x
set_option maxRecDepth 100000 in
set_option maxHeartbeats 4000000 in
theorem RHBlock_any (h : Hdr) (ho : HdOk h) (W : World) : Calls Try.prog 11 #[.agg (hdCs h)] W fun e w' => e = .returned (.string (strOf (headL h))) ∧ Below W.heap.size W w' := by
  have hn := nums_small ho
  have hi := hd_nums ho
  have hby := hd_bytes ho
  obtain ⟨⟨cB, cY, cF, cN, cU, cL, cKy, cV⟩, r, ht⟩ := h
  obtain ⟨⟨e0, e1, e2, e3, e4, e5, e6, e7⟩, e9⟩ := hi
  simp only at e0 e1 e2 e3 e4 e5 e6 e7 e9 hby
  obtain ⟨n0, rfl⟩ : ∃ n : Nat, cB = n := ⟨cB.toNat, e0.symm⟩
  obtain ⟨n1, rfl⟩ : ∃ n : Nat, cY = n := ⟨cY.toNat, e1.symm⟩
  obtain ⟨n2, rfl⟩ : ∃ n : Nat, cF = n := ⟨cF.toNat, e2.symm⟩
  obtain ⟨n3, rfl⟩ : ∃ n : Nat, cN = n := ⟨cN.toNat, e3.symm⟩
  obtain ⟨n4, rfl⟩ : ∃ n : Nat, cU = n := ⟨cU.toNat, e4.symm⟩
  obtain ⟨n5, rfl⟩ : ∃ n : Nat, cL = n := ⟨cL.toNat, e5.symm⟩
  obtain ⟨n6, rfl⟩ : ∃ n : Nat, cKy = n := ⟨cKy.toNat, e6.symm⟩
  obtain ⟨n7, rfl⟩ : ∃ n : Nat, cV = n := ⟨cV.toNat, e7.symm⟩
  obtain ⟨t, rfl⟩ : ∃ n : Nat, ht = n := ⟨ht.toNat, e9.symm⟩
  clear e0 e1 e2 e3 e4 e5 e6 e7 e9
  obtain ⟨L, hL⟩ : ∃ L : List Nat, L = [n0, n1, n2, n3, n4, n5, n6, n7, r, t] := ⟨_, rfl⟩
  have hnum : hNums ⟨⟨(n0 : Int), (n1 : Int), (n2 : Int), (n3 : Int), (n4 : Int), (n5 : Int), (n6 : Int), (n7 : Int)⟩, r, (t : Int)⟩ = L := by
    rw [hL]
    simp only [hNums, Int.toNat_natCast]
  rw [hnum] at hn
  have hLl : L.length = 10 := by rw [hL]; rfl
  obtain ⟨fr, hfr⟩ : ∃ fr, fr = magicL ++ (L.flatMap (be 4) ++ zs 12) := ⟨_, rfl⟩
  have hfl : fr.length = 60 := by
    rw [hfr, List.length_append, List.length_append, hflat_len, hLl]
    rfl
  have hfront : frontL ⟨⟨(n0 : Int), (n1 : Int), (n2 : Int), (n3 : Int), (n4 : Int), (n5 : Int), (n6 : Int), (n7 : Int)⟩, r, (t : Int)⟩ = fr := by
    unfold frontL
    rw [hnum, hfr]
  obtain ⟨d, hd⟩ : ∃ d, d = n1 - 64 := ⟨_, rfl⟩
  have hbl : headL ⟨⟨(n0 : Int), (n1 : Int), (n2 : Int), (n3 : Int), (n4 : Int), (n5 : Int), (n6 : Int), (n7 : Int)⟩, r, (t : Int)⟩ = fr ++ be 4 (more 1 fr) ++ List.replicate d 0 := by
    unfold headL
    rw [hfront, List.append_assoc]
    congr 2
    unfold zs
    congr 1
    simp only
    omega
  rw [hbl]
  have hm := more_lt 1 fr
  obtain ⟨sm, hsm⟩ : ∃ sm, sm = more 1 fr := ⟨_, rfl⟩
  rw [← hsm] at hm ⊢
  have hsub : IntKind.i64.wrap ((n1 : Int) - 64) = (d : Int) := by rw [IntKind.wrap_i64]; omega
  have hd9 : d ≤ 65536 := by omega
  have hru : IntKind.i64.wrap (r : Int) = (r : Int) := by
    have := hn r (by rw [hL]; simp)
    rw [IntKind.wrap_i64]; omega
  have hsu : IntKind.u64.wrap (sm : Int) = (sm : Int) := by rw [IntKind.wrap_u64]; omega
  have cB : ∀ w v, v < 4294967296 → Hid (Calls Try.prog 19 #[.int .i64 4, .int .u64 ((v : Nat) : Int)] w fun e w' => (∃ A c, e = .returned (.slice A 4 c) ∧ BL w' A (be 4 v)) ∧ Below w.heap.size w w') := fun w v hv => (Wd.RBytes_any 4 v w (by omega)).mono fun e w' ⟨A, c, he, hb, hbw⟩ => by
    have hp : Wd.putL [] 4 v = be 4 v := by simp [Wd.putL, isW]
    rw [hp] at he hb
    rw [be_length] at he
    exact ⟨⟨A, c, he, hb⟩, hbw⟩
  unfold hdCs
  simp only
  clear hnum hfront hbl ho hby hd
  go_enter Try.func11, Try.ntmps11
  go_upto_region 1 with fail
  have hx := heap_alloc_new W (.cells #[.int .i64 (n0 : Int), .int .i64 (n1 : Int), .int .i64 (n2 : Int), .int .i64 (n3 : Int), .int .i64 (n4 : Int), .int .i64 (n5 : Int), .int .i64 (n6 : Int), .int .i64 (n7 : Int), .int .u32 (r : Int), .int .i64 (t : Int)] 32)
  have hb : Below W.heap.size W (W.alloc (.cells #[.int .i64 (n0 : Int), .int .i64 (n1 : Int), .int .i64 (n2 : Int), .int .i64 (n3 : Int), .int .i64 (n4 : Int), .int .i64 (n5 : Int), .int .i64 (n6 : Int), .int .i64 (n7 : Int), .int .u32 (r : Int), .int .i64 (t : Int)] 32)) := (Below.refl _ _).alloc (Nat.le_refl _) _
  generalize W.alloc (.cells #[.int .i64 (n0 : Int), .int .i64 (n1 : Int), .int .i64 (n2 : Int), .int .i64 (n3 : Int), .int .i64 (n4 : Int), .int .i64 (n5 : Int), .int .i64 (n6 : Int), .int .i64 (n7 : Int), .int .u32 (r : Int), .int .i64 (t : Int)] 32) = w1 at *
  obtain ⟨g, hg⟩ : ∃ g, g = W.heap.size := ⟨_, rfl⟩
  rw [← hg] at hx
  simp only [← hg]
  clear hg
  obtain ⟨g0, g1, g2, g3, g4, g5, g6, g7, g8, g9⟩ := box10 hx
  have HX := Lib.hid hx
  have HB := Lib.hid hb
  clear hx hb
  go_upto_region 2 with fail
  have hc := heap_alloc_new w1 (.cells #[.int .i64 (n0 : Int), .int .i64 (n1 : Int), .int .i64 (n2 : Int), .int .i64 (n3 : Int), .int .i64 (n4 : Int), .int .i64 (n5 : Int), .int .i64 (n6 : Int), .int .i64 (n7 : Int)] 23)
  have hb : Below w1.heap.size w1 (w1.alloc (.cells #[.int .i64 (n0 : Int), .int .i64 (n1 : Int), .int .i64 (n2 : Int), .int .i64 (n3 : Int), .int .i64 (n4 : Int), .int .i64 (n5 : Int), .int .i64 (n6 : Int), .int .i64 (n7 : Int)] 23)) := (Below.refl _ _).alloc (Nat.le_refl _) _
  generalize w1.alloc (.cells #[.int .i64 (n0 : Int), .int .i64 (n1 : Int), .int .i64 (n2 : Int), .int .i64 (n3 : Int), .int .i64 (n4 : Int), .int .i64 (n5 : Int), .int .i64 (n6 : Int), .int .i64 (n7 : Int)] 23) = w2 at *
  obtain ⟨q, hq⟩ : ∃ q, q = w1.heap.size := ⟨_, rfl⟩
  rw [← hq] at hc
  simp only [← hq]
  clear hq
  replace HX := Lib.hid (kept3 HX.out hb)
  replace HB := Lib.hid (HB.out.trans (hb.mono HB.out.size))
  have HC := Lib.hid hc
  clear g0 g1 g2 g3 g4 g5 g6 g7 g8 g9 hc hb
  obtain ⟨-, -, -, -, -, -, -, -, g8, g9⟩ := box10 HX.out
  obtain ⟨d0, d1, d2, d3, d4, d5, d6, d7⟩ := Cf.box8 HC.out
  go_upto_region 3 with fail
  have hr := heap_alloc_new w2 (.cells #[.int .i64 (n0 : Int), .int .i64 (n1 : Int), .int .i64 (n2 : Int), .int .i64 (n3 : Int), .int .i64 (n4 : Int), .int .i64 (n5 : Int), .int .i64 (n6 : Int), .int .i64 (n7 : Int), .int .i64 (r : Int), .int .i64 (t : Int)] 3)
  have hb : Below w2.heap.size w2 (w2.alloc (.cells #[.int .i64 (n0 : Int), .int .i64 (n1 : Int), .int .i64 (n2 : Int), .int .i64 (n3 : Int), .int .i64 (n4 : Int), .int .i64 (n5 : Int), .int .i64 (n6 : Int), .int .i64 (n7 : Int), .int .i64 (r : Int), .int .i64 (t : Int)] 3)) := (Below.refl _ _).alloc (Nat.le_refl _) _
  generalize w2.alloc (.cells #[.int .i64 (n0 : Int), .int .i64 (n1 : Int), .int .i64 (n2 : Int), .int .i64 (n3 : Int), .int .i64 (n4 : Int), .int .i64 (n5 : Int), .int .i64 (n6 : Int), .int .i64 (n7 : Int), .int .i64 (r : Int), .int .i64 (t : Int)] 3) = w3 at *
  obtain ⟨b, hbq⟩ : ∃ b, b = w2.heap.size := ⟨_, rfl⟩
  rw [← hbq] at hr
  simp only [← hbq]
  clear hbq
  replace HC := Lib.hid (kept3 HC.out hb)
  replace HB := Lib.hid (HB.out.trans (hb.mono HB.out.size))
  have HR : Hid (w3.heap[b]? = some (.cells (L.map intV).toArray 3 (0, 0))) := by
    unfold Hid
    rw [hL]
    exact hr
  have HN := Lib.hid hn
  have HLL := Lib.hid hLl
  have HF := Lib.hid hfr
  have HFL := Lib.hid hfl
  have HSM := Lib.hid hsm
  have HM := Lib.hid hm
  clear g8 g9 d0 d1 d2 d3 d4 d5 d6 d7 hr hb HX hn hLl hfr hfl hL hru hsm hm
  go_wp2_with fail
  go_loopg [5, 6] 10 (fun gk sv kv wr => ∃ (k : Nat), k ≤ 10 ∧ gk = 10 - k ∧ kv = .int .i64 (k : Int) ∧ sv = .string (strOf (magicL ++ (L.take k).flatMap (be 4))) ∧ Hid (wr.heap[q]? = some (.cells #[.int .i64 (n0 : Int), .int .i64 (n1 : Int), .int .i64 (n2 : Int), .int .i64 (n3 : Int), .int .i64 (n4 : Int), .int .i64 (n5 : Int), .int .i64 (n6 : Int), .int .i64 (n7 : Int)] 23 (0, 0))) ∧ Hid (wr.heap[b]? = some (.cells (L.map intV).toArray 3 (0, 0))) ∧ Hid (Below W.heap.size W wr))
  case atStart => exact ⟨0, by omega, rfl, rfl, rfl, HC, HR, HB⟩
  case round =>
    obtain ⟨k, hk, rfl, rfl, rfl, HC, HR, HB⟩ := hrel
    by_cases hlt : k < 10
    · obtain ⟨x, hx⟩ : ∃ x, L[k]? = some x := ⟨_, List.getElem?_eq_getElem (by have := HLL.out; omega)⟩
      have c0 := intRow HR.out hx
      have hx9 := HN.out x (List.mem_of_getElem? hx)
      have hxu : IntKind.u64.wrap (x : Int) = (x : Int) := by rw [IntKind.wrap_u64]; omega
      have hlen : ((L.take k).flatMap (be 4)).length = k * 4 := by
        rw [hflat_len, List.length_take, HLL.out, Nat.min_eq_left hk]
      have hcat : ∀ w, (Op.stringOp .add (strOf (magicL ++ (L.take k).flatMap (be 4))) (strOf (be 4 x))).run Try.prog w = .ok (.string (strOf (magicL ++ (L.take (k + 1)).flatMap (be 4)))) w := fun w => by
        rw [cat_any _ _ (by rw [List.length_append, hlen, be_length]; have : magicL.length = 8 := rfl; omega), List.append_assoc, hflat_succ hx]
      clear hlen hx
      obtain ⟨s2, hs2⟩ : ∃ s2, s2 = strOf (magicL ++ (L.take (k + 1)).flatMap (be 4)) := ⟨_, rfl⟩
      rw [← hs2] at hcat
      have HS2 := Lib.hid hs2
      clear hs2
      generalize strOf (magicL ++ (L.take k).flatMap (be 4)) = s1 at *
      have hlk : (k : Int) < 10 := by omega
      go_wp2_with (go_at_call 19; refine (cB _ x hx9).out.mono ?_; rintro e w5 ⟨⟨A, c, rfl, hbl⟩, hb⟩; have rt := run_text_n (P := Try.prog) Try.underlying27 Try.underlying5 Try.underlying9 hbl (n := 4) (be_length 4 x) c; replace HC := Lib.hid (kept3 HC.out hb); replace HR := Lib.hid (kept3 HR.out hb); replace HB := Lib.hid (HB.out.trans (hb.mono HB.out.size)); clear hb hbl c0)
      go_roundg (10 - (k + 1))
      case measure => omega
      case rel => exact ⟨k + 1, hlt, rfl, by go_num, by rw [HS2.out], HC, HR, HB⟩
    · obtain rfl : k = 10 := by omega
      have htk : L.take 10 = L := by rw [← HLL.out, List.take_length]
      rw [htk]
      clear HR hlt hk
      obtain ⟨z12, hz⟩ : ∃ z, z = List.replicate 12 (0 : UInt8) := ⟨_, rfl⟩
      have hmk : ∀ w, (Instr.makeSlice 27 (.int .i64 12) (.int .i64 12)).run Try.prog w = .ok (.slice (some ⟨w.heap.size, 0, none⟩) 12 12) (w.alloc (.cells (bytesV z12).toArray 5)) := fun w => by
        rw [hz]
        exact Wd.run_makeBytes 12 (by decide) w
      have hrow := Row.new 5 wr z12
      have hb : Below wr.heap.size wr (wr.alloc (.cells (bytesV z12).toArray 5)) := (Below.refl _ _).alloc (Nat.le_refl _) _
      have rt := run_text_n (P := Try.prog) Try.underlying27 Try.underlying5 Try.underlying9 hrow.bl (n := 12) (by rw [hz]; rfl) 12
      replace HC := Lib.hid (kept3 HC.out hb)
      replace HB := Lib.hid (HB.out.trans (hb.mono HB.out.size))
      have hcat : ∀ w, (Op.stringOp .add (strOf (magicL ++ L.flatMap (be 4))) (strOf z12)).run Try.prog w = .ok (.string (strOf fr)) w := fun w => by
        rw [hz, cat_any _ _ (by rw [List.length_append, hflat_len, HLL.out]; decide), List.append_assoc, HF.out]
        rfl
      generalize strOf (magicL ++ L.flatMap (be 4)) = s1 at *
      generalize strOf z12 = s12 at *
      have hmk1 := hmk wr
      generalize wr.alloc (.cells (bytesV z12).toArray 5) = w5 at *
      clear hb hrow hmk hz
      go_upto_region 9 with fail
      clear hmk1 rt hcat
      obtain ⟨cc, w6, hcv, hbl, hb, hccl⟩ := conv_text (P := Try.prog) Try.underlying9 Try.underlying27 Try.underlying5 (strOf fr) w5
      have hfs : (strOf fr).size = 60 := by rw [strOf_size, HFL.out]
      rw [hfs] at hcv
      have cS : Hid (Calls Try.prog 20 #[.slice (some ⟨w5.heap.size, 0, none⟩) 60 cc] w6 fun e w' => e = .returned (.int .u32 (sm : Int)) ∧ w6 = w') := by
        have h9 := Ck.RSum_any (some ⟨w5.heap.size, 0, none⟩) cc fr w6 hbl (by have := HFL.out; omega)
        rw [HFL.out, ← HSM.out] at h9
        exact h9
      have hcat : ∀ w, (Op.stringOp .add (strOf fr) (strOf (be 4 sm))).run Try.prog w = .ok (.string (strOf (fr ++ be 4 sm))) w := fun w => cat_any _ _ (by rw [HFL.out, be_length]; decide) w
      replace HC := Lib.hid (kept3 HC.out hb)
      replace HB := Lib.hid (HB.out.trans (hb.mono HB.out.size))
      have hfl4 : (fr ++ be 4 sm).length = 64 := by rw [List.length_append, HFL.out, be_length]
      have hcat2 : ∀ w, (Op.stringOp .add (strOf (fr ++ be 4 sm)) (strOf (List.replicate d 0))).run Try.prog w = .ok (.string (strOf (fr ++ be 4 sm ++ List.replicate d 0))) w := fun w => cat_any _ _ (by rw [hfl4, List.length_replicate]; omega) w
      obtain ⟨sR, hsR⟩ : ∃ s, s = strOf (fr ++ be 4 sm ++ List.replicate d 0) := ⟨_, rfl⟩
      rw [← hsR] at hcat2
      have HSR := Lib.hid hsR
      clear hsR
      generalize strOf (fr ++ be 4 sm) = sQ at *
      generalize strOf fr = sP at *
      clear hbl hb hccl hfs hfl4
      go_upto_region 10 with (first
        | (go_at_call 20; refine cS.out.mono ?_; rintro e w' ⟨rfl, rfl⟩)
        | (go_at_call 19; refine (cB _ sm HM.out).out.mono ?_; rintro e w7 ⟨⟨A, c, rfl, hbl⟩, hb⟩; have rt := run_text_n (P := Try.prog) Try.underlying27 Try.underlying5 Try.underlying9 hbl (n := 4) (be_length 4 sm) c; replace HC := Lib.hid (kept3 HC.out hb); replace HB := Lib.hid (HB.out.trans (hb.mono HB.out.size)); clear hb hbl))
      clear hcv hcat cS
      obtain ⟨-, d1, -, -, -, -, -, -⟩ := Cf.box8 HC.out
      obtain ⟨zd, hzd⟩ : ∃ z, z = List.replicate d (0 : UInt8) := ⟨_, rfl⟩
      have hmk := Wd.run_makeBytes d (by omega) w7
      rw [← hzd] at hmk hcat2
      have hrow := Row.new 5 w7 zd
      have hb : Below w7.heap.size w7 (w7.alloc (.cells (bytesV zd).toArray 5)) := (Below.refl _ _).alloc (Nat.le_refl _) _
      have rt := run_text_n (P := Try.prog) Try.underlying27 Try.underlying5 Try.underlying9 hrow.bl (n := d) (by rw [hzd]; simp) d
      replace HB := Lib.hid (HB.out.trans (hb.mono HB.out.size))
      generalize strOf zd = s12 at *
      generalize w7.alloc (.cells (bytesV zd).toArray 5) = w8 at *
      clear hb hrow HC
      go_wp2_with fail
      go_ret
      exact ⟨by rw [← HSR.out]; rfl, HB.out⟩
end No
end Go.Proofs.Yteefkhgmcknbaaa
