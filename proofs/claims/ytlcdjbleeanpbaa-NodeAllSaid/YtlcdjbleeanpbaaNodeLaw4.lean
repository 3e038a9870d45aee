/-
  node's laws: NodeAll.
-/
import Derived.Test.YtlcdjbleeanpbaaNodeO
import Derived.Test.YtlcdjbleeanpbaaNodeS
namespace Go.Proofs.Ytlcdjbleeanpbaa
open Go.RowKit
namespace No
open Mem Lx Bu Lf Fa
set_option maxRecDepth 100000 in
set_option maxHeartbeats 16000000 in
theorem NodeAll_walk (n : Nd) (a : At) (b : Nat) (W : World) (h : NdIn W n a) (hok : NdOk n) (hb32 : b < 4294967296) : Calls Try.prog 6 #[.agg (ndCs n a), .int .u32 (b : Int)] W fun e w' => e = .returned (.bool true) ∧ Below W.heap.size W w' := by
  obtain ⟨gb, hgb⟩ := bool_of (¬ Fit n)
  have cG : ∀ w, Below W.heap.size W w → Hid (Calls Try.prog 7 #[.agg (ndCs n a)] w fun e w' => e = .returned (.bool gb) ∧ Below w.heap.size w w') := fun w hb => (Great_any (h.kept hb) hok).mono fun e w' ⟨⟨v, he, hv⟩, hb⟩ => ⟨by
    rw [he]
    cases v <;> cases gb <;> simp_all, hb⟩
  have HGB : Hid (gb = false → Fit n) := fun e => Classical.not_not.1 fun hn => by
    rw [hgb.2 hn] at e
    cases e
  obtain ⟨pb, hpb⟩ := bool_of (PlainN n)
  have cP : Fit n → ∀ w, Below W.heap.size W w → Hid (Calls Try.prog 16 #[.agg (ndCs n a)] w fun e w' => e = .returned (.bool pb) ∧ Below w.heap.size w w') := fun f w hb => (RPlain_any (h.kept hb) f.sz).mono fun e w' ⟨⟨v, he, hv⟩, hb⟩ => ⟨by rw [he, bool_one hv hpb], hb⟩
  have HPB : Hid (pb = true → PlainN n) := hpb.1
  have cL : Fit n → PlainN n → ∀ w, Below W.heap.size W w → Hid (Calls Try.prog 17 #[.agg (ndCs n a)] w fun e w' => (∃ A c, e = .returned (.slice A n.kids.length c) ∧ IL w' A (loadsN n)) ∧ Below w.heap.size w w') := fun f p w hb => Loads_any (h.kept hb) f p
  have cH : Fit n → PlainN n → ∀ w, Below W.heap.size W w → Hid (Calls Try.prog 19 #[.agg (ndCs n a)] w fun e w' => e = .returned (.tuple #[.int .i64 (heavN (ldN n) n.kids.length : Int), .int .i64 (ldN n (heavN (ldN n) n.kids.length) : Int)]) ∧ Below w.heap.size w w') := fun f p w hb => Heaviest_any (h.kept hb) f p

  have cF : Fit n → ∀ w, Below W.heap.size W w → Hid (Calls Try.prog 23 #[.agg (ndCs n a), .int .u32 (b : Int)] w fun e w' => (∃ (v : Nat) (ok : Bool), e = .returned (.tuple #[.int .i64 (v : Int), .bool ok]) ∧ FindP n.kids b v ok) ∧ Below w.heap.size w w') := fun f w hb => Find_any (h.kept hb) f b hb32
  have HKI : Hid (KL W a.kA n.kids) := h.kids.1
  have HON : Hid (PlainN n → 1 ≤ n.kids.length) := fun p => by have := p.2.2; omega
  have HLA : Hid (∀ i, i < n.kids.length → (loadsN n)[i]? = some (ldN n i : Int)) := fun i hi => by
    rw [List.getElem?_eq_getElem (by rw [loadsN_len]; exact hi), loadsN_at]
  have HLE : Hid ((loadsN n).length = n.kids.length) := loadsN_len n
  have HSU : Hid (PlainN n → sumN (ldN n) n.kids.length = n.buf.length) := fun p => p.sum
  have HMO : Hid (PlainN n → n.buf.length ≤ ldN n (heavN (ldN n) n.kids.length) * n.kids.length) := fun p => p.most
  have HLM : Hid (∀ i, ldN n i ≤ n.buf.length) := fun i => loadN_le _ _ _
  generalize hlds : loadsN n = ls at *
  generalize hldf : ldN n = f at *
  have hk80 : gb = false → n.kids.length ≤ 80 := fun e => (HGB.out e).kids
  have hb150 : gb = false → n.buf.length ≤ 150 := fun e => (HGB.out e).buf
  clear h hok hgb hpb hlds hldf hb32
  obtain ⟨F, hF⟩ : ∃ F : Prop, F = Fit n := ⟨_, rfl⟩
  obtain ⟨PN, hPN⟩ : ∃ PN : Prop, PN = PlainN n := ⟨_, rfl⟩
  rw [← hF] at HGB
  rw [← hPN] at HPB HON HSU HMO
  simp only [← hF, ← hPN] at cP cL cH cF
  clear hF hPN
  obtain ⟨lv, K, L, B, Q⟩ := n
  obtain ⟨kA, kc, pA, pc, bA, bc, qA, qc⟩ := a
  unfold ndCs at *
  simp only at *
  generalize hkn : K.length = kn at *
  generalize L.length = pn at *
  generalize B.length = bn at *
  generalize Q.length = qn at *
  have HKN := Lib.hid hkn
  clear hkn
  generalize heavN f kn = hv at *
  have HFM : Hid (f hv ≤ bn) := HLM.out hv
  generalize hfv : f hv = fv at cH HMO HFM
  clear hfv HLM
  go_enter Try.func6, Try.ntmps6
  go_upto_region 1 with fail
  have hx := heap_alloc_new W (.cells #[.int .i64 lv, .slice kA kn kc, .slice pA pn pc, .slice bA bn bc, .slice qA qn qc] 31)
  have hb0 : Below W.heap.size W (W.alloc (.cells #[.int .i64 lv, .slice kA kn kc, .slice pA pn pc, .slice bA bn bc, .slice qA qn qc] 31)) := (Below.refl _ _).alloc (Nat.le_refl _) _
  generalize W.alloc (.cells #[.int .i64 lv, .slice kA kn kc, .slice pA pn pc, .slice bA bn bc, .slice qA qn qc] 31) = w1 at *
  have HW := Lib.hid hb0
  obtain ⟨g, hg⟩ : ∃ g, g = W.heap.size := ⟨_, rfl⟩
  simp only [← hg]
  rw [← hg] at hx
  have HX := Lib.hid hx
  obtain ⟨d0, d1, d2, d3, d4⟩ := box5 hx
  clear hx hb0 hg
  cases gb with
  | true =>
    clear cP cL cH cF
    go_wp2_with (first | (go_at_call 7; refine (cG _ HW.out).out.mono ?_; rintro e w2 ⟨rfl, hb⟩; clear cG; replace HW := Lib.hid (HW.out.trans (hb.mono HW.out.size)); replace HX := Lib.hid (kept3 HX.out hb); clear hb d0 d1 d2 d3 d4; obtain ⟨d0, d1, d2, d3, d4⟩ := box5 HX.out) | (go_at_call 8; refine (awake_any _).mono ?_; rintro e w3 ⟨rfl, hb⟩; have HBF := Lib.hid (HW.out.trans (hb.mono HW.out.size))))
    go_ret
    exact ⟨rfl, HBF.out⟩
  | false =>
  replace cP := cP (HGB.out rfl)
  replace hk80 := hk80 rfl
  replace hb150 := hb150 rfl
  cases pb with
  | false =>
    clear cL cH cF
    go_wp2_with (first | (go_at_call 7; refine (cG _ HW.out).out.mono ?_; rintro e w2 ⟨rfl, hb⟩; clear cG; replace HW := Lib.hid (HW.out.trans (hb.mono HW.out.size)); replace HX := Lib.hid (kept3 HX.out hb); clear hb d0 d1 d2 d3 d4; obtain ⟨d0, d1, d2, d3, d4⟩ := box5 HX.out) | (go_at_call 16; refine (cP _ HW.out).out.mono ?_; rintro e w3 ⟨rfl, hb⟩; clear cP; replace HW := Lib.hid (HW.out.trans (hb.mono HW.out.size)); replace HX := Lib.hid (kept3 HX.out hb); clear hb d0 d1 d2 d3 d4; obtain ⟨d0, d1, d2, d3, d4⟩ := box5 HX.out) | (go_at_call 8; refine (awake_any _).mono ?_; rintro e w3 ⟨rfl, hb⟩; have HBF := Lib.hid (HW.out.trans (hb.mono HW.out.size))))
    go_ret
    exact ⟨rfl, HBF.out⟩
  | true =>
  replace cL := cL (HGB.out rfl) (HPB.out rfl)
  replace cH := cH (HGB.out rfl) (HPB.out rfl)
  replace cF := cF (HGB.out rfl)
  have hk1 := HON.out (HPB.out rfl)
  have HSU2 := Lib.hid (HSU.out (HPB.out rfl))
  have HMO2 := Lib.hid (HMO.out (HPB.out rfl))
  clear HGB HPB HON HSU HMO
  go_upto_region 5 with (first | (go_at_call 7; refine (cG _ HW.out).out.mono ?_; rintro e w2 ⟨rfl, hb⟩; clear cG; replace HW := Lib.hid (HW.out.trans (hb.mono HW.out.size)); replace HX := Lib.hid (kept3 HX.out hb); clear hb d0 d1 d2 d3 d4; obtain ⟨d0, d1, d2, d3, d4⟩ := box5 HX.out) | (go_at_call 16; refine (cP _ HW.out).out.mono ?_; rintro e w3 ⟨rfl, hb⟩; clear cP; replace HW := Lib.hid (HW.out.trans (hb.mono HW.out.size)); replace HX := Lib.hid (kept3 HX.out hb); clear hb d0 d1 d2 d3 d4; obtain ⟨d0, d1, d2, d3, d4⟩ := box5 HX.out) | (go_at_call 17; refine (cL _ HW.out).out.mono ?_; rintro e w4 ⟨⟨A1, c1, rfl, h1⟩, hb⟩; have HL := Lib.hid h1; clear h1 cL; replace HW := Lib.hid (HW.out.trans (hb.mono HW.out.size)); replace HX := Lib.hid (kept3 HX.out hb); clear hb d0 d1 d2 d3 d4; obtain ⟨d0, d1, d2, d3, d4⟩ := box5 HX.out))
  obtain ⟨b1, o1, e1, -⟩ := HL.out.at_ (i := 0) (by rw [HLE.out]; omega)
  subst e1
  go_upto_block 0 with fail
  go_cut [5] (fun sv wx => sv = .int .i64 (bn : Int) ∧ w4 = wx)
  case first =>
    go_wp2_with fail
    go_loopg [5, 7] kn (fun gk sv iv wr => ∃ k s : Nat, k ≤ kn ∧ gk = kn - k ∧ iv = .int .i64 (k : Int) ∧ sv = .int .i64 (s : Int) ∧ Hid (s = sumN f k) ∧ w4 = wr)
    case atStart => exact ⟨0, 0, Nat.zero_le _, rfl, rfl, rfl, rfl, rfl⟩
    case round =>
      obtain ⟨k, s, hk, rfl, rfl, rfl, HS, rfl⟩ := hrel
      by_cases hlt : k < kn
      · obtain ⟨b1', o1', e1, c0⟩ := HL.out.at_ (i := k) (by rw [HLE.out]; exact hlt)
        obtain ⟨rfl, rfl⟩ : b1 = b1' ∧ o1 = o1' := by simpa using e1
        have hlk : ls[k]'(by rw [HLE.out]; exact hlt) = (f k : Int) := by
          have := HLA.out k hlt
          rw [List.getElem?_eq_getElem (by rw [HLE.out]; exact hlt)] at this
          exact Option.some.inj this
        rw [hlk] at c0
        have HS2 : Hid (s + f k = sumN f (k + 1)) := by
          unfold Hid
          rw [HS.out]
          rfl
        have hle : s + f k ≤ bn := by
          rw [HS2.out, ← HSU2.out]
          exact sumN_mono f kn (by omega)
        generalize f k = fk at *
        have hw2 : IntKind.i64.wrap ((k : Int) + 1) = ((k + 1 : Nat) : Int) := by rw [IntKind.wrap_i64]; omega
        have hw3 : IntKind.i64.wrap ((s : Int) + (fk : Int)) = ((s + fk : Nat) : Int) := by rw [IntKind.wrap_i64]; omega
        have HLEQ := Lib.hid hle
        clear hlk e1 hle HS
        go_wp2_with fail
        go_roundg (kn - (k + 1))
        case measure => omega
        case rel => exact ⟨k + 1, s + fk, hlt, rfl, by go_num, by go_num, HS2, rfl⟩
      · obtain rfl : k = kn := by omega
        obtain rfl : s = bn := by rw [HS.out, HSU2.out]
        clear hlt
        go_wp2_with fail
        go_meet
        exact ⟨rfl, rfl⟩
  case rest =>
  obtain ⟨rfl, rfl⟩ := hcut
  clear HL HLA HLE HSU2
  go_upto_region 10 with (go_at_call 19; refine (cH _ HW.out).out.mono ?_; rintro e w8 ⟨rfl, hb⟩; replace HW := Lib.hid (HW.out.trans (hb.mono HW.out.size)); replace HX := Lib.hid (kept3 HX.out hb); clear hb d0 d1 d2 d3 d4; obtain ⟨d0, d1, d2, d3, d4⟩ := box5 HX.out)
  go_upto_region 11 with (go_at_call 23; refine (cF _ HW.out).out.mono ?_; rintro e w9 ⟨⟨v, ok, rfl, hfp⟩, hb⟩; have HFP := Lib.hid hfp; clear hfp; replace HW := Lib.hid (HW.out.trans (hb.mono HW.out.size)); replace HX := Lib.hid (kept3 HX.out hb); clear hb d0 d1 d2 d3 d4; obtain ⟨d0, d1, d2, d3, d4⟩ := box5 HX.out)
  clear cH cF
  have hwk : IntKind.i64.wrap ((kn : Int) - 1) = (kn : Int) - 1 := by rw [IntKind.wrap_i64]; omega
  go_upto_block 2 with fail
  go_cut [12] (fun yv wx => ∃ y : Int, yv = .int .i64 y ∧ Hid (WantP K b 0 y) ∧ w9 = wx)
  case first =>
    go_wp2_with fail
    go_loopg [12, 13] kn (fun gk yv zv wr => ∃ (j : Nat) (z y : Int), j ≤ kn ∧ gk = j ∧ zv = .int .i64 z ∧ yv = .int .i64 y ∧ Hid (z + 1 = (j : Int)) ∧ Hid (WantP K b j y) ∧ w9 = wr)
    case atStart => exact ⟨kn, (kn : Int) - 1, -1, Nat.le_refl _, rfl, rfl, rfl, Lib.hid (by omega), Lib.hid (by rw [← HKN.out]; exact WantP.none_ K b), rfl⟩
    case round =>
      obtain ⟨j, z, y, hj, rfl, rfl, rfl, HZ, HY, rfl⟩ := hrel
      clear hwk
      rcases Nat.eq_zero_or_pos gk with rfl | h0
      · obtain rfl : z = -1 := by
          have := HZ.out
          omega
        go_wp2_with fail
        go_meet
        exact ⟨y, rfl, HY, rfl⟩
      · obtain ⟨i, hi⟩ : ∃ i, gk = i + 1 := ⟨gk - 1, by omega⟩
        obtain rfl : z = (i : Int) := by
          have := HZ.out
          omega
        have hik : i < kn := by omega
        have hiL : i < K.length := by rw [HKN.out]; exact hik
        obtain ⟨x, hxx⟩ : ∃ x, x = K[i] := ⟨_, rfl⟩
        have hx' := nat_lenK hiL
        rw [← hxx] at hx'
        obtain ⟨b2, o2, e, -, c0⟩ := RdK.kid (HKI.out.kept HW.out) hx'
        subst e
        have hwi : IntKind.i64.wrap ((i : Int) - 1) = (i : Int) - 1 := by rw [IntKind.wrap_i64]; omega
        have HI := Lib.hid hi
        by_cases hxb : x = b
        · have ht : ((x : Int) == (b : Int)) = true := by simp [hxb]
          have HY2 : Hid (WantP K b i (i : Int)) := WantP.here (by rw [hx', hxb])
          clear hxx hx' hiL hxb hi
          go_wp2_with fail
          go_roundg i
          case measure => have := HI.out; omega
          case rel => exact ⟨i, (i : Int) - 1, (i : Int), by omega, rfl, rfl, rfl, Lib.hid (by omega), HY2, rfl⟩
        · have ht : ((x : Int) == (b : Int)) = false := by simp; omega
          have HY2 : Hid (WantP K b i y) := WantP.less (by rw [← hi]; exact HY.out) hx' hxb
          clear hxx hx' hiL hxb hi
          go_wp2_with fail
          go_roundg i
          case measure => have := HI.out; omega
          case rel => exact ⟨i, (i : Int) - 1, y, by omega, rfl, rfl, rfl, Lib.hid (by omega), HY2, rfl⟩
  case rest =>
  obtain ⟨y, rfl, HY, rfl⟩ := hcut
  obtain ⟨p, hp⟩ : ∃ p, p = fv * kn := ⟨_, rfl⟩
  have hp1 : bn ≤ p := by rw [hp]; exact HMO2.out
  have hp2 : p ≤ 150 * 80 := by rw [hp]; exact Nat.mul_le_mul (Nat.le_trans HFM.out hb150) hk80
  have hwm : IntKind.i64.wrap ((fv : Int) * (kn : Int)) = (p : Int) := by
    rw [show (fv : Int) * (kn : Int) = (p : Int) by rw [hp, Int.natCast_mul], IntKind.wrap_i64]
    omega
  have t1 : ((bn : Int) == (bn : Int)) = true := beq_self_eq_true _
  have t2 : (bn : Int) ≤ (p : Int) := by omega
  have HAF := Lib.hid (HY.out.find HFP.out)
  clear hp hp1 hp2 HMO2 HFM HY HFP hwk
  rcases HAF.out with ⟨rfl, rfl⟩ | ⟨rfl, rfl, rfl⟩
  · have t3 : ((v : Int) == (v : Int)) = true := beq_self_eq_true _
    clear HAF
    go_wp2_with (go_at_call 8; refine (awake_any _).mono ?_; rintro e w3 ⟨rfl, hb⟩; have HBF := Lib.hid (HW.out.trans (hb.mono HW.out.size)))
    go_ret
    exact ⟨rfl, HBF.out⟩
  · clear HAF
    go_wp2_with (go_at_call 8; refine (awake_any _).mono ?_; rintro e w3 ⟨rfl, hb⟩; have HBF := Lib.hid (HW.out.trans (hb.mono HW.out.size)))
    go_ret
    exact ⟨rfl, HBF.out⟩
end No
end Go.Proofs.Ytlcdjbleeanpbaa
