/-
  The document's node: Key, outer.
-/
import Derived.Test.YtlcdjbleeanpbaaNodeD
import Derived.Test.YtlcdjbleeanpbaaNodeG
namespace Go.Proofs.Ytlcdjbleeanpbaa
open Go.RowKit
namespace No
open Mem Lx Bu Lf Fa
set_option maxRecDepth 100000 in
set_option maxHeartbeats 2000000 in
theorem RKey_any (c : Cfg) (key : ByteArray) (W : World) : Calls Try.prog 12 #[.agg (cfCs c), .string key] W fun e w' => e = .returned (.bool (keyB c key)) ∧ Below W.heap.size W w' := by
  have HP := Lib.hid (show keyB c key = (decide (1 ≤ (key.size : Int)) && decide ((key.size : Int) ≤ c.key)) from rfl)
  generalize keyB c key = v at *
  unfold cfCs
  obtain ⟨cB, cY, cF, cN, cU, cL, cK, cV⟩ := c
  simp only at *
  by_cases h1 : 1 ≤ (key.size : Int)
  · have HR : Hid (v = decide ((key.size : Int) ≤ cK)) := Lib.hid (by rw [HP.out]; simp [h1])
    clear HP
    go_enter Try.func12, Try.ntmps12
    go_wp2_with fail
    go_ret
    exact ⟨ret_bool HR.out.symm, (Below.refl _ _).alloc (Nat.le_refl _) _⟩
  · have HR : Hid (v = false) := Lib.hid (by rw [HP.out]; simp [h1])
    have h2 : decide (1 ≤ (key.size : Int)) = false := by simpa using h1
    clear HP h1
    go_enter Try.func12, Try.ntmps12
    go_wp2_with fail
    go_ret
    exact ⟨ret_bool HR.out.symm, (Below.refl _ _).alloc (Nat.le_refl _) _⟩

set_option maxRecDepth 100000 in
set_option maxHeartbeats 8000000 in
theorem Router_any {W : World} (c : Cfg) (lo hi : ByteArray) (top : Bool) {n : Nd} {a : At} (h : NdIn W n a) (hf : Fit n) (hlo : lo.size ≤ maxLen) : Calls Try.prog 28 #[.agg (cfCs c), spanV lo hi top, .agg (ndCs n a)] W fun e w' => (∃ v : Bool, e = .returned (.bool v) ∧ (v = true ↔ OuterP c lo hi top n)) ∧ Below W.heap.size W w' := by
  obtain ⟨P, hP⟩ : ∃ P : Prop, P = OuterP c lo hi top n := ⟨_, rfl⟩
  have HP : Hid (P → OuterP c lo hi top n) := fun h => by rw [hP] at h; exact h
  have HQ : Hid (OuterP c lo hi top n → P) := fun h => by rw [hP]; exact h
  rw [← hP]
  clear hP
  have cK := fun (k : ByteArray) (w : World) => Lib.hid (RKey_any c k w)
  obtain ⟨lv, K, L, B, Q⟩ := n
  obtain ⟨kA, kc, pA, pc, bA, bc, qA, qc⟩ := a
  have l1 := hf.kids
  have l2 := hf.piv
  have l3 := hf.buf
  have l4 := hf.prs
  have HKI : Hid (KL W kA K) := h.kids.1
  have HPI : Hid (SL W pA L) := h.piv.1
  have HBU : Hid (RdK MgK W bA B) := h.buf.1
  have HPR : Hid (PL W qA Q) := h.prs.1
  have HSK : Hid (∀ p, p ∈ L → p.size ≤ maxLen) := fun p hp => Nat.le_trans (hf.pk p hp) (by decide)
  have HSB : Hid (∀ m, m ∈ B → m.1.size ≤ maxLen) := fun p hp => Nat.le_trans (hf.bk p hp) (by decide)
  have HSQ : Hid (∀ m, m ∈ Q → m.1.size ≤ maxLen) := fun p hp => Nat.le_trans (hf.qk p hp) (by decide)
  have cI := fun (k : ByteArray) (w : World) (hk : k.size ≤ maxLen) => Lib.hid (RIn_any lo hi top k w hlo hk)
  have cR := fun (w : World) (hb : Below W.heap.size W w) => Lib.hid (Lf.RRight_any (c := qc) (HPR.out.kept hb) HSQ.out (Nat.le_trans l4 (by decide)))
  obtain ⟨cB, cY, cF, cN, cU, cL, cKy, cV⟩ := c
  unfold ndCs cfCs
  unfold cfCs at cK
  simp only at *
  generalize hkn : K.length = kn at *
  generalize hpn : L.length = pn at *
  generalize hbn : B.length = bn at *
  generalize hqn : Q.length = qn at *
  have HKN := Lib.hid hkn
  have HPN := Lib.hid hpn
  have HBN := Lib.hid hbn
  have HQN := Lib.hid hqn
  clear h hf hkn hpn hbn hqn hlo
  go_enter Try.func28, Try.ntmps28
  go_upto_region 1 with fail
  have HB0 := Lib.hid (B3.new W (.cells #[.int .i64 cB, .int .i64 cY, .int .i64 cF, .int .i64 cN, .int .i64 cU, .int .i64 cL, .int .i64 cKy, .int .i64 cV] 23) (.cells #[.string lo, .string hi, .bool top] 25) (.cells #[.int .i64 lv, .slice kA kn kc, .slice pA pn pc, .slice bA bn bc, .slice qA qn qc] 31))
  generalize ((W.alloc (.cells #[.int .i64 cB, .int .i64 cY, .int .i64 cF, .int .i64 cN, .int .i64 cU, .int .i64 cL, .int .i64 cKy, .int .i64 cV] 23)).alloc (.cells #[.string lo, .string hi, .bool top] 25)).alloc (.cells #[.int .i64 lv, .slice kA kn kc, .slice pA pn pc, .slice bA bn bc, .slice qA qn qc] 31) = w1 at *
  obtain ⟨g, hg⟩ : ∃ g, g = W.heap.size := ⟨_, rfl⟩
  rw [← hg] at HB0
  simp only [← hg]
  clear hg
  go_upto_block 0 with fail
  go_cut [] (fun wx => Hid (∀ p, p ∈ Q → PrOk ⟨cB, cY, cF, cN, cU, cL, cKy, cV⟩ lo hi top p) ∧ Hid (B3 W g (.cells #[.int .i64 cB, .int .i64 cY, .int .i64 cF, .int .i64 cN, .int .i64 cU, .int .i64 cL, .int .i64 cKy, .int .i64 cV] 23) (.cells #[.string lo, .string hi, .bool top] 25) (.cells #[.int .i64 lv, .slice kA kn kc, .slice pA pn pc, .slice bA bn bc, .slice qA qn qc] 31) wx))
  case first =>
    go_wp2_with fail
    go_loopg [7] qn (fun gk iv wx => ∃ j : Nat, j ≤ qn ∧ gk = qn - j ∧ iv = .int .i64 (j : Int) ∧ Hid (∀ (i : Nat) (y : Pr), i < j → Q[i]? = some y → PrOk ⟨cB, cY, cF, cN, cU, cL, cKy, cV⟩ lo hi top y) ∧ Hid (B3 W g (.cells #[.int .i64 cB, .int .i64 cY, .int .i64 cF, .int .i64 cN, .int .i64 cU, .int .i64 cL, .int .i64 cKy, .int .i64 cV] 23) (.cells #[.string lo, .string hi, .bool top] 25) (.cells #[.int .i64 lv, .slice kA kn kc, .slice pA pn pc, .slice bA bn bc, .slice qA qn qc] 31) wx))
    case atStart => exact ⟨0, Nat.zero_le _, rfl, rfl, fun i x hi => by omega, HB0⟩
    case round =>
      clear HB0
      obtain ⟨j, hj, rfl, rfl, HJ, HB⟩ := hrel
      obtain ⟨d0, d1, d2, d3, d4⟩ := box5 HB.out.z
      by_cases hlt : j < qn
      · have hjL : j < Q.length := by rw [HQN.out]; exact hlt
        obtain ⟨x, hxx⟩ : ∃ x, x = Q[j] := ⟨_, rfl⟩
        have hx' := nat_len hjL
        rw [← hxx] at hx'
        obtain ⟨b, o, e, -, c0, c1⟩ := RdK.pair (HPR.out.kept HB.out.below) hx'
        subst e
        have HXX := Lib.hid hx'
        have hsz := HSQ.out x (List.mem_of_getElem? hx')
        have hw3 : IntKind.i64.wrap ((j : Int) + 1) = ((j + 1 : Nat) : Int) := by rw [IntKind.wrap_i64]; omega
        clear hxx hx' hjL
        go_upto_region 5 with fail
        have hba : Below wr.heap.size wr (wr.alloc (.cells #[.string x.1, .string x.2] 42)) := (Below.refl _ _).alloc (Nat.le_refl _) _
        have hnew := heap_alloc_new wr (.cells #[.string x.1, .string x.2] 42)
        have HB2 := Lib.hid (HB.out.kept hba)
        generalize wr.alloc (.cells #[.string x.1, .string x.2] 42) = w2 at *
        generalize wr.heap.size = u at *
        have HU := Lib.hid hnew
        clear hba hnew HB d0 d1 d2 d3 d4 c0 c1
        obtain ⟨f0, f1⟩ : w2.cell? ⟨u, 0, none⟩ = some (.string x.1) ∧ w2.cell? ⟨u, 1, none⟩ = some (.string x.2) := by simp [World.cell?, HU.out]
        obtain ⟨e0, e1, e2⟩ := box3 HB2.out.y
        obtain ⟨g0, g1, g2, g3, g4, g5, g6, g7⟩ := box8 HB2.out.x
        have HOK : Hid (keyB ⟨cB, cY, cF, cN, cU, cL, cKy, cV⟩ x.1 = true → inB lo hi top x.1 = true → (x.2.size : Int) ≤ cV → PrOk ⟨cB, cY, cF, cN, cU, cL, cKy, cV⟩ lo hi top x) := fun a b c => ⟨a, b, c⟩
        have HNK : Hid (keyB ⟨cB, cY, cF, cN, cU, cL, cKy, cV⟩ x.1 = false → ¬ P) := fun e hp => by
          have := ((HP.out hp).each x (List.mem_of_getElem? HXX.out)).1
          rw [e] at this
          cases this
        have HNI : Hid (inB lo hi top x.1 = false → ¬ P) := fun e hp => by
          have := ((HP.out hp).each x (List.mem_of_getElem? HXX.out)).2.1
          rw [e] at this
          cases this
        have HNV : Hid (¬ (x.2.size : Int) ≤ cV → ¬ P) := fun e hp => e ((HP.out hp).each x (List.mem_of_getElem? HXX.out)).2.2
        have cX := fun w => cK x.1 w
        have cY' := fun w => cI x.1 w hsz
        generalize keyB ⟨cB, cY, cF, cN, cU, cL, cKy, cV⟩ x.1 = kb at *
        generalize inB lo hi top x.1 = ib at *
        clear hsz
        go_upto_region 5 with fail
        cases kb with
        | false =>
          have HNO := Lib.hid (HNK.out rfl)
          clear HNK HNI HNV HOK
          go_wp2_with (first | (go_at_call 12; refine (cX _).out.mono ?_; rintro e w3 ⟨rfl, hb⟩; replace HU := Lib.hid (kept3 HU.out hb); replace HB2 := Lib.hid (HB2.out.kept hb); clear hb f0 f1 e0 e1 e2 g0 g1 g2 g3 g4 g5 g6 g7; obtain ⟨f0, f1⟩ : w3.cell? ⟨u, 0, none⟩ = some (.string x.1) ∧ w3.cell? ⟨u, 1, none⟩ = some (.string x.2) := (by simp [World.cell?, HU.out]); obtain ⟨e0, e1, e2⟩ := box3 HB2.out.y; obtain ⟨g0, g1, g2, g3, g4, g5, g6, g7⟩ := box8 HB2.out.x) | (go_at_call 56; refine (cY' _).out.mono ?_; rintro e w3 ⟨rfl, hb⟩; replace HU := Lib.hid (kept3 HU.out hb); replace HB2 := Lib.hid (HB2.out.kept hb); clear hb f0 f1 e0 e1 e2 g0 g1 g2 g3 g4 g5 g6 g7; obtain ⟨f0, f1⟩ : w3.cell? ⟨u, 0, none⟩ = some (.string x.1) ∧ w3.cell? ⟨u, 1, none⟩ = some (.string x.2) := (by simp [World.cell?, HU.out]); obtain ⟨e0, e1, e2⟩ := box3 HB2.out.y; obtain ⟨g0, g1, g2, g3, g4, g5, g6, g7⟩ := box8 HB2.out.x))
          go_ret
          exact ⟨⟨false, rfl, (fun h => by cases h), fun h => absurd h HNO.out⟩, HB2.out.below⟩
        | true =>
          cases ib with
          | false =>
            have HNO := Lib.hid (HNI.out rfl)
            clear HNK HNI HNV HOK
            go_wp2_with (first | (go_at_call 12; refine (cX _).out.mono ?_; rintro e w3 ⟨rfl, hb⟩; replace HU := Lib.hid (kept3 HU.out hb); replace HB2 := Lib.hid (HB2.out.kept hb); clear hb f0 f1 e0 e1 e2 g0 g1 g2 g3 g4 g5 g6 g7; obtain ⟨f0, f1⟩ : w3.cell? ⟨u, 0, none⟩ = some (.string x.1) ∧ w3.cell? ⟨u, 1, none⟩ = some (.string x.2) := (by simp [World.cell?, HU.out]); obtain ⟨e0, e1, e2⟩ := box3 HB2.out.y; obtain ⟨g0, g1, g2, g3, g4, g5, g6, g7⟩ := box8 HB2.out.x) | (go_at_call 56; refine (cY' _).out.mono ?_; rintro e w3 ⟨rfl, hb⟩; replace HU := Lib.hid (kept3 HU.out hb); replace HB2 := Lib.hid (HB2.out.kept hb); clear hb f0 f1 e0 e1 e2 g0 g1 g2 g3 g4 g5 g6 g7; obtain ⟨f0, f1⟩ : w3.cell? ⟨u, 0, none⟩ = some (.string x.1) ∧ w3.cell? ⟨u, 1, none⟩ = some (.string x.2) := (by simp [World.cell?, HU.out]); obtain ⟨e0, e1, e2⟩ := box3 HB2.out.y; obtain ⟨g0, g1, g2, g3, g4, g5, g6, g7⟩ := box8 HB2.out.x))
            go_ret
            exact ⟨⟨false, rfl, (fun h => by cases h), fun h => absurd h HNO.out⟩, HB2.out.below⟩
          | true =>
            by_cases hv : (x.2.size : Int) ≤ cV
            · have HJ2 : Hid (∀ (i : Nat) (y : Pr), i < j + 1 → Q[i]? = some y → PrOk ⟨cB, cY, cF, cN, cU, cL, cKy, cV⟩ lo hi top y) := fun i y hi hy => by
                by_cases e : i = j
                · subst e
                  rw [HXX.out] at hy
                  cases hy
                  exact HOK.out rfl rfl hv
                · exact HJ.out i y (by omega) hy
              have hd : decide (cV < (x.2.size : Int)) = false := by simp; omega
              clear hv HNK HNI HNV HOK
              go_wp2_with (first | (go_at_call 12; refine (cX _).out.mono ?_; rintro e w3 ⟨rfl, hb⟩; replace HU := Lib.hid (kept3 HU.out hb); replace HB2 := Lib.hid (HB2.out.kept hb); clear hb f0 f1 e0 e1 e2 g0 g1 g2 g3 g4 g5 g6 g7; obtain ⟨f0, f1⟩ : w3.cell? ⟨u, 0, none⟩ = some (.string x.1) ∧ w3.cell? ⟨u, 1, none⟩ = some (.string x.2) := (by simp [World.cell?, HU.out]); obtain ⟨e0, e1, e2⟩ := box3 HB2.out.y; obtain ⟨g0, g1, g2, g3, g4, g5, g6, g7⟩ := box8 HB2.out.x) | (go_at_call 56; refine (cY' _).out.mono ?_; rintro e w3 ⟨rfl, hb⟩; replace HU := Lib.hid (kept3 HU.out hb); replace HB2 := Lib.hid (HB2.out.kept hb); clear hb f0 f1 e0 e1 e2 g0 g1 g2 g3 g4 g5 g6 g7; obtain ⟨f0, f1⟩ : w3.cell? ⟨u, 0, none⟩ = some (.string x.1) ∧ w3.cell? ⟨u, 1, none⟩ = some (.string x.2) := (by simp [World.cell?, HU.out]); obtain ⟨e0, e1, e2⟩ := box3 HB2.out.y; obtain ⟨g0, g1, g2, g3, g4, g5, g6, g7⟩ := box8 HB2.out.x))
              go_roundg (qn - (j + 1))
              case measure => omega
              case rel => exact ⟨j + 1, hlt, rfl, by go_num, HJ2, HB2⟩
            · have HNO := Lib.hid (HNV.out hv)
              have hd : cV < (x.2.size : Int) := by omega
              clear hv HNK HNI HNV HOK
              go_wp2_with (first | (go_at_call 12; refine (cX _).out.mono ?_; rintro e w3 ⟨rfl, hb⟩; replace HU := Lib.hid (kept3 HU.out hb); replace HB2 := Lib.hid (HB2.out.kept hb); clear hb f0 f1 e0 e1 e2 g0 g1 g2 g3 g4 g5 g6 g7; obtain ⟨f0, f1⟩ : w3.cell? ⟨u, 0, none⟩ = some (.string x.1) ∧ w3.cell? ⟨u, 1, none⟩ = some (.string x.2) := (by simp [World.cell?, HU.out]); obtain ⟨e0, e1, e2⟩ := box3 HB2.out.y; obtain ⟨g0, g1, g2, g3, g4, g5, g6, g7⟩ := box8 HB2.out.x) | (go_at_call 56; refine (cY' _).out.mono ?_; rintro e w3 ⟨rfl, hb⟩; replace HU := Lib.hid (kept3 HU.out hb); replace HB2 := Lib.hid (HB2.out.kept hb); clear hb f0 f1 e0 e1 e2 g0 g1 g2 g3 g4 g5 g6 g7; obtain ⟨f0, f1⟩ : w3.cell? ⟨u, 0, none⟩ = some (.string x.1) ∧ w3.cell? ⟨u, 1, none⟩ = some (.string x.2) := (by simp [World.cell?, HU.out]); obtain ⟨e0, e1, e2⟩ := box3 HB2.out.y; obtain ⟨g0, g1, g2, g3, g4, g5, g6, g7⟩ := box8 HB2.out.x))
              go_ret
              exact ⟨⟨false, rfl, (fun h => by cases h), fun h => absurd h HNO.out⟩, HB2.out.below⟩
      · have HZ : Hid (∀ p, p ∈ Q → PrOk ⟨cB, cY, cF, cN, cU, cL, cKy, cV⟩ lo hi top p) := fun x hx => by
          obtain ⟨i, hi⟩ := List.getElem?_of_mem hx
          have := (List.getElem?_eq_some_iff.1 hi).1
          rw [HQN.out] at this
          exact HJ.out i x (by omega) hi
        obtain rfl : j = qn := by omega
        clear hlt
        go_wp2_with fail
        go_meet
        exact ⟨HZ, HB⟩
  case rest =>
  clear HB0
  obtain ⟨HZ, HB⟩ := hcut
  obtain ⟨d0, d1, d2, d3, d4⟩ := box5 HB.out.z
  obtain ⟨g0, g1, g2, g3, g4, g5, g6, g7⟩ := box8 HB.out.x
  by_cases ekn : kn = 0
  case neg =>
    have hd : ((kn : Int) == 0) = false := by simp; omega
    have HNO : Hid (¬ P) := fun h => ekn (by rw [← HKN.out]; exact (HP.out h).kids)
    clear ekn
    go_wp2_with fail
    go_ret
    exact ⟨⟨false, rfl, (fun h => by cases h), fun h => absurd h HNO.out⟩, HB.out.below⟩
  subst ekn
  by_cases epn : pn = 0
  case neg =>
    have hd : ((pn : Int) == 0) = false := by simp; omega
    have HNO : Hid (¬ P) := fun h => epn (by rw [← HPN.out]; exact (HP.out h).piv)
    clear epn
    go_wp2_with fail
    go_ret
    exact ⟨⟨false, rfl, (fun h => by cases h), fun h => absurd h HNO.out⟩, HB.out.below⟩
  subst epn
  by_cases ebn : bn = 0
  case neg =>
    have hd : ((bn : Int) == 0) = false := by simp; omega
    have HNO : Hid (¬ P) := fun h => ebn (by rw [← HBN.out]; exact (HP.out h).buf)
    clear ebn
    go_wp2_with fail
    go_ret
    exact ⟨⟨false, rfl, (fun h => by cases h), fun h => absurd h HNO.out⟩, HB.out.below⟩
  subst ebn
  by_cases el : (qn : Int) ≤ cL
  case neg =>
    have hd : decide ((qn : Int) ≤ cL) = false := by simpa using el
    have HNO : Hid (¬ P) := fun h => el (by rw [← HQN.out]; exact (HP.out h).few)
    clear el
    go_wp2_with fail
    go_ret
    exact ⟨⟨false, rfl, (fun h => by cases h), fun h => absurd h HNO.out⟩, HB.out.below⟩
  have HFW : Hid ((Q.length : Int) ≤ cL) := Lib.hid (by rw [HQN.out]; exact el)
  have hel : decide ((qn : Int) ≤ cL) = true := by simpa using el
  clear el
  obtain ⟨r, hr⟩ := bool_of (PRise Q)
  have HRR := Lib.hid hr
  clear hr
  have cR2 : Hid (Calls Try.prog 57 #[.slice qA qn qc] wc fun e w' => e = .returned (.bool r) ∧ Below wc.heap.size wc w') := (cR _ HB.out.below).out.mono fun e w' ⟨⟨v, he, hv⟩, hb⟩ => ⟨by rw [he, bool_one hv HRR.out], hb⟩
  have HF : Hid (r = true ↔ P) := ⟨fun h => HQ.out ⟨HZ.out, HKN.out, HPN.out, HBN.out, HFW.out, HRR.out.1 h⟩, fun h => HRR.out.2 (HP.out h).rise⟩
  clear cR
  go_wp2_with (go_at_call 57; refine cR2.out.mono ?_; rintro e w3 ⟨rfl, hb⟩; replace HB := Lib.hid (HB.out.kept hb); clear hb)
  go_ret
  exact ⟨⟨r, rfl, HF.out⟩, HB.out.below⟩
end No
end Go.Proofs.Ytlcdjbleeanpbaa
