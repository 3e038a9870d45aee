/-
  CacheCosts, walked.
-/
import Derived.Test.YtcpdbdaallbphaaCacheActs
namespace Go.Proofs.Ytcpdbdaallbphaa
open Go.RowKit
namespace Ca
open Mem Dv Cn Po

theorem two_box (w : World) (v0 v1 : Value) : Below w.heap.size w (((w.alloc (.cells #[.int .u64 0, .int .u64 0] 52)).setCell ⟨w.heap.size, 0, none⟩ v0).setCell ⟨w.heap.size, 1, none⟩ v1) ∧
    (((w.alloc (.cells #[.int .u64 0, .int .u64 0] 52)).setCell ⟨w.heap.size, 0, none⟩ v0).setCell ⟨w.heap.size, 1, none⟩ v1).heap[w.heap.size]? = some (.cells #[v0, v1] 52 (0, 0)) := by
  have h := heap_alloc_new w (.cells #[.int .u64 0, .int .u64 0] 52)
  refine ⟨(((Below.refl _ _).alloc (Nat.le_refl _) _).setCell (Nat.le_refl _) _).setCell (Nat.le_refl _) _, ?_⟩
  generalize w.alloc (.cells #[.int .u64 0, .int .u64 0] 52) = w1 at *
  simp [World.setCell, Array.getElem?_modify, h]
theorem box_two {w : World} {b : Nat} {v0 v1 : Value} (h : w.heap[b]? = some (.cells #[v0, v1] 52 (0, 0))) : w.cell? ⟨b, 0, none⟩ = some v0 ∧ w.cell? ⟨b, 1, none⟩ = some v1 := by
  simp [World.cell?, h]
/-- what a call of a kind may cost -/
theorem cost_step (st : St) (k : Int) (b : Nat) (y : List UInt8) : ∃ R S, Cost st (stepT st k b y).2 R S ∧ ((k = 0 ∨ k = 1) → R ≤ 1 ∧ S ≤ 1) ∧ (k = 2 → R = 0 ∧ S ≤ 1) ∧ (k = 8 → R = 0 ∧ S ≤ st.fr.length) ∧ (k ≠ 0 → k ≠ 1 → k ≠ 2 → k ≠ 8 → R = 0 ∧ S = 0) := by
  unfold stepT
  by_cases h0 : k = 0 ∨ k = 1
  · rw [if_pos h0]
    exact ⟨1, 1, cost_pin st b, fun _ => ⟨by omega, by omega⟩, fun e => by omega, fun e => by omega, fun _ _ _ _ => by omega⟩
  rw [if_neg h0]
  by_cases h1 : k = 2
  · rw [if_pos h1]
    exact ⟨0, 1, cost_fresh st b, fun e => by omega, fun _ => ⟨rfl, by omega⟩, fun e => by omega, fun _ _ _ _ => by omega⟩
  rw [if_neg h1]
  by_cases h8 : k = 8
  · subst h8
    refine ⟨0, (dirtyL st).length, ?_, fun e => by omega, fun e => by omega, fun _ => ⟨rfl, Nat.le_trans (dirty_occ st) (occ_le _)⟩, fun _ _ _ _ => by omega⟩
    simpa using cost_flush st
  refine ⟨0, 0, ?_, fun e => by omega, fun e => by omega, fun e => by omega, fun _ _ _ _ => ⟨rfl, rfl⟩⟩
  split
  · exact cost_unpin st b
  split
  · exact cost_write st b y
  split
  · exact cost_drop st b
  split
  · exact Cost.refl _ _ _
  · exact Cost.refl _ _ _
/-- between two rounds -/
structure CC (W wr : World) (F : List Nat) (p g : Nat) (st : St) (n k : Nat) : Prop where
  cl : Cl W wr F p g st
  sm : Sm st (12 * k)
  fl : st.fr.length = n
  ll : st.ls.length = 9
set_option maxHeartbeats 4000000 in
set_option maxRecDepth 100000 in
theorem CacheCosts_walk (x : Nat) (q0 : Option Addr) (d0 : Nat) (ac : List (Int × Nat × List UInt8)) (w : World) (hx : x < 256) (ha : ActL w q0 ac) (hda : ac.length ≤ maxLen) :
    Calls Try.prog 5 #[.int .u8 (x : Int), .slice q0 ac.length d0] w fun e w' => e = .returned (.bool true) ∧ Below w.heap.size w w' := by
  have cA := fun w => Lib.hid (awake_any w)
  have cD : Hid (Calls Try.prog 7 #[.int .i64 9, .int .i64 2] w fun e w' => Made w w' 2 (List.replicate 9 (List.replicate 2 0)) 0 0 e ∧ Below w.heap.size w w') := Dv.New_in 9 2 w (by omega) (by omega) (by omega) (by omega)
  obtain ⟨r, hr, hr2⟩ : ∃ r : Nat, r = x % 12 ∧ r < 12 := ⟨x % 12, rfl, Nat.mod_lt _ (by omega)⟩
  have hmod : ((x : Int)).tmod 12 = (r : Int) := by rw [hr]; rfl
  have hw0 : IntKind.i64.wrap ((r : Int)) = (r : Int) := by rw [IntKind.wrap_i64]; omega
  have hw1 : IntKind.i64.wrap (1 + (r : Int)) = ((1 + r : Nat) : Int) := by rw [IntKind.wrap_i64]; omega
  obtain ⟨n, hn⟩ : ∃ n, n = 1 + r := ⟨_, rfl⟩
  rw [← hn] at hw1
  have n1 : 1 ≤ n := by omega
  have n2 : n ≤ 12 := by omega
  have cN : ∀ (w : World) (S : List Nat) (g : Nat) (h : Dev w S g 2 (List.replicate 9 (List.replicate 2 0)) 0 0), Hid (Calls Try.prog 8 #[.pointer (some ⟨g, 0, none⟩), .int .i64 (n : Int)] w fun e w' => NewC w w' S g (st0 2 n (List.replicate 9 (List.replicate 2 0)) 0 0) e) := fun w S g h => New_in h n n1 (by omega)
  obtain ⟨N, hN⟩ : ∃ N, N = ac.length := ⟨_, rfl⟩
  have HN := Lib.hid hN
  have HA := Lib.hid ha
  rw [← hN] at hda ⊢
  have hda' : N ≤ 9223372036854775807 := by unfold maxLen at hda; omega
  clear ha hN hr hda hn
  go_enter Try.func5, Try.ntmps5
  go_upto_region 3 with (go_at_call 7; refine cD.out.mono ?_; rintro e w1 ⟨⟨g, S, rfl, hd, hg⟩, hb⟩; have H1 := Lib.hid (And.intro hd (And.intro hg hb)); clear hd hg hb)
  go_upto_region 6 with (go_at_call 8; refine (cN _ _ _ H1.out.1).out.mono ?_; rintro e w2 ⟨p, F2, rfl, hc, hg, hb⟩; have H2 : Hid (CC w w2 F2 p g (st0 2 n (List.replicate 9 (List.replicate 2 0)) 0 0) n 0) := ⟨⟨hc, fun x hx => (by rcases hg x hx with h' | h'; exact H1.out.2.1 x h'; exact Nat.le_trans H1.out.2.2.size h'), below_all H1.out.2.2 hb (Nat.le_refl _)⟩, ⟨Nat.le_refl _, Nat.le_refl _, fun j f h => (repl_none h).elim⟩, by simp [st0], by simp [st0]⟩; clear hc hg hb)
  clear cN cD H1 hmod hw0 hw1
  go_wp2_with fail
  go_loopg [10] N (fun gk iv wr => ∃ (k : Nat) (F : List Nat) (st : St), k ≤ N ∧ k ≤ 80 ∧ gk = N - k ∧ iv = .int .i64 (k : Int) ∧ Hid (CC w wr F p g st n k))
  case atStart => exact ⟨0, F2, _, Nat.zero_le _, Nat.zero_le _, rfl, rfl, H2⟩
  case round =>
    obtain ⟨k, F, st, hk, hk80, rfl, rfl, HC⟩ := hrel
    clear H2
    by_cases hlt : k < N ∧ k < 80
    · obtain ⟨hkN, hk8⟩ := hlt
      obtain ⟨S0, hd0⟩ := HC.out.cl.dev
      have cS := Lib.hid (Stats_any hd0)
      clear hd0
      go_upto_region 10 with (go_at_call 15; refine cS.out.mono ?_; rintro e w3 ⟨rfl, hb⟩; have HB3 := Lib.hid hb; clear hb)
      have hB4 : Below w3.heap.size w3 (w3.alloc (.cells #[.int .u64 (st.r : Int), .int .u64 (st.s : Int)] 52)) := (Below.refl _ _).alloc (Nat.le_refl _) _
      have hx4 := heap_alloc_new w3 (.cells #[.int .u64 (st.r : Int), .int .u64 (st.s : Int)] 52)
      generalize w3.alloc (.cells #[.int .u64 (st.r : Int), .int .u64 (st.s : Int)] 52) = w4 at *
      obtain ⟨b1, hb1⟩ : ∃ b1, b1 = w3.heap.size := ⟨_, rfl⟩
      rw [← hb1] at hx4 ⊢
      have h4 := HC.out.cl.kept (below_all HB3.out hB4 (Nat.le_refl _))
      have hwr := HC.out.cl.bl
      obtain ⟨ab, ao, ⟨kd, I, bs⟩, rfl, hact⟩ := HA.out.at_ (i := k) (by rw [← HN.out]; exact hkN)
      have hact4 := hact.kept h4.bl
      obtain ⟨e0, e1, ⟨Ab, cb, e2, hbl, -⟩, hI, -⟩ := hact4
      simp only at e0 e1 e2 hbl hI
      have hnF : b1 ∉ F := fun hm => by
        have h1 := HC.out.cl.cw.lt b1 hm
        have h2 := HB3.out.size
        omega
      have cT := Lib.hid (step_any (c := cb) h4 (HC.out.sm.mono (by omega)) (by rw [HC.out.ll]; omega) kd hI hbl rfl)
      obtain ⟨R, S', hcost, hk01, hk2, hk8', hkx⟩ := cost_step st kd I bs
      have hsm := HC.out.sm.step (by rw [HC.out.ll]; omega) kd I bs
      obtain ⟨bn, hbn⟩ : ∃ bn, bn = bs.length := ⟨_, rfl⟩
      rw [← hbn] at e2 cT
      have HACT := Lib.hid hact
      have HF := Lib.hid hnF
      have HX4 := Lib.hid hx4
      have HFL := Lib.hid HC.out.fl
      have HLL := Lib.hid HC.out.ll
      generalize stepT st kd I bs = res at *
      obtain ⟨z, st'⟩ := res
      simp only at cT hcost hsm
      have HCO := Lib.hid hcost
      have HSM := Lib.hid hsm
      have HKS := Lib.hid (And.intro hk01 (And.intro hk2 (And.intro hk8' hkx)))
      have HW4 := Lib.hid h4.bl
      clear HC hwr h4 hact hbl hI hnF hx4 hB4 hcost hsm hbn cS hk01 hk2 hk8' hkx hb1 HB3
      go_upto_region 11 with (go_at_call 12; refine cT.out.mono ?_; rintro e w5 ⟨rfl, ⟨F5, hc5, hg5⟩, hi5⟩)
      have hx5 := (hi5.block b1 (Array.getElem?_eq_some_iff.1 HX4.out).1 HF.out).trans HX4.out
      obtain ⟨S5, hd5⟩ := hc5.dev
      have cS := Lib.hid (Stats_any hd5)
      have HC5 := Lib.hid hc5
      have HX5 := Lib.hid hx5
      clear hd5 hc5 hg5 hi5 hx5 cT e0 e1 e2 HX4 HF
      go_upto_region 12 with (go_at_call 15; refine cS.out.mono ?_; rintro e w6 ⟨rfl, hb⟩; have HB6 := Lib.hid hb; clear hb)
      have hB7 : Below w6.heap.size w6 (w6.alloc (.cells #[.int .u64 (st'.r : Int), .int .u64 (st'.s : Int)] 52)) := (Below.refl _ _).alloc (Nat.le_refl _) _
      have hx7 := heap_alloc_new w6 (.cells #[.int .u64 (st'.r : Int), .int .u64 (st'.s : Int)] 52)
      generalize w6.alloc (.cells #[.int .u64 (st'.r : Int), .int .u64 (st'.s : Int)] 52) = w7 at *
      have hb57 := below_all HB6.out hB7 (Nat.le_refl _)
      obtain ⟨f0', f1'⟩ := box_two hx7
      obtain ⟨f2', f3'⟩ := box_two ((hb57.block b1 (Array.getElem?_eq_some_iff.1 HX5.out).1).trans HX5.out)
      have h7 := HC5.out.kept hb57
      obtain ⟨dr, hdr⟩ : ∃ dr, st'.r = st.r + dr := ⟨st'.r - st.r, by have := HCO.out.r1; omega⟩
      obtain ⟨ds, hds⟩ : ∃ ds, st'.s = st.s + ds := ⟨st'.s - st.s, by have := HCO.out.s1; omega⟩
      have hdR : dr ≤ R := by have := HCO.out.r2; omega
      have hdS : ds ≤ S' := by have := HCO.out.s2; omega
      have hr9 := HSM.out.r
      have hs9 := HSM.out.s
      have hwr1 : IntKind.u64.wrap ((st'.r : Int) - (st.r : Int)) = (dr : Int) := by rw [IntKind.wrap_u64]; omega
      have hws1 : IntKind.u64.wrap ((st'.s : Int) - (st.s : Int)) = (ds : Int) := by rw [IntKind.wrap_u64]; omega
      have hwr2 : IntKind.i64.wrap (dr : Int) = (dr : Int) := by rw [IntKind.wrap_i64]; omega
      have hws2 : IntKind.i64.wrap (ds : Int) = (ds : Int) := by rw [IntKind.wrap_i64]; omega
      have hwt : IntKind.i64.wrap ((dr : Int) + (ds : Int)) = ((dr + ds : Nat) : Int) := by rw [IntKind.wrap_i64]; omega
      have H7 := Lib.hid h7
      have HD := Lib.hid (And.intro hdR hdS)
      have hk57 := Lib.hid (And.intro hdr hds)
      clear h7 hB7 hx7 hb57 hdR hdS cS HX5 HB6 HC5 hdr hds hr9 hs9
      go_quiet (fail)
      have hb8 : Below w7.heap.size w7 (w7.drewN nq) := ⟨rfl, rfl, rfl, Nat.le_refl _, fun _ _ => rfl⟩
      have H8 := Lib.hid (H7.out.kept hb8)
      clear H7 hb8 f0' f1' f2' f3'
      generalize w7.drewN nq = w8 at *
      have e0 := (HACT.out.kept H8.out.bl).kd
      simp only at e0
      go_upto_block 2 with fail
      go_cut [15] (fun okv wx => okv = .bool true ∧ wx = w8)
      case first =>
        by_cases k0 : kd = 0
        · subst k0
          obtain ⟨q1, q2⟩ := HKS.out.1 (.inl rfl)
          obtain ⟨q3, q4⟩ := HD.out
          have q5 : (dr : Int) ≤ 1 := by omega
          have q6 : (ds : Int) ≤ 1 := by omega
          clear hwr1 hws1 hwr2 hws2 hwt
          go_wp2_with fail
          go_meet
          exact ⟨rfl, rfl⟩
        by_cases k1 : kd = 1
        · subst k1
          obtain ⟨q1, q2⟩ := HKS.out.1 (.inr rfl)
          obtain ⟨q3, q4⟩ := HD.out
          have q5 : (dr : Int) ≤ 1 := by omega
          have q6 : (ds : Int) ≤ 1 := by omega
          clear hwr1 hws1 hwr2 hws2 hwt
          go_wp2_with fail
          go_meet
          exact ⟨rfl, rfl⟩
        have n0 : (kd == 0) = false := by simpa using k0
        have n1' : (kd == 1) = false := by simpa using k1
        by_cases k2 : kd = 2
        · subst k2
          obtain ⟨q1, q2⟩ := HKS.out.2.1 rfl
          obtain ⟨q3, q4⟩ := HD.out
          obtain rfl : dr = 0 := by omega
          have q6 : (ds : Int) ≤ 1 := by omega
          clear hwr1 hws1 hwr2 hws2 hwt n0 n1'
          go_wp2_with fail
          go_meet
          exact ⟨rfl, rfl⟩
        have n2' : (kd == 2) = false := by simpa using k2
        by_cases k8 : kd = 8
        · subst k8
          obtain ⟨q1, q2⟩ := HKS.out.2.2.1 rfl
          obtain ⟨q3, q4⟩ := HD.out
          have q7 := HFL.out
          obtain rfl : dr = 0 := by omega
          have q6 : (ds : Int) ≤ (n : Int) := by omega
          clear hwr1 hws1 hwr2 hws2 hwt n0 n1' n2'
          go_wp2_with fail
          go_meet
          exact ⟨rfl, rfl⟩
        have n8' : (kd == 8) = false := by simpa using k8
        obtain ⟨q1, q2⟩ := HKS.out.2.2.2 k0 k1 k2 k8
        obtain ⟨q3, q4⟩ := HD.out
        obtain rfl : dr = 0 := by omega
        obtain rfl : ds = 0 := by omega
        clear hwr1 hws1 hwr2 hws2 hwt
        go_wp2_with fail
        go_meet
        exact ⟨rfl, rfl⟩
      case rest =>
      obtain ⟨rfl, rfl⟩ := hcut
      have cU := Lib.hid (CUsed H8.out.cw)
      have hfl : st'.fr.length = n := by rw [HCO.out.fl]; exact HFL.out
      have hoc : (occ st'.fr : Int) ≤ (n : Int) := by have := occ_le st'.fr; omega
      have hwk : IntKind.i64.wrap ((k : Int) + 1) = ((k + 1 : Nat) : Int) := by rw [IntKind.wrap_i64]; omega
      have hnew : Hid (CC w wc F5 p g st' n (k + 1)) := ⟨H8.out, HSM.out.mono (by omega), hfl, by rw [HCO.out.ll]; exact HLL.out⟩
      generalize (occ st'.fr : Int) = oc at *
      clear hwr1 hws1 hwr2 hws2 hwt H8 e0
      go_wp2_with (go_at_call 24; refine cU.out.mono ?_; rintro e w' ⟨rfl, rfl⟩)
      go_roundg (N - (k + 1))
      case measure => omega
      case rel => exact ⟨k + 1, F5, st', by omega, by omega, rfl, by go_num, hnew⟩
    · have HB := Lib.hid HC.out.cl.bl
      clear HC
      by_cases hkN : k < N
      · have hk80' : 80 ≤ k := by omega
        clear hlt
        go_wp2_with (go_at_call 9; refine (cA _).out.mono ?_; rintro e w' ⟨rfl, hb⟩; have HB9 := Lib.hid hb; clear hb)
        go_ret
        exact ⟨rfl, below_all HB.out HB9.out (Nat.le_refl _)⟩
      · obtain rfl : k = N := by omega
        clear hlt
        go_wp2_with (go_at_call 9; refine (cA _).out.mono ?_; rintro e w' ⟨rfl, hb⟩; have HB9 := Lib.hid hb; clear hb)
        go_ret
        exact ⟨rfl, below_all HB.out HB9.out (Nat.le_refl _)⟩
end Ca
end Go.Proofs.Ytcpdbdaallbphaa
