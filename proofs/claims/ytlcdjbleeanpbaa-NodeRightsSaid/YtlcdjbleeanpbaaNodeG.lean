/-
  node's laws: Great.
-/
import Derived.Test.YtlcdjbleeanpbaaKidArgs
namespace Go.Proofs.Ytlcdjbleeanpbaa
open Go.RowKit
namespace No
open Mem Lx Bu Lf Fa
/-- a node that is not too much for a statement -/
structure Fit (n : Nd) : Prop where
  kids : n.kids.length ≤ 80
  piv : n.piv.length ≤ 80
  buf : n.buf.length ≤ 150
  prs : n.prs.length ≤ 150
  pk : ∀ p, p ∈ n.piv → p.size ≤ 200
  bk : ∀ m, m ∈ n.buf → m.1.size ≤ 200
  qk : ∀ m, m ∈ n.prs → m.1.size ≤ 200
set_option maxRecDepth 100000 in
set_option maxHeartbeats 4000000 in
theorem Great_any {W : World} {n : Nd} {a : At} (h : NdIn W n a) (hok : NdOk n) : Calls Try.prog 7 #[.agg (ndCs n a)] W fun e w' => (∃ v : Bool, e = .returned (.bool v) ∧ (v = false ↔ Fit n)) ∧ Below W.heap.size W w' := by
  obtain ⟨P, hP⟩ : ∃ P : Prop, P = Fit n := ⟨_, rfl⟩
  have HP : Hid (P → Fit n) := fun h => by rw [hP] at h; exact h
  have HQ : Hid (Fit n → P) := fun h => by rw [hP]; exact h
  rw [← hP]
  clear hP
  obtain ⟨lv, K, L, B, Q⟩ := n
  obtain ⟨kA, kc, pA, pc, bA, bc, qA, qc⟩ := a
  have h2 := hok.kids
  have h3 := hok.piv
  have h4 := hok.buf
  have h5 := hok.prs
  have HL : Hid (SL W pA L) := h.piv.1
  have HB : Hid (RdK MgK W bA B) := h.buf.1
  have HR : Hid (PL W qA Q) := h.prs.1
  unfold ndCs
  simp only at *
  unfold maxLen at h2 h3 h4 h5
  generalize hkn : K.length = kn at *
  generalize hpn : L.length = pn at *
  generalize hbn : B.length = bn at *
  generalize hqn : Q.length = qn at *
  have HKN := Lib.hid hkn
  have HPN := Lib.hid hpn
  have HBN := Lib.hid hbn
  have HQN := Lib.hid hqn
  clear h hok hkn hpn hbn hqn
  go_enter Try.func7, Try.ntmps7
  go_upto_region 1 with fail
  have hx := heap_alloc_new W (.cells #[.int .i64 lv, .slice kA kn kc, .slice pA pn pc, .slice bA bn bc, .slice qA qn qc] 31)
  have hb0 : Below W.heap.size W (W.alloc (.cells #[.int .i64 lv, .slice kA kn kc, .slice pA pn pc, .slice bA bn bc, .slice qA qn qc] 31)) := (Below.refl _ _).alloc (Nat.le_refl _) _
  generalize W.alloc (.cells #[.int .i64 lv, .slice kA kn kc, .slice pA pn pc, .slice bA bn bc, .slice qA qn qc] 31) = w1 at *
  have HW := Lib.hid hb0
  obtain ⟨g, hg⟩ : ∃ g, g = W.heap.size := ⟨_, rfl⟩
  simp only [← hg]
  rw [← hg] at hx
  obtain ⟨d0, d1, d2, d3, d4⟩ := box5 hx
  clear hx hb0 hg d0
  by_cases e0 : kn ≤ 80
  case neg =>
    have hd : (80 : Int) < (kn : Int) := by omega
    have HNO : Hid (¬ P) := fun h => e0 (by rw [← HKN.out]; exact (HP.out h).kids)
    clear e0
    go_wp2_with fail
    go_ret
    exact ⟨⟨true, rfl, (fun h => by cases h), fun h => absurd h HNO.out⟩, HW.out⟩
  have n0 : decide ((80 : Int) < (kn : Int)) = false := by simp; omega
  by_cases e1 : pn ≤ 80
  case neg =>
    have hd : (80 : Int) < (pn : Int) := by omega
    have HNO : Hid (¬ P) := fun h => e1 (by rw [← HPN.out]; exact (HP.out h).piv)
    clear e1
    go_wp2_with fail
    go_ret
    exact ⟨⟨true, rfl, (fun h => by cases h), fun h => absurd h HNO.out⟩, HW.out⟩
  have n1 : decide ((80 : Int) < (pn : Int)) = false := by simp; omega
  by_cases e2 : bn ≤ 150
  case neg =>
    have hd : (150 : Int) < (bn : Int) := by omega
    have HNO : Hid (¬ P) := fun h => e2 (by rw [← HBN.out]; exact (HP.out h).buf)
    clear e2
    go_wp2_with fail
    go_ret
    exact ⟨⟨true, rfl, (fun h => by cases h), fun h => absurd h HNO.out⟩, HW.out⟩
  have n2 : decide ((150 : Int) < (bn : Int)) = false := by simp; omega
  by_cases e3 : qn ≤ 150
  case neg =>
    have hd : (150 : Int) < (qn : Int) := by omega
    have HNO : Hid (¬ P) := fun h => e3 (by rw [← HQN.out]; exact (HP.out h).prs)
    clear e3
    go_wp2_with fail
    go_ret
    exact ⟨⟨true, rfl, (fun h => by cases h), fun h => absurd h HNO.out⟩, HW.out⟩
  have n3 : decide ((150 : Int) < (qn : Int)) = false := by simp; omega
  have HE : Hid (kn ≤ 80 ∧ pn ≤ 80 ∧ bn ≤ 150 ∧ qn ≤ 150) := ⟨e0, e1, e2, e3⟩
  clear e0 e1 e2 e3
  go_upto_block 0 with fail
  clear n0 n1 n2 n3
  go_cut [] (fun wx => Hid (∀ y, y ∈ L → y.size ≤ 200) ∧ w1 = wx)
  case first =>
    go_wp2_with fail
    go_loopg [3] pn (fun gk iv wx => ∃ j : Nat, j ≤ pn ∧ gk = pn - j ∧ iv = .int .i64 (j : Int) ∧ Hid (∀ (i : Nat) (y : ByteArray), i < j → L[i]? = some y → y.size ≤ 200) ∧ w1 = wx)
    case atStart => exact ⟨0, Nat.zero_le _, rfl, rfl, fun i x hi => by omega, rfl⟩
    case round =>
      obtain ⟨j, hj, rfl, rfl, HJ, rfl⟩ := hrel
      by_cases hlt2 : j < pn
      · have hjL : j < L.length := by rw [HPN.out]; exact hlt2
        obtain ⟨x, hxx⟩ : ∃ x, x = L[j] := ⟨_, rfl⟩
        have hx' := nat_lenS hjL
        rw [← hxx] at hx'
        obtain ⟨b, o, e, -, c0⟩ := RdK.str (HL.out.kept HW.out) hx'
        subst e
        have HXX := Lib.hid hx'
        have hw3 : IntKind.i64.wrap ((j : Int) + 1) = ((j + 1 : Nat) : Int) := by rw [IntKind.wrap_i64]; omega
        clear hxx hx' hjL
        by_cases hz : x.size ≤ 200
        · have HJ2 : Hid (∀ (i : Nat) (y : ByteArray), i < j + 1 → L[i]? = some y → y.size ≤ 200) := fun i y hi hy => by
            by_cases e : i = j
            · subst e
              rw [HXX.out] at hy
              cases hy
              exact hz
            · exact HJ.out i y (by omega) hy
          have hd : decide (200 < (x.size : Int)) = false := by simp; omega
          clear hz
          go_wp2_with fail
          go_roundg (pn - (j + 1))
          case measure => omega
          case rel => exact ⟨j + 1, hlt2, rfl, by go_num, HJ2, rfl⟩
        · have hd : (200 : Int) < (x.size : Int) := by omega
          have HNO : Hid (¬ P) := fun h => hz ((HP.out h).pk x (List.mem_of_getElem? HXX.out))
          clear hz
          go_wp2_with fail
          go_ret
          exact ⟨⟨true, rfl, (fun h => by cases h), fun h => absurd h HNO.out⟩, HW.out⟩
      · have HZ : Hid (∀ y, y ∈ L → y.size ≤ 200) := fun x hx => by
          obtain ⟨i, hi⟩ := List.getElem?_of_mem hx
          have := (List.getElem?_eq_some_iff.1 hi).1
          rw [HPN.out] at this
          exact HJ.out i x (by omega) hi
        obtain rfl : j = pn := by omega
        clear hlt2
        go_wp2_with fail
        go_meet
        exact ⟨HZ, rfl⟩
  case rest =>
  obtain ⟨Hx0, rfl⟩ := hcut
  go_upto_block 2 with fail
  skip
  go_cut [] (fun wx => Hid (∀ y, y ∈ B → y.1.size ≤ 200) ∧ w1 = wx)
  case first =>
    go_wp2_with fail
    go_loopg [4] bn (fun gk iv wx => ∃ j : Nat, j ≤ bn ∧ gk = bn - j ∧ iv = .int .i64 (j : Int) ∧ Hid (∀ (i : Nat) (y : Mg), i < j → B[i]? = some y → y.1.size ≤ 200) ∧ w1 = wx)
    case atStart => exact ⟨0, Nat.zero_le _, rfl, rfl, fun i x hi => by omega, rfl⟩
    case round =>
      obtain ⟨j, hj, rfl, rfl, HJ, rfl⟩ := hrel
      by_cases hlt2 : j < bn
      · have hjL : j < B.length := by rw [HBN.out]; exact hlt2
        obtain ⟨x, hxx⟩ : ∃ x, x = B[j] := ⟨_, rfl⟩
        have hx' := nat_len hjL
        rw [← hxx] at hx'
        obtain ⟨b, o, e, -, c0, -, -⟩ := RdK.msg (HB.out.kept HW.out) hx'
        subst e
        have HXX := Lib.hid hx'
        have hw3 : IntKind.i64.wrap ((j : Int) + 1) = ((j + 1 : Nat) : Int) := by rw [IntKind.wrap_i64]; omega
        clear hxx hx' hjL
        by_cases hz : x.1.size ≤ 200
        · have HJ2 : Hid (∀ (i : Nat) (y : Mg), i < j + 1 → B[i]? = some y → y.1.size ≤ 200) := fun i y hi hy => by
            by_cases e : i = j
            · subst e
              rw [HXX.out] at hy
              cases hy
              exact hz
            · exact HJ.out i y (by omega) hy
          have hd : decide (200 < (x.1.size : Int)) = false := by simp; omega
          clear hz
          go_wp2_with fail
          go_roundg (bn - (j + 1))
          case measure => omega
          case rel => exact ⟨j + 1, hlt2, rfl, by go_num, HJ2, rfl⟩
        · have hd : (200 : Int) < (x.1.size : Int) := by omega
          have HNO : Hid (¬ P) := fun h => hz ((HP.out h).bk x (List.mem_of_getElem? HXX.out))
          clear hz
          go_wp2_with fail
          go_ret
          exact ⟨⟨true, rfl, (fun h => by cases h), fun h => absurd h HNO.out⟩, HW.out⟩
      · have HZ : Hid (∀ y, y ∈ B → y.1.size ≤ 200) := fun x hx => by
          obtain ⟨i, hi⟩ := List.getElem?_of_mem hx
          have := (List.getElem?_eq_some_iff.1 hi).1
          rw [HBN.out] at this
          exact HJ.out i x (by omega) hi
        obtain rfl : j = bn := by omega
        clear hlt2
        go_wp2_with fail
        go_meet
        exact ⟨HZ, rfl⟩
  case rest =>
  obtain ⟨Hx1, rfl⟩ := hcut
  go_upto_block 4 with fail
  skip
  go_cut [] (fun wx => Hid (∀ y, y ∈ Q → y.1.size ≤ 200) ∧ w1 = wx)
  case first =>
    go_wp2_with fail
    go_loopg [5] qn (fun gk iv wx => ∃ j : Nat, j ≤ qn ∧ gk = qn - j ∧ iv = .int .i64 (j : Int) ∧ Hid (∀ (i : Nat) (y : Pr), i < j → Q[i]? = some y → y.1.size ≤ 200) ∧ w1 = wx)
    case atStart => exact ⟨0, Nat.zero_le _, rfl, rfl, fun i x hi => by omega, rfl⟩
    case round =>
      obtain ⟨j, hj, rfl, rfl, HJ, rfl⟩ := hrel
      by_cases hlt2 : j < qn
      · have hjL : j < Q.length := by rw [HQN.out]; exact hlt2
        obtain ⟨x, hxx⟩ : ∃ x, x = Q[j] := ⟨_, rfl⟩
        have hx' := nat_len hjL
        rw [← hxx] at hx'
        obtain ⟨b, o, e, -, c0, -⟩ := RdK.pair (HR.out.kept HW.out) hx'
        subst e
        have HXX := Lib.hid hx'
        have hw3 : IntKind.i64.wrap ((j : Int) + 1) = ((j + 1 : Nat) : Int) := by rw [IntKind.wrap_i64]; omega
        clear hxx hx' hjL
        by_cases hz : x.1.size ≤ 200
        · have HJ2 : Hid (∀ (i : Nat) (y : Pr), i < j + 1 → Q[i]? = some y → y.1.size ≤ 200) := fun i y hi hy => by
            by_cases e : i = j
            · subst e
              rw [HXX.out] at hy
              cases hy
              exact hz
            · exact HJ.out i y (by omega) hy
          have hd : decide (200 < (x.1.size : Int)) = false := by simp; omega
          clear hz
          go_wp2_with fail
          go_roundg (qn - (j + 1))
          case measure => omega
          case rel => exact ⟨j + 1, hlt2, rfl, by go_num, HJ2, rfl⟩
        · have hd : (200 : Int) < (x.1.size : Int) := by omega
          have HNO : Hid (¬ P) := fun h => hz ((HP.out h).qk x (List.mem_of_getElem? HXX.out))
          clear hz
          go_wp2_with fail
          go_ret
          exact ⟨⟨true, rfl, (fun h => by cases h), fun h => absurd h HNO.out⟩, HW.out⟩
      · have HZ : Hid (∀ y, y ∈ Q → y.1.size ≤ 200) := fun x hx => by
          obtain ⟨i, hi⟩ := List.getElem?_of_mem hx
          have := (List.getElem?_eq_some_iff.1 hi).1
          rw [HQN.out] at this
          exact HJ.out i x (by omega) hi
        obtain rfl : j = qn := by omega
        clear hlt2
        go_wp2_with fail
        go_meet
        exact ⟨HZ, rfl⟩
  case rest =>
  obtain ⟨Hx2, rfl⟩ := hcut
  have HT : Hid P := HQ.out ⟨by rw [HKN.out]; exact HE.out.1, by rw [HPN.out]; exact HE.out.2.1, by rw [HBN.out]; exact HE.out.2.2.1, by rw [HQN.out]; exact HE.out.2.2.2, Hx0.out, Hx1.out, Hx2.out⟩
  go_wp2_with fail
  go_ret
  exact ⟨⟨false, rfl, (fun _ => HT.out), fun _ => rfl⟩, HW.out⟩
end No
end Go.Proofs.Ytlcdjbleeanpbaa
