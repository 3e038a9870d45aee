/-
  The code's leaf: the last message of each key.
-/
import Derived.Test.YtoibkjggfkkdhaaLeafCode2
import Derived.Test.YtoibkjggfkkdhaaLeafLast
import Derived.Test.YtoibkjggfkkdhaaSortM6
import Derived.Test.YtoibkjggfkkdhaaRowA
namespace Go.Proofs.Ytoibkjggfkkdhaa
open Go.RowKit
namespace Lf
open Mem Lx Bu St
/-- two rows of the call's own lie apart -/
def Apt (A A' : Option Addr) : Prop := ∀ a a', A = some a → A' = some a' → a.block ≠ a'.block
set_option maxRecDepth 100000 in
set_option maxHeartbeats 8000000 in
theorem latest_any {W : World} {A : Option Addr} {c : Nat} {M : List Mg} (h : ML W A M) (hm : M.length ≤ 500) : Calls Try.prog 25 #[.slice A M.length c] W fun e w' => (∃ A' c' T, e = .returned (.slice A' T.length c') ∧ M3 w' W.heap.size A' c' T ∧ LastOf M T) ∧ Below W.heap.size W w' := by
  have cC := Lib.hid (CloneM_any (c := c) h (by omega))
  clear h
  generalize hn : M.length = n at *
  have HN := Lib.hid hn
  clear hn
  go_enter Try.func25, Try.ntmps25
  go_upto_region 2 with (go_at_call 35; refine cC.out.mono ?_; rintro e w1 ⟨⟨A1, c1, rfl, h1⟩, hb⟩)
  have HB1 := Lib.hid hb
  have cS := Lib.hid (SortStable_any h1 HN.out (by omega) hb.size)
  clear h1 hb cC
  go_upto_region 3 with (go_at_call 36; refine cS.out.mono ?_; rintro e w2 ⟨rfl, X, h1, h2, h3, h4, h5⟩)
  have HV1 := Lib.hid h1
  have HXN := Lib.hid h2
  have HLO : Hid (LastOf M (lastM X n)) := by
    have := lastOf h3 h4
    rw [h2] at this
    exact this
  have HB2 : Hid (Below W.heap.size W w2) := HB1.out.trans h5
  clear h1 h2 h3 h4 h5 cS HB1
  have hmk : ∀ w : World, (Instr.makeSlice 30 (.int .i64 0) (.int .i64 (n : Int))).run Try.prog w = .ok (.slice (some ⟨w.heap.size, 0, none⟩) 0 n) (w.alloc (.cells (madeCells #[.string ⟨#[]⟩, .bool false, .string ⟨#[]⟩] (n * 3)) 34)) := fun w => run_makeK (P := Try.prog) Try.underlying30 mginfo (by decide) n (by omega) w
  have HV0 : Hid (M3 (w2.alloc (.cells (madeCells #[.string ⟨#[]⟩, .bool false, .string ⟨#[]⟩] (n * 3)) 34)) W.heap.size (some ⟨w2.heap.size, 0, none⟩) n []) := VK.made (K := MgK) w2 W.heap.size n _ HB2.out.size (by omega)
  have HB3 : Hid (Below W.heap.size W (w2.alloc (.cells (madeCells #[.string ⟨#[]⟩, .bool false, .string ⟨#[]⟩] (n * 3)) 34))) := HB2.out.alloc HB2.out.size _
  have hb3 : Below w2.heap.size w2 (w2.alloc (.cells (madeCells #[.string ⟨#[]⟩, .bool false, .string ⟨#[]⟩] (n * 3)) 34)) := (Below.refl _ _).alloc (Nat.le_refl _) _
  have HX0 := Lib.hid (HV1.out.rd.kept hb3)
  have HA0 : Hid (Apt A1 (some ⟨w2.heap.size, 0, none⟩)) := fun a a' ha ha' => by
    have := (HV1.out.at_ a ha).2
    cases ha'
    show a.block ≠ w2.heap.size
    omega
  go_upto_block 0 with fail
  generalize w2.alloc (.cells (madeCells #[.string ⟨#[]⟩, .bool false, .string ⟨#[]⟩] (n * 3)) 34) = w3 at *
  obtain ⟨g1, hg1⟩ : ∃ g1, g1 = w2.heap.size := ⟨_, rfl⟩
  rw [← hg1] at HV0 HA0 ⊢
  clear hb3 HV1 HB2 hmk hg1
  go_wp2_with fail
  go_loopg [4, 16] n (fun gk lv iv wr => ∃ (k t c2 : Nat) (A2 : Option Addr), k ≤ n ∧ gk = n - k ∧ iv = .int .i64 (k : Int) ∧ lv = .slice A2 t c2 ∧ t ≤ k ∧ Hid ((lastM X k).length = t) ∧ Hid (M3 wr W.heap.size A2 c2 (lastM X k)) ∧ Hid (ML wr A1 X) ∧ Hid (Apt A1 A2) ∧ Hid (Below W.heap.size W wr))
  case atStart => exact ⟨0, 0, n, _, Nat.zero_le _, rfl, rfl, rfl, Nat.le_refl _, rfl, HV0, HX0, HA0, HB3⟩
  case round =>
    obtain ⟨k, t, c2, A2, hk, rfl, rfl, rfl, htk, HT, HV, HX, HA, HB⟩ := hrel
    clear HV0 HX0 HA0 HB3
    by_cases hlt : k < n
    · have hkL : k < X.length := by rw [HXN.out]; exact hlt
      obtain ⟨x, hxx⟩ : ∃ x, x = X[k] := ⟨_, rfl⟩
      have hx' := nat_len hkL
      rw [← hxx] at hx'
      obtain ⟨b, o, e, -, x0, x1, x2⟩ := RdK.msg HX.out hx'
      subst e
      have hw2 : IntKind.i64.wrap ((k : Int) + 1) = ((k + 1 : Nat) : Int) := by rw [IntKind.wrap_i64]; omega
      have HXX := Lib.hid hx'
      clear hxx hx' hkL
      go_upto_region 7 with fail
      have hx := heap_alloc_new wr (.cells #[.string x.1, .bool x.2.1, .string x.2.2] 34)
      have hb0 : Below wr.heap.size wr (wr.alloc (.cells #[.string x.1, .bool x.2.1, .string x.2.2] 34)) := (Below.refl _ _).alloc (Nat.le_refl _) _
      have HV4 := Lib.hid (HV.out.kept hb0)
      have HX4 := Lib.hid (HX.out.kept hb0)
      have HB4 : Hid (Below W.heap.size W (wr.alloc (.cells #[.string x.1, .bool x.2.1, .string x.2.2] 34))) := HB.out.alloc HB.out.size _
      generalize wr.alloc (.cells #[.string x.1, .bool x.2.1, .string x.2.2] 34) = w4 at *
      obtain ⟨g, hg⟩ : ∃ g, g = wr.heap.size := ⟨_, rfl⟩
      rw [← hg] at hx ⊢
      have HBX := Lib.hid hx
      have HG : Hid (∀ a2, A2 = some a2 → a2.block ≠ g) := fun a2 ha => by
        have := (HV.out.at_ a2 ha).2
        omega
      clear hx hb0 hg x0 x1 x2 HV HX HB
      go_cut [36] (fun tv wx => ∃ q : Bool, tv = .bool q ∧ Hid (keepM X k = if q = true then [x] else []) ∧ Hid (Below w4.heap.size w4 wx))
      case first =>
        by_cases hkn : k + 1 = n
        · have hw3 : IntKind.i64.wrap ((k : Int) + 1) = (n : Int) := by rw [IntKind.wrap_i64]; omega
          have HK : Hid (keepM X k = [x]) := keepM_end HXX.out (List.getElem?_eq_none (by rw [HXN.out]; omega))
          clear hkn hw2
          go_quiet (fail)
          go_wp2_with fail
          go_meet
          exact ⟨true, rfl, HK, ⟨rfl, rfl, rfl, Nat.le_refl _, fun _ _ => rfl⟩⟩
        · have hkL : k + 1 < X.length := by rw [HXN.out]; omega
          obtain ⟨y, hyy⟩ : ∃ y, y = X[k + 1] := ⟨_, rfl⟩
          have hy' := nat_len hkL
          rw [← hyy] at hy'
          obtain ⟨q, hq⟩ : ∃ q, q = k + 1 := ⟨_, rfl⟩
          rw [← hq] at hy' hw2
          obtain ⟨b', o', e', -, y0, -, -⟩ := RdK.msg HX4.out hy'
          obtain ⟨rfl, rfl⟩ : b = b' ∧ o = o' := by simpa using e'
          obtain ⟨d0, d1, d2⟩ := box3 HBX.out
          have z0 := fun t : Drift.Tide [] w4 [] => Drift.Tide.cell y0 (by simp) t
          have z1 := fun t : Drift.Tide [] w4 [] => Drift.Tide.cell d0 (by simp) t
          have hd : (((q : Nat) : Int) == (n : Int)) = false := by simp; omega
          have hqn : q < n := by omega
          obtain ⟨v, hv⟩ : ∃ v : Bool, v = !(y.1.toList == x.1.toList) := ⟨_, rfl⟩
          have HK : Hid (keepM X k = if v = true then [x] else []) := by
            unfold Hid
            rw [ba_toList] at hv
            rw [hq] at hy'
            by_cases he : y.1 = x.1
            · rw [keepM_no HXX.out hy' he, hv]
              simp [he]
            · rw [keepM_yes HXX.out hy' he, hv]
              simp [he]
          clear hkn hkL hyy hy' hq e' y0 d0 d1 d2
          refine Drift.wp_region_drift [] [(0,[]),(1,[]),(2,[]),(3,[]),(4,[]),(5,[]),(6,[]),(7,[]),(8,[]),(9,[]),(10,[]),(11,[]),(12,[]),(13,[]),(14,[]),(15,[])] [] [] (by kernel_rfl) (by kernel_rfl) (by simp) ?_
          simp only [Drift.pick, Drift.opsAt, List.getElem?_toArray, List.getElem?_cons_zero, List.getElem?_cons_succ, List.cons_append, List.nil_append, List.filterMap_nil]
          repeat (refine Drift.walk_step (fun K hK => ?_); go_simp; (refine hK _ ?_; clear hK K))
          refine Drift.walk_nil ?_
          intro w5 hb _
          have HB5 : Hid (Below w4.heap.size w4 w5) := hb
          have HVV := Lib.hid hv
          clear z0 z1 hb hv
          simp only [List.length_cons, List.length_nil, List.drop_succ_cons, List.drop_nil, Nat.zero_add, Nat.reduceAdd]
          go_wp2_with fail
          go_meet
          exact ⟨v, by rw [HVV.out], HK, HB5⟩
      case rest =>
      obtain ⟨q, rfl, HK, HB5⟩ := hcut
      have HV5 := Lib.hid (HV4.out.kept HB5.out)
      have HX5 := Lib.hid (HX4.out.kept HB5.out)
      have HBX5 := Lib.hid (kept3 HBX.out HB5.out)
      have HB6 : Hid (Below W.heap.size W wc) := HB4.out.trans (HB5.out.mono HB4.out.size)
      have HLM : Hid (lastM X (k + 1) = lastM X k ++ keepM X k) := rfl
      clear HV4 HX4 HBX HB4 HB5 HG
      cases q with
      | false =>
        have HE : Hid (lastM X (k + 1) = lastM X k) := by
          unfold Hid
          rw [HLM.out, HK.out]
          simp
        clear HLM HK
        go_wp2_with fail
        go_roundg (n - (k + 1))
        case measure => omega
        case rel => exact ⟨k + 1, t, c2, A2, hlt, rfl, by go_num, rfl, by omega, by rw [HE.out]; exact HT, by rw [HE.out]; exact HV5, HX5, HA, HB6⟩
      | true =>
        have HE : Hid (lastM X (k + 1) = lastM X k ++ [x]) := by
          unfold Hid
          rw [HLM.out, HK.out]
          simp
        obtain ⟨d0, d1, d2⟩ := box3 HBX5.out
        have hX : Below wc.heap.size wc (wc.alloc (.cells #[.string x.1, .bool x.2.1, .string x.2.2] 34)) := (Below.refl _ _).alloc (Nat.le_refl _) _
        have hcl : Hid ((wc.alloc (.cells #[.string x.1, .bool x.2.1, .string x.2.2] 34)).heap[wc.heap.size]? = some (.cells (MgK.cs x).toArray MgK.T (0, 0))) := heap_alloc_new wc _
        have HTX : Hid (M3 (wc.alloc (.cells #[.string x.1, .bool x.2.1, .string x.2.2] 34)) W.heap.size A2 c2 (lastM X k)) := HV5.out.kept hX
        have HXX2 : Hid (ML (wc.alloc (.cells #[.string x.1, .bool x.2.1, .string x.2.2] 34)) (some ⟨b, o, none⟩) X) := HX5.out.kept hX
        have hBx : W.heap.size ≤ (wc.alloc (.cells #[.string x.1, .bool x.2.1, .string x.2.2] 34)).heap.size := Nat.le_trans HB6.out.size hX.size
        have HX2 := Lib.hid (hX.mono HB6.out.size)
        have hbl : b < (wc.alloc (.cells #[.string x.1, .bool x.2.1, .string x.2.2] 34)).heap.size := by
          obtain ⟨b', o', e', h', -⟩ := RdK.msg HXX2.out HXX.out
          obtain ⟨rfl, rfl⟩ : b = b' ∧ o = o' := by simpa using e'
          exact h'
        have HBL := Lib.hid hbl
        have hm65 : t + 1 ≤ 1048576 := by omega
        clear hX HLM HK hbl HV5 HX5
        go_wp2_with (with_reducible refine wpList_appendK (K := MgK) Try.underlying30 mginfo rfl (by decide) (by decide) rfl (.tmp 37) (.tmp 39) rfl W.heap.size A2 t c2 (lastM X k) rfl HT.out HTX.out wc.heap.size 1 x rfl hcl.out hm65 hBx ?_; intro A4 c4 w5 hd')
        have HX6 : Hid (ML w5 (some ⟨b, o, none⟩) X) := HXX2.out.keep hd'.out.below.size fun a ha => by
          cases ha
          exact hd'.out.block b HBL.out fun a2 ha2 => (HA.out _ a2 rfl ha2).symm
        have HA6 : Hid (Apt (some ⟨b, o, none⟩) A4) := fun a a4 ha ha4 => by
          cases ha
          rcases hd'.out.row a4 ha4 with ⟨a2, ha2, e2⟩ | e2
          · rw [e2]
            exact HA.out _ a2 rfl ha2
          · rw [e2]
            have := HBL.out
            show b ≠ _
            omega
        go_roundg (n - (k + 1))
        case measure => omega
        case rel => exact ⟨k + 1, t + 1, c4, A4, hlt, rfl, by go_num, rfl, by omega, by rw [HE.out, List.length_append, HT.out]; rfl, by rw [HE.out]; exact hd'.out.vo, HX6, HA6, (HB6.out.trans HX2.out).trans hd'.out.below⟩
    · obtain rfl : k = n := by omega
      clear hlt HX HA
      go_wp2_with fail
      go_ret
      exact ⟨⟨A2, c2, lastM X k, by rw [HT.out]; rfl, HV.out, HLO.out⟩, HB.out⟩
end Lf
end Go.Proofs.Ytoibkjggfkkdhaa
