/-
  The document's leaf: Cut, Put, Apply, Part.
-/
import Derived.Test.YtoibkjggfkkdhaaPairP
namespace Go.Proofs.Ytoibkjggfkkdhaa
open Go.RowKit
namespace Lf
open Mem Lx Bu
theorem run_cutP (A : Option Addr) (n c m : Nat) (hk : m ≤ n) (w : World) : (Instr.slice 22 (.slice A n c) (some (.int .i64 (m : Int))) none none).run Try.prog w = .ok (.slice (cutK 2 A c m) (n - m) (c - m)) w := run_cutK Try.underlying22 prinfo A n c m hk w
theorem run_upToP (A : Option Addr) (n c m : Nat) (hk : m ≤ c) (w : World) : (Instr.slice 22 (.slice A n c) none (some (.int .i64 (m : Int))) none).run Try.prog w = .ok (.slice A m c) w := run_upToK Try.underlying22 prinfo A n c m hk w
set_option maxRecDepth 100000 in
set_option maxHeartbeats 4000000 in
theorem RCut_pairs {W : World} {A : Option Addr} {c : Nat} {L : List Pr} (h : PL W A L) (key : ByteArray) (hl : L.length ≤ 400000) : Calls Try.prog 26 #[.slice A L.length c, .string key] W fun e w' => (∃ A' c', e = .returned (.slice A' (cutP L key).length c') ∧ P3 w' W.heap.size A' c' (cutP L key)) ∧ Below W.heap.size W w' := by
  obtain ⟨n, hn⟩ : ∃ n, n = L.length := ⟨_, rfl⟩
  have HN := Lib.hid hn
  have HH := Lib.hid h
  rw [← hn] at hl ⊢
  clear h hn
  go_enter Try.func26, Try.ntmps26
  go_upto_region 2 with fail
  have HV0 : Hid (P3 (W.alloc (.cells #[] 43)) W.heap.size (some ⟨W.heap.size, 0, none⟩) 0 []) := VK.lit (K := PrK) W W.heap.size (Nat.le_refl _)
  have HB0 : Hid (Below W.heap.size W (W.alloc (.cells #[] 43))) := (Below.refl _ _).alloc (Nat.le_refl _) _
  generalize W.alloc (.cells #[] 43) = w2 at *
  go_wp2_with fail
  go_loopg [5, 6] n (fun gk bv iv wr => ∃ (k j c' : Nat) (A' : Option Addr) (O : List Pr), k ≤ n ∧ gk = n - k ∧ iv = .int .i64 (k : Int) ∧ bv = .slice A' j c' ∧ j ≤ k ∧ Hid (cutP (L.take k) key = O) ∧ Hid (O.length = j) ∧ Hid (P3 wr W.heap.size A' c' O) ∧ Hid (Below W.heap.size W wr))
  case atStart => exact ⟨0, 0, 0, _, [], Nat.zero_le _, rfl, rfl, rfl, Nat.le_refl _, rfl, rfl, HV0, HB0⟩
  case round =>
    obtain ⟨k, j, c', A', O, hk, rfl, rfl, rfl, hj, HR, HM, HV, HB⟩ := hrel
    clear HV0 HB0
    by_cases hlt : k < n
    · have hkL : k < L.length := by rw [← HN.out]; exact hlt
      obtain ⟨x, hxx⟩ : ∃ x, x = L[k] := ⟨_, rfl⟩
      have hx' := nat_len hkL
      rw [← hxx] at hx'
      have HS := Lib.hid (cutP_next (key := key) hx')
      obtain ⟨b, o, e, -, c0, c1⟩ := RdK.pair (HH.out.kept HB.out) hx'
      subst e
      have hw2 : IntKind.i64.wrap ((k : Int) + 1) = ((k + 1 : Nat) : Int) := by rw [IntKind.wrap_i64]; omega
      have hm65 : j + 1 ≤ 1048576 := by omega
      clear hxx hx' hkL
      by_cases hke : x.1 = key
      · have HR2 : Hid (cutP (L.take (k + 1)) key = O) := by
          unfold Hid
          rw [HS.out, HR.out, if_pos hke, List.append_nil]
        rw [hke] at c0
        clear hke HS
        go_wp2_with fail
        go_roundg (n - (k + 1))
        case measure => omega
        case rel => exact ⟨k + 1, j, c', A', O, hlt, rfl, by go_num, rfl, by omega, HR2, HM, HV, HB⟩
      · have HR2 : Hid (cutP (L.take (k + 1)) key = O ++ [x]) := by
          unfold Hid
          rw [HS.out, HR.out, if_neg hke]
        have hq2 : (x.1.toList == key.toList) = false := by rw [ba_toList]; simpa using hke
        have hX : Below wr.heap.size wr (wr.alloc (.cells #[.string x.1, .string x.2] 43)) := (Below.refl _ _).alloc (Nat.le_refl _) _
        have hcl : Hid ((wr.alloc (.cells #[.string x.1, .string x.2] 43)).heap[wr.heap.size]? = some (.cells (PrK.cs x).toArray PrK.T (0, 0))) := heap_alloc_new wr _
        have HTX : Hid (P3 (wr.alloc (.cells #[.string x.1, .string x.2] 43)) W.heap.size A' c' O) := HV.out.kept hX
        have hBx : W.heap.size ≤ (wr.alloc (.cells #[.string x.1, .string x.2] 43)).heap.size := Nat.le_trans HB.out.size hX.size
        have HX2 := Lib.hid (hX.mono HB.out.size)
        clear hX hke HS HV
        go_wp2_with (with_reducible refine wpList_appendK (K := PrK) Try.underlying22 prinfo rfl (by decide) (by decide) rfl (.tmp 21) (.tmp 26) rfl W.heap.size A' j c' O rfl HM.out HTX.out wr.heap.size 1 x rfl hcl.out hm65 hBx ?_; intro A4 c4 w4 hd')
        go_roundg (n - (k + 1))
        case measure => omega
        case rel => exact ⟨k + 1, j + 1, c4, A4, O ++ [x], hlt, rfl, by go_num, rfl, by omega, HR2, by unfold Hid; rw [List.length_append, HM.out]; rfl, hd'.out.vo, (HB.out.trans HX2.out).trans hd'.out.below⟩
    · obtain rfl : k = n := by omega
      rw [List.take_of_length_le (by rw [← HN.out]; exact Nat.le_refl _)] at HR
      clear hlt
      go_wp2_with fail
      go_ret
      exact ⟨⟨A', c', by rw [HR.out, HM.out]; rfl, by rw [HR.out]; exact HV.out⟩, HB.out⟩
set_option maxRecDepth 100000 in
set_option maxHeartbeats 4000000 in
theorem RPut_pairs {W : World} {A : Option Addr} {c : Nat} {L : List Pr} (h : PL W A L) (key val : ByteArray) (hk : ∀ x, x ∈ L → x.1.size ≤ maxLen) (hl : L.length ≤ 400000) : Calls Try.prog 27 #[.slice A L.length c, .string key, .string val] W fun e w' => (∃ A' c', e = .returned (.slice A' (putP L key val).length c') ∧ P3 w' W.heap.size A' c' (putP L key val)) ∧ Below W.heap.size W w' := by
  have cC := Lib.hid (RCut_pairs (c := c) h key hl)
  have hCl := cutP_len L key
  have HCK : Hid (∀ x, x ∈ cutP L key → x.1.size ≤ maxLen) := fun x hx => hk x (mem_cutP.1 hx).1
  obtain ⟨C, hC⟩ : ∃ C, C = cutP L key := ⟨_, rfl⟩
  have HP : Hid (putP L key val = C.takeWhile (ahead key) ++ [(key, val)] ++ C.dropWhile (ahead key)) := by rw [hC]; rfl
  rw [← hC] at cC hCl HCK
  generalize putP L key val = R at *
  generalize hR : R.length = r
  have HRL := Lib.hid hR
  generalize hn : C.length = n at *
  have HN := Lib.hid hn
  have hn2 : n ≤ 400000 := Nat.le_trans hCl hl
  clear h hk hCl hC hR hn hl
  generalize L.length = l0 at *
  go_enter Try.func27, Try.ntmps27
  go_upto_region 2 with (go_at_call 26; refine cC.out.mono ?_; rintro e w1 ⟨⟨A1, c1, rfl, h1⟩, hb⟩)
  have HC1 := Lib.hid (VK.rc h1)
  have HB1 := Lib.hid hb
  have hnc : n ≤ c1 := by rw [← HN.out]; exact HC1.out.2
  clear h1 hb cC
  go_upto_block 0 with fail
  go_cut [7] (fun iv wx => ∃ p : Nat, p ≤ n ∧ iv = .int .i64 (p : Int) ∧ Hid (C.takeWhile (ahead key) = C.take p ∧ C.dropWhile (ahead key) = C.drop p) ∧ Hid (Below w1.heap.size w1 wx))
  case first =>
    go_wp2_with fail
    go_loopg [7] n (fun gk iv wr => ∃ k : Nat, k ≤ n ∧ gk = n - k ∧ iv = .int .i64 (k : Int) ∧ Hid (∀ (i : Nat) (x : Pr), i < k → C[i]? = some x → ahead key x = true) ∧ Hid (Below w1.heap.size w1 wr))
    case atStart => exact ⟨0, Nat.zero_le _, rfl, rfl, fun i x hi => absurd hi (Nat.not_lt_zero _), Below.refl _ _⟩
    case round =>
      obtain ⟨k, hk, rfl, rfl, HE, HB⟩ := hrel
      by_cases hlt : k < n
      · have hkL : k < C.length := by rw [HN.out]; exact hlt
        obtain ⟨x, hxx⟩ : ∃ x, x = C[k] := ⟨_, rfl⟩
        have hx' := nat_len hkL
        rw [← hxx] at hx'
        obtain ⟨b, o, e, -, c0, -⟩ := RdK.pair (HC1.out.1.kept HB.out) hx'
        subst e
        have HX := Lib.hid hx'
        have cX := fun w => Lib.hid (RCmp x.1 key (HCK.out x (List.mem_of_getElem? hx')) w)
        have hw2 : IntKind.i64.wrap ((k : Int) + 1) = ((k + 1 : Nat) : Int) := by rw [IntKind.wrap_i64]; omega
        clear hxx hx' hkL
        by_cases hz : cmpB x.1 key < 0
        · have HE2 : Hid (∀ (i : Nat) (x : Pr), i < k + 1 → C[i]? = some x → ahead key x = true) := fun i y hi hy => by
            by_cases e : i = k
            · subst e
              rw [HX.out] at hy
              cases hy
              simpa [ahead] using hz
            · exact HE.out i y (by omega) hy
          generalize cmpB x.1 key = z at *
          go_wp2_with (go_at_call 21; refine (cX _).out.mono ?_; rintro e w' ⟨rfl, hb⟩)
          have HB2 := Lib.hid (HB.out.trans (hb.mono HB.out.size))
          go_roundg (n - (k + 1))
          case measure => omega
          case rel => exact ⟨k + 1, hlt, rfl, by go_num, HE2, HB2⟩
        · have HW : Hid (C.takeWhile (ahead key) = C.take k ∧ C.dropWhile (ahead key) = C.drop k) := while_at (by rw [HN.out]; exact hk) HE.out fun y hy => by
            rw [HX.out] at hy
            cases hy
            simpa [ahead] using hz
          have hd : decide (cmpB x.1 key < 0) = false := by simpa using hz
          generalize cmpB x.1 key = z at *
          go_wp2_with (go_at_call 21; refine (cX _).out.mono ?_; rintro e w' ⟨rfl, hb⟩)
          have HB2 := Lib.hid (HB.out.trans (hb.mono HB.out.size))
          go_meet
          exact ⟨k, hk, rfl, HW, HB2⟩
      · have HW : Hid (C.takeWhile (ahead key) = C.take k ∧ C.dropWhile (ahead key) = C.drop k) := while_at (by rw [HN.out]; exact hk) HE.out fun y hy => by
          have := (List.getElem?_eq_some_iff.1 hy).1
          rw [HN.out] at this
          omega
        obtain rfl : k = n := by omega
        clear hlt
        go_wp2_with fail
        go_meet
        exact ⟨k, Nat.le_refl _, rfl, HW, HB⟩
  case rest =>
  obtain ⟨p, hp, rfl, HW, HB⟩ := hcut
  have HBW : Hid (Below W.heap.size W wc) := HB1.out.trans (HB.out.mono HB1.out.size)
  have HC2 := Lib.hid (HC1.out.kept HB.out)
  have r1 := fun w => run_upToP A1 n c1 p (by omega) w
  have r2 := fun w => run_cutP A1 n c1 p hp w
  have hX : Below wc.heap.size wc (wc.alloc (.cells #[] 43)) := (Below.refl _ _).alloc (Nat.le_refl _) _
  have HV0 : Hid (P3 (wc.alloc (.cells #[] 43)) wc.heap.size (some ⟨wc.heap.size, 0, none⟩) 0 []) := VK.lit (K := PrK) wc wc.heap.size (Nat.le_refl _)
  have HAL : Hid (PL (wc.alloc (.cells #[] 43)) A1 (C.take p)) := ((HC2.out.kept hX).upTo p).1
  have HTL : Hid ((C.take p).length = p) := by unfold Hid; rw [List.length_take, HN.out]; omega
  have hs := hX.size
  have hn3 : 0 + p ≤ 1048576 := by omega
  have HBX := Lib.hid hX
  clear hX HC1 HB
  go_upto_region 6 with (with_reducible refine wpList_append_allK (K := PrK) Try.underlying22 prinfo rfl (by decide) (by decide) rfl (.tmp 28) (.tmp 31) rfl wc.heap.size (some ⟨wc.heap.size, 0, none⟩) 0 0 [] rfl rfl HV0.out A1 p c1 (C.take p) rfl HTL.out HAL.out hn3 hs ?_; intro A5 c5 w5 hv5 hb5)
  have HB5 : Hid (Below wc.heap.size wc w5) := HBX.out.trans hb5.out
  have HV5 : Hid (P3 w5 wc.heap.size A5 c5 (C.take p)) := hv5.out
  clear hv5 hb5 hs HBX HV0 HAL hn3
  have hX : Below w5.heap.size w5 (w5.alloc (.cells #[.string key, .string val] 43)) := (Below.refl _ _).alloc (Nat.le_refl _) _
  have hcl : Hid ((w5.alloc (.cells #[.string key, .string val] 43)).heap[w5.heap.size]? = some (.cells (PrK.cs (key, val)).toArray PrK.T (0, 0))) := heap_alloc_new w5 _
  have HTX : Hid (P3 (w5.alloc (.cells #[.string key, .string val] 43)) wc.heap.size A5 c5 (C.take p)) := HV5.out.kept hX
  have hBx : wc.heap.size ≤ (w5.alloc (.cells #[.string key, .string val] 43)).heap.size := Nat.le_trans HB5.out.size hX.size
  have HX2 := Lib.hid (hX.mono HB5.out.size)
  have hm65 : p + 1 ≤ 1048576 := by omega
  clear hX HV5
  go_upto_region 7 with (with_reducible refine wpList_appendK (K := PrK) Try.underlying22 prinfo rfl (by decide) (by decide) rfl (.tmp 33) (.tmp 37) rfl wc.heap.size A5 p c5 (C.take p) rfl HTL.out HTX.out w5.heap.size 1 (key, val) rfl hcl.out hm65 hBx ?_; intro A6 c6 w6 hd6)
  have HB6 : Hid (Below wc.heap.size wc w6) := (HB5.out.trans HX2.out).trans hd6.out.below
  have HV6 : Hid (P3 w6 wc.heap.size A6 c6 (C.take p ++ [(key, val)])) := hd6.out.vo
  have HAD : Hid (PL w6 (cutK 2 A1 c1 p) (C.drop p)) := ((HC2.out.kept HB6.out).cut p).1
  have HL6 : Hid ((C.take p ++ [(key, val)]).length = p + 1) := by unfold Hid; rw [List.length_append, HTL.out]; rfl
  have HDL : Hid ((C.drop p).length = n - p) := by unfold Hid; rw [List.length_drop, HN.out]
  have hs6 := HB6.out.size
  have hn6 : (p + 1) + (n - p) ≤ 1048576 := by omega
  clear hd6 HX2 HTX hcl hBx hm65 HB5
  go_wp2_with (with_reducible refine wpList_append_allK (K := PrK) Try.underlying22 prinfo rfl (by decide) (by decide) rfl (.tmp 39) (.tmp 42) rfl wc.heap.size A6 (p + 1) c6 (C.take p ++ [(key, val)]) rfl HL6.out HV6.out (cutK 2 A1 c1 p) (n - p) (c1 - p) (C.drop p) rfl HDL.out HAD.out hn6 hs6 ?_; intro A7 c7 w7 hv7 hb7)
  have hR : R = C.take p ++ [(key, val)] ++ C.drop p := by rw [HP.out, HW.out.1, HW.out.2]
  have hr : p + 1 + (n - p) = r := by rw [← HRL.out, hR, List.length_append, HL6.out, HDL.out]
  have hv8 : P3 w7 W.heap.size A7 c7 R := by
    rw [hR]
    exact hv7.out.mono HBW.out.size
  subst hr
  go_ret
  exact ⟨⟨A7, c7, rfl, hv8⟩, HBW.out.trans ((HB6.out.trans hb7.out).mono HBW.out.size)⟩
/-- an answer in a row made since B -/
def EvPairs (B : Nat) (X : List Pr) (v : Value) (w : World) : Prop := ∃ A' c', v = .slice A' X.length c' ∧ P3 w B A' c' X
set_option maxRecDepth 100000 in
set_option maxHeartbeats 4000000 in
theorem RApply_any {W : World} {A A' : Option Addr} {c c' : Nat} {L : List Pr} {M : List Mg} (h : PC W A c L) (h' : ML W A' M) (hk : ∀ x, x ∈ L → x.1.size ≤ maxLen) (hm : ∀ m, m ∈ M → m.1.size ≤ maxLen) (hl : L.length + M.length ≤ 400000) : Calls Try.prog 16 #[.slice A L.length c, .slice A' M.length c'] W fun e w' => (∃ A2 c2, e = .returned (.slice A2 (applyP L M).length c2) ∧ PC w' A2 c2 (applyP L M)) ∧ Below W.heap.size W w' := by
  have cCu := fun (L1 : List Pr) (A1 : Option Addr) (c1 : Nat) (W1 : World) (h1 : PL W1 A1 L1) (h2 : L1.length ≤ 400000) (key : ByteArray) => Lib.hid (RCut_pairs (c := c1) h1 key h2)
  have cPu := fun (L1 : List Pr) (A1 : Option Addr) (c1 : Nat) (W1 : World) (h1 : PL W1 A1 L1) (h2 : L1.length ≤ 400000) (h3 : ∀ x, x ∈ L1 → x.1.size ≤ maxLen) (key val : ByteArray) => Lib.hid (RPut_pairs (c := c1) h1 key val h3 h2)
  have HKY : Hid (∀ k x, x ∈ applyP L (M.take k) → x.1.size ≤ maxLen) := fun k => key_apply hk fun m hx => hm m (List.mem_of_mem_take hx)
  have HLE : Hid (∀ k, (applyP L (M.take k)).length ≤ 400000) := fun k => by
    have := applyP_len (M.take k) L
    rw [List.length_take] at this
    omega
  have HA := Lib.hid h
  have HM := Lib.hid h'
  generalize hn : M.length = n at *
  have HN := Lib.hid hn
  generalize hl0 : L.length = l0 at *
  have HL0 := Lib.hid hl0
  clear h h' hn hk hm hl0
  go_enter Try.func16, Try.ntmps16
  go_wp2_with fail
  go_loopg [0, 5] n (fun gk lv iv wr => ∃ (k j c1 : Nat) (A1 : Option Addr), k ≤ n ∧ gk = n - k ∧ iv = .int .i64 (k : Int) ∧ lv = .slice A1 j c1 ∧ Hid ((applyP L (M.take k)).length = j) ∧ Hid (PC wr A1 c1 (applyP L (M.take k))) ∧ Hid (Below W.heap.size W wr))
  case atStart => exact ⟨0, l0, c, A, Nat.zero_le _, rfl, rfl, rfl, HL0.out, HA.out, Below.refl _ _⟩
  case round =>
    obtain ⟨k, j, c1, A1, hk, rfl, rfl, rfl, HJ, HC, HB⟩ := hrel
    by_cases hlt : k < n
    · have hkL : k < M.length := by rw [HN.out]; exact hlt
      obtain ⟨x, hxx⟩ : ∃ x, x = M[k] := ⟨_, rfl⟩
      have hx' := nat_len hkL
      rw [← hxx] at hx'
      have HS := Lib.hid (applyP_next (L := L) hx')
      obtain ⟨b, o, e, -, c0, c1', c2'⟩ := RdK.msg (HM.out.kept HB.out) hx'
      subst e
      have hw2 : IntKind.i64.wrap ((k : Int) + 1) = ((k + 1 : Nat) : Int) := by rw [IntKind.wrap_i64]; omega
      clear hxx hx' hkL
      generalize hD : x.2.1 = dl at *
      cases dl with
      | true =>
        have HD : Hid (applyP L (M.take (k + 1)) = cutP (applyP L (M.take k)) x.1) := by
          unfold Hid
          rw [HS.out]
          unfold doP
          rw [if_pos hD]
        have cX := cCu _ A1 c1 wr HC.out.1 (HLE.out k) x.1
        rw [HJ.out, ← HD.out] at cX
        clear HS HD cCu cPu hD
        go_wp2_with (go_at_call 26; refine cX.out.mono ?_; rintro e w2 ⟨⟨A2, c2, rfl, h2⟩, hb⟩)
        go_roundg (n - (k + 1))
        case measure => omega
        case rel => exact ⟨k + 1, _, c2, A2, hlt, rfl, by go_num, rfl, rfl, VK.rc h2, HB.out.trans (hb.mono HB.out.size)⟩
      | false =>
        have HD : Hid (applyP L (M.take (k + 1)) = putP (applyP L (M.take k)) x.1 x.2.2) := by
          unfold Hid
          rw [HS.out]
          unfold doP
          rw [if_neg (by rw [hD]; exact Bool.false_ne_true)]
        have cX := fun (W1 : World) (hb : Below wr.heap.size wr W1) => cPu _ A1 c1 W1 (HC.out.1.kept hb) (HLE.out k) (HKY.out k) x.1 x.2.2
        rw [HJ.out, ← HD.out] at cX
        clear HS HD cCu cPu hD
        have z0 := fun q : Drift.Tide [] wr [] => Drift.Tide.cell c0 (by simp) q
        have z2 := fun q : Drift.Tide [] wr [] => Drift.Tide.cell c2' (by simp) q
        go_upto_region 6 with fail
        clear c0 c1' c2'
        refine Drift.wp_region_drift [] [(0,[]),(1,[]),(2,[]),(3,[]),(4,[]),(5,[]),(6,[]),(7,[]),(8,[]),(9,[]),(10,[]),(11,[]),(12,[])] [11] [] (by kernel_rfl) (by kernel_rfl) (by simp) ?_
        simp only [Drift.pick, Drift.opsAt, List.getElem?_toArray, List.getElem?_cons_zero, List.getElem?_cons_succ, List.cons_append, List.nil_append, List.filterMap_nil]
        repeat (refine Drift.walk_step (fun K hK => ?_); go_simp; (refine hK _ ?_; clear hK K))
        refine Drift.walk_event rfl Drift.mkwalk_nil (EvPairs W.heap.size (applyP L (M.take (k + 1)))) (fun W2 hb2 _ => ?_) (fun v w5 hv hI _ hTd => ?_)
        · go_simp
          go_at_call 27
          refine (cX W2 hb2).out.mono ?_
          rintro e w' ⟨⟨A2, c2, rfl, h2⟩, hb⟩
          exact ⟨_, rfl, ⟨A2, c2, rfl, h2.mono (Nat.le_trans HB.out.size hb2.size)⟩, Flow.Into.of_below hb⟩
        obtain ⟨A2, c2, rfl, h2⟩ := hv
        have HV := Lib.hid h2
        have HB5 : Hid (Below W.heap.size W w5) := HB.out.trans (hI.below.mono HB.out.size)
        clear h2 hI cX z0 z2
        repeat (refine Drift.walk_step (fun K hK => ?_); go_simp; (refine hK _ ?_; clear hK K))
        refine Drift.walk_nil ?_
        intro w6 hb6 _
        have HV6 := Lib.hid (VK.rc (HV.out.kept hb6))
        have HB6 : Hid (Below W.heap.size W w6) := HB5.out.trans (hb6.mono HB5.out.size)
        clear hb6 hTd HV HB5 HB
        simp only [List.length_cons, List.length_nil, List.drop_succ_cons, List.drop_nil, Nat.zero_add, Nat.reduceAdd]
        go_wp2_with fail
        go_roundg (n - (k + 1))
        case measure => omega
        case rel => exact ⟨k + 1, _, c2, A2, hlt, rfl, by go_num, rfl, rfl, HV6.out, HB6.out⟩
    · obtain rfl : k = n := by omega
      rw [List.take_of_length_le (by rw [HN.out]; exact Nat.le_refl _)] at HC HJ
      clear hlt
      go_wp2_with fail
      go_ret
      exact ⟨⟨A1, c1, by rw [HJ.out]; rfl, HC.out⟩, HB.out⟩
set_option maxRecDepth 100000 in
set_option maxHeartbeats 4000000 in
theorem RPart_pairs {W : World} {A : Option Addr} {c : Nat} {L : List Pr} (h : PL W A L) (lo hi : ByteArray) (top : Bool) (most : Int) (hlo : lo.size ≤ maxLen) (hk : ∀ x, x ∈ L → x.1.size ≤ maxLen) (hl : L.length ≤ 400000) : Calls Try.prog 18 #[.slice A L.length c, .agg #[.string lo, .string hi, .bool top], .int .i64 most] W fun e w' => (∃ A' c', e = .returned (.slice A' (partP (fun m => inB lo hi top m.1) most L).length c') ∧ P3 w' W.heap.size A' c' (partP (fun m => inB lo hi top m.1) most L)) ∧ Below W.heap.size W w' := by
  have cI := fun (x : Pr) (hx : x ∈ L) w => Lib.hid (RIn_any lo hi top x.1 w hlo (hk x hx))
  obtain ⟨p, hp⟩ : ∃ p : Pr → Bool, p = fun m => inB lo hi top m.1 := ⟨_, rfl⟩
  have hp2 : ∀ x : Pr, inB lo hi top x.1 = p x := fun x => by rw [hp]
  simp only [hp2] at cI
  rw [← hp]
  have HPT : Hid (∀ k, ((L.take k).filter p).length ≤ most.toNat → (L.length ≤ k ∨ most ≤ (((L.take k).filter p).length : Int)) → partP p most L = (L.take k).filter p) := fun k h1 h2 => partP_at h1 h2
  generalize partP p most L = R at *
  have HH := Lib.hid h
  generalize hn : L.length = n at *
  have HN := Lib.hid hn
  clear h hn hk hp2 hp hlo
  go_enter Try.func18, Try.ntmps18
  go_upto_region 1 with fail
  have hx := heap_alloc_new W (.cells #[.string lo, .string hi, .bool top] 37)
  have hb0 : Below W.heap.size W (W.alloc (.cells #[.string lo, .string hi, .bool top] 37)) := (Below.refl _ _).alloc (Nat.le_refl _) _
  generalize W.alloc (.cells #[.string lo, .string hi, .bool top] 37) = w1 at *
  obtain ⟨g, hg⟩ : ∃ g, g = W.heap.size := ⟨_, rfl⟩
  rw [← hg] at hx ⊢
  have HB1 : Hid (Below W.heap.size W w1) := by rw [← hg]; rw [← hg] at hb0; exact hb0
  have HX := Lib.hid hx
  have HH1 := Lib.hid (HH.out.kept HB1.out)
  clear hx hb0 hg HH
  go_upto_region 2 with fail
  have HV0 : Hid (P3 (w1.alloc (.cells #[] 43)) w1.heap.size (some ⟨w1.heap.size, 0, none⟩) 0 []) := VK.lit (K := PrK) w1 w1.heap.size (Nat.le_refl _)
  have HB0 : Hid (Below w1.heap.size w1 (w1.alloc (.cells #[] 43))) := (Below.refl _ _).alloc (Nat.le_refl _) _
  generalize w1.alloc (.cells #[] 43) = w2 at *
  go_wp2_with fail
  go_loopg [7, 8] n (fun gk bv iv wr => ∃ (k j c' : Nat) (A' : Option Addr) (O : List Pr), k ≤ n ∧ gk = n - k ∧ iv = .int .i64 (k : Int) ∧ bv = .slice A' j c' ∧ j ≤ k ∧ j ≤ most.toNat ∧ Hid ((L.take k).filter p = O) ∧ Hid (O.length = j) ∧ Hid (P3 wr w1.heap.size A' c' O) ∧ Hid (Below w1.heap.size w1 wr))
  case atStart => exact ⟨0, 0, 0, _, [], Nat.zero_le _, rfl, rfl, rfl, Nat.le_refl _, Nat.zero_le _, rfl, rfl, HV0, HB0⟩
  case round =>
    obtain ⟨k, j, c', A', O, hk, rfl, rfl, rfl, hj, hjm, HR, HM, HV, HB⟩ := hrel
    clear HV0 HB0
    have HBW : Hid (Below W.heap.size W wr) := HB1.out.trans (HB.out.mono HB1.out.size)
    by_cases hlt : k < n
    · rcases Int.lt_or_le (j : Int) most with hm | hm
      · have hkL : k < L.length := by rw [HN.out]; exact hlt
        obtain ⟨x, hxx⟩ : ∃ x, x = L[k] := ⟨_, rfl⟩
        have hx' := nat_len hkL
        rw [← hxx] at hx'
        have HS := Lib.hid (filter_next (p := p) hx')
        obtain ⟨b, o, e, -, c0, -⟩ := RdK.pair (HH1.out.kept HB.out) hx'
        subst e
        obtain ⟨d0, d1, d2⟩ := box3 (kept3 HX.out HB.out)
        have HXX := Lib.hid hx'
        have cX := cI x (List.mem_of_getElem? hx')
        have hw2 : IntKind.i64.wrap ((k : Int) + 1) = ((k + 1 : Nat) : Int) := by rw [IntKind.wrap_i64]; omega
        have hm65 : j + 1 ≤ 1048576 := by omega
        clear hxx hx' hkL cI
        have z0 := fun q : Drift.Tide [] wr [] => Drift.Tide.cell c0 (by simp) q
        have y0 := fun q : Drift.Tide [] wr [] => Drift.Tide.cell d0 (by simp) q
        have y1 := fun q : Drift.Tide [] wr [] => Drift.Tide.cell d1 (by simp) q
        have y2 := fun q : Drift.Tide [] wr [] => Drift.Tide.cell d2 (by simp) q
        obtain ⟨pv, hpv⟩ : ∃ pv, pv = p x := ⟨_, rfl⟩
        have HPV := Lib.hid hpv
        rw [← hpv] at cX
        clear hpv c0 d0 d1 d2
        go_upto_region 5 with fail
        refine Drift.wp_region_drift [] [(0,[]),(1,[]),(2,[]),(3,[]),(4,[]),(5,[]),(6,[])] [] [] (by kernel_rfl) (by kernel_rfl) (by simp) ?_
        simp only [Drift.pick, Drift.opsAt, List.getElem?_toArray, List.getElem?_cons_zero, List.getElem?_cons_succ, List.cons_append, List.nil_append, List.filterMap_nil]
        repeat (refine Drift.walk_step (fun K hK => ?_); go_simp; first | (refine hK _ ?_; clear hK K) | (apply Exists.intro; refine ⟨fun q => ?_, hK _ ?_⟩; (go_at_call 30; exact (cX _).out); clear hK K))
        refine Drift.walk_nil ?_
        intro w9 hb9 _
        have HB3 := Lib.hid (HB.out.trans (hb9.mono HB.out.size))
        have HV3 := Lib.hid (HV.out.kept hb9)
        clear z0 y0 y1 y2 hb9 HV HB HBW cX
        obtain ⟨b2, o2, e, -, c0, c1⟩ := RdK.pair (HH1.out.kept HB3.out) HXX.out
        obtain ⟨rfl, rfl⟩ : b = b2 ∧ o = o2 := by simpa using e
        clear e
        simp only [List.length_cons, List.length_nil, List.drop_succ_cons, List.drop_nil, Nat.zero_add, Nat.reduceAdd]
        cases pv with
        | true =>
          have HR2 : Hid ((L.take (k + 1)).filter p = O ++ [x]) := by
            unfold Hid
            rw [HS.out, HR.out, if_pos HPV.out.symm]
          have hX : Below w9.heap.size w9 (w9.alloc (.cells #[.string x.1, .string x.2] 43)) := (Below.refl _ _).alloc (Nat.le_refl _) _
          have hcl : Hid ((w9.alloc (.cells #[.string x.1, .string x.2] 43)).heap[w9.heap.size]? = some (.cells (PrK.cs x).toArray PrK.T (0, 0))) := heap_alloc_new w9 _
          have HTX : Hid (P3 (w9.alloc (.cells #[.string x.1, .string x.2] 43)) w1.heap.size A' c' O) := HV3.out.kept hX
          have hBx : w1.heap.size ≤ (w9.alloc (.cells #[.string x.1, .string x.2] 43)).heap.size := Nat.le_trans HB3.out.size hX.size
          have HX2 := Lib.hid (hX.mono HB3.out.size)
          clear hX HS HV3 HPV
          go_wp2_with (with_reducible refine wpList_appendK (K := PrK) Try.underlying22 prinfo rfl (by decide) (by decide) rfl (.tmp 29) (.tmp 34) rfl w1.heap.size A' j c' O rfl HM.out HTX.out w9.heap.size 1 x rfl hcl.out hm65 hBx ?_; intro A4 c4 w4 hd')
          go_roundg (n - (k + 1))
          case measure => omega
          case rel => exact ⟨k + 1, j + 1, c4, A4, O ++ [x], hlt, rfl, by go_num, rfl, by omega, by omega, HR2, by unfold Hid; rw [List.length_append, HM.out]; rfl, hd'.out.vo, (HB3.out.trans HX2.out).trans hd'.out.below⟩
        | false =>
          have HR2 : Hid ((L.take (k + 1)).filter p = O) := by
            unfold Hid
            rw [HS.out, HR.out, if_neg (by rw [← HPV.out]; exact Bool.false_ne_true), List.append_nil]
          clear HS HPV
          go_wp2_with fail
          go_roundg (n - (k + 1))
          case measure => omega
          case rel => exact ⟨k + 1, j, c', A', O, hlt, rfl, by go_num, rfl, by omega, hjm, HR2, HM, HV3, HB3⟩
      · have HE : Hid (R = O) := by
          unfold Hid
          rw [HPT.out k (by rw [HR.out, HM.out]; exact hjm) (.inr (by rw [HR.out, HM.out]; exact hm)), HR.out]
        have hd : decide ((j : Int) < most) = false := by simpa using hm
        clear cI
        go_wp2_with fail
        go_ret
        exact ⟨⟨A', c', by rw [HE.out, HM.out]; rfl, by rw [HE.out]; exact HV.out.mono HB1.out.size⟩, HBW.out⟩
    · have HE : Hid (R = O) := by
        unfold Hid
        rw [HPT.out k (by rw [HR.out, HM.out]; exact hjm) (.inl (by omega)), HR.out]
      obtain rfl : k = n := by omega
      clear hlt cI
      go_wp2_with fail
      go_ret
      exact ⟨⟨A', c', by rw [HE.out, HM.out]; rfl, by rw [HE.out]; exact HV.out.mono HB1.out.size⟩, HBW.out⟩
end Lf
end Go.Proofs.Ytoibkjggfkkdhaa
