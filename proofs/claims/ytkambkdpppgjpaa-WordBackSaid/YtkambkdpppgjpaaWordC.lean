/-
  WordBack, walked.
-/
import Derived.Test.YtkambkdpppgjpaaWordD
import Derived.Test.YtkambkdpppgjpaaArgs
namespace Go.Proofs.Ytkambkdpppgjpaa
open Go.RowKit
namespace Wd
open Mem Args

def wdOf : Nat → Nat
  | 0 => 1 | 1 => 2 | 2 => 4 | _ => 8
theorem wdOf_is {r : Nat} (h : r < 4) : isW (wdOf r : Int) = true := by
  match r, h with
  | 0, _ => rfl
  | 1, _ => rfl
  | 2, _ => rfl
  | 3, _ => rfl
theorem wdOf_le (r : Nat) : wdOf r ≤ 8 := by
  match r with
  | 0 => decide
  | 1 => decide
  | 2 => decide
  | n + 3 => exact Nat.le_refl _
/-- the table of widths in memory -/
def Tab (w : World) (g : Nat) : Prop := w.heap[g]? = some (.cells #[.int .i64 1, .int .i64 2, .int .i64 4, .int .i64 8] 54 (0, 0))
theorem Tab.lt {w : World} {g : Nat} (h : Tab w g) : g < w.heap.size := (Array.getElem?_eq_some_iff.1 h).1
theorem Tab.keep {w w' : World} {g : Nat} (h : Tab w g) (hb : w'.heap[g]? = w.heap[g]?) : Tab w' g := hb.trans h
theorem Tab.cell {w : World} {g r : Nat} (h : Tab w g) (hr : r < 4) : w.cell? ⟨g, r, none⟩ = some (.int .i64 (wdOf r : Int)) := by
  unfold Tab at h
  simp only [World.cell?, h]
  match r, hr with
  | 0, _ => rfl
  | 1, _ => rfl
  | 2, _ => rfl
  | 3, _ => rfl

/-- numbers with their widths, as bytes -/
def encl (l : List (Nat × Nat)) : List UInt8 := l.flatMap fun x => be x.1 x.2
theorem encl_snoc (l : List (Nat × Nat)) {k : Nat} (h : k < l.length) : encl (l.take (k + 1)) = encl (l.take k) ++ be l[k].1 l[k].2 := by
  unfold encl
  rw [List.take_succ_eq_append_getElem h, List.flatMap_append]; simp
theorem encl_cons (l : List (Nat × Nat)) {k : Nat} (h : k < l.length) : encl (l.drop k) = be l[k].1 l[k].2 ++ encl (l.drop (k + 1)) := by
  unfold encl
  rw [List.drop_eq_getElem_cons h]; rfl
theorem encl_len (l : List (Nat × Nat)) (h : ∀ x ∈ l, x.1 ≤ 8) : (encl l).length ≤ 8 * l.length := by
  induction l with
  | nil => simp [encl]
  | cons x l ih =>
    have h1 := h x (by simp)
    have h2 := ih fun y hy => h y (by simp [hy])
    unfold encl at *
    rw [List.flatMap_cons, List.length_append, be_length, List.length_cons]
    omega
theorem num_front (wd v : Nat) (r : List UInt8) (hw : isW (wd : Int) = true) : numS ⟨be wd v ++ r, 0⟩ wd = (⟨r, 0⟩, v % 256 ^ wd) := by
  unfold numS takeS
  rw [if_pos hw, if_neg (by omega), if_neg (by simp; omega)]
  have e1 : (be wd v ++ r).drop wd = r := List.drop_left' (be_length wd v)
  have e2 : (be wd v ++ r).take wd = be wd v := List.take_left' (be_length wd v)
  simp only [Int.toNat_natCast, e1, e2, val_be]

/-- the pairs that count -/
def items (ns : List Nat) (ws : List UInt8) : List (Nat × Nat) := ((ws.zip ns).take 100).map fun x => (wdOf (x.1.toNat % 4), x.2)
theorem items_length (ns : List Nat) (ws : List UInt8) : (items ns ws).length = min 100 (min ws.length ns.length) := by simp [items]
theorem items_at (ns : List Nat) (ws : List UInt8) {k : Nat} (h : k < (items ns ws).length) (h1 : k < ws.length) (h2 : k < ns.length) : (items ns ws)[k] = (wdOf (ws[k].toNat % 4), ns[k]) := by simp [items]
theorem items_le (ns : List Nat) (ws : List UInt8) : ∀ x ∈ items ns ws, x.1 ≤ 8 := by
  intro x hx
  obtain ⟨y, _, rfl⟩ := List.mem_map.1 hx
  exact wdOf_le _

theorem ul_below {w w' : World} {p : Option Addr} {ns : List Nat} (h : UL w p ns) (hb : Below w.heap.size w w') : UL w' p ns := fun hl => by
  obtain ⟨b, o, e, hc⟩ := h hl
  refine ⟨b, o, e, fun i hi => ?_⟩
  have h1 := hc i hi
  rw [hb.cell (p := ⟨b, o + i, none⟩) (Flow.lt_of_cell h1)]; exact h1

theorem ul_lt {w : World} {b o : Nat} {ns : List Nat} (h : UL w (some ⟨b, o, none⟩) ns) (hl : 0 < ns.length) : b < w.heap.size := by
  obtain ⟨b', o', e, hc⟩ := h.at_ hl
  obtain ⟨rfl, rfl⟩ : b = b' ∧ o = o' := by simpa using e
  exact Flow.lt_of_cell hc

set_option maxHeartbeats 8000000 in
theorem WordBack_walk (p : Option Addr) (c : Nat) (ns : List Nat) (q : Option Addr) (d : Nat) (ws : List UInt8) (w : World) (hn : UL w p ns) (_ : ns.length ≤ c) (hnm : ns.length ≤ maxLen) (hns : ∀ n ∈ ns, n < 18446744073709551616) (hw : BL w q ws) (_ : ws.length ≤ d) (hwm : ws.length ≤ maxLen) :
    Calls Try.prog 5 #[.slice p ns.length c, .slice q ws.length d] w fun e w' => e = .returned (.bool true) ∧ Below w.heap.size w w' := by
  have cA := fun w => Lib.hid (awake_any w)
  have cP := fun A c l wd v w h hl hw hv => Lib.hid (Put_width A c l wd v w h hl hw hv)
  obtain ⟨L, hL⟩ : ∃ L, L = items ns ws := ⟨_, rfl⟩
  obtain ⟨N, hN⟩ : ∃ N, N = ns.length := ⟨_, rfl⟩
  obtain ⟨M, hM⟩ : ∃ M, M = ws.length := ⟨_, rfl⟩
  obtain ⟨K, hK⟩ : ∃ K, K = L.length := ⟨_, rfl⟩
  have hlen : K = min 100 (min M N) := by rw [hK, hL, items_length, ← hN, ← hM]
  have hK3 : (K ≤ N ∧ N ≤ K ∧ K ≤ M ∧ K ≤ 100) ∨ (K < N ∧ K ≤ M ∧ M ≤ K ∧ K ≤ 100) ∨ (K < N ∧ K < M ∧ K ≤ 100 ∧ 100 ≤ K) := by omega
  rw [← hN] at hnm
  rw [← hM] at hwm
  unfold maxLen at hnm hwm
  rw [← hN, ← hM]
  have HL := Lib.hid hL
  have HN := Lib.hid hN
  have HM := Lib.hid hM
  have HK := Lib.hid hK
  have HNS := Lib.hid hns
  have HUL := Lib.hid hn
  have HBL := Lib.hid hw
  clear hn hw hL hN hM hK hlen hns
  have HEN : ∀ k, Hid ((encl (L.take k)).length ≤ 800) := fun k => by
    have h1 := encl_len (L.take k) (fun x hx => by have := List.mem_of_mem_take hx; rw [HL.out] at this; exact items_le ns ws x this)
    have h2 : (L.take k).length ≤ 100 := by have := HK.out; simp; omega
    unfold Hid; omega
  rcases hK3 with ⟨k1, k2, k3, k4⟩ | ⟨k1, k2, k3, k4⟩ | ⟨k1, k2, k3, k4⟩
  all_goals
    go_enter Try.func5, Try.ntmps5
    go_wp2_with fail
    go_loopw [5, 7] (fun x i wr => ∃ (k m : Nat) (A : Option Addr) (c : Nat), k ≤ K ∧ i = .int .i64 k ∧ x = .slice A m c ∧ Hid (m = (encl (L.take k)).length) ∧ Hid (BL wr A (encl (L.take k))) ∧ Hid (Tab wr w.heap.size) ∧ Hid (Below w.heap.size w wr)) (fun _ i _ => K - (intOf i).toNat)
    case atStart => exact ⟨0, 0, none, 0, Nat.zero_le _, rfl, rfl, rfl, BL.nil _ _, heap_alloc_new w _, (Below.refl _ _).alloc (Nat.le_refl _) _⟩
    case round =>
      obtain ⟨k, m, A, c1, hk, rfl, rfl, HMM, HA, HT, HW⟩ := hrel
      by_cases hlt : k < K
      · have hkN : k < N := by omega
        have hkM : k < M := by omega
        have hk100 : k < 100 := by omega
        obtain ⟨b1, o1, rfl, hc1⟩ := (ul_below HUL.out HW.out).at_ (show k < ns.length by rw [← HN.out]; exact hkN)
        obtain ⟨b2, o2, rfl, hc2⟩ := (HBL.out.below HW.out).at_ (show k < ws.length by rw [← HM.out]; exact hkM)
        obtain ⟨v, hv⟩ : ∃ v, v = ns[k]'(by rw [← HN.out]; exact hkN) := ⟨_, rfl⟩
        obtain ⟨y, hy⟩ : ∃ y, y = (ws[k]'(by rw [← HM.out]; exact hkM)).toNat := ⟨_, rfl⟩
        rw [← hv] at hc1
        rw [← hy] at hc2
        have hy4 : y % 4 < 4 := Nat.mod_lt _ (by decide)
        obtain ⟨r, hr⟩ : ∃ r, r = y % 4 := ⟨_, rfl⟩
        rw [← hr] at hy4
        have hry : (y : Int) % 4 = (r : Int) := by omega
        have htm : (y : Int).tmod 4 = (r : Int) := by rw [Int.tmod_eq_emod_of_nonneg (by omega)]; exact hry
        have hr4 : (r : Int) < 4 := by omega
        have ht := HT.out.cell hy4
        obtain ⟨wd, hwd⟩ : ∃ wd, wd = wdOf r := ⟨_, rfl⟩
        rw [← hwd] at ht
        have HWD := Lib.hid hwd
        have HR := Lib.hid hr
        have HV := Lib.hid hv
        have HY := Lib.hid hy
        clear hv hy hr hwd
        go_wp2_with fail
        refine Flow.wp_region_flow [] [0, 1, 2, 3, 4, 5, 6, 7, 8, 9, 10, 11, 12, 13] [12] (by kernel_rfl) (by kernel_rfl) (by simp) ?_
        simp only [Flow.pick, List.getElem?_cons_zero, List.getElem?_cons_succ, List.cons_append, List.nil_append]
        have d1 := fun q => Flow.cell_but (S := []) hc1 (by simp) q
        have d2 := fun q => Flow.cell_but (S := []) hc2 (by simp) q
        have d3 := fun q => Flow.cell_but (S := []) ht (by simp) q
        clear hc1 hc2 ht
        repeat (refine Flow.walk_step (fun K hK => ?_); go_simp; (refine hK _ ?_; clear hK K))
        have hv64 : v < 18446744073709551616 := by rw [HV.out]; exact HNS.out _ (List.getElem_mem _)
        have HV64 := Lib.hid hv64
        clear hv64
        refine Flow.walk_event rfl (fun u W => ∃ g, u = .slice (some ⟨g, 0, none⟩) (m + wd) (m + wd) ∧ Row 5 W g (encl (L.take (k + 1)))) (fun W hW => ?_) ?_
        · have hL2 : L[k]'(by rw [← HK.out]; exact hlt) = (wd, v) := by
            have h1 := HL.out
            subst h1
            rw [items_at ns ws _ (by rw [← HM.out]; exact hkM) (by rw [← HN.out]; exact hkN), HWD.out, HR.out, HY.out, HV.out]
          have hs := encl_snoc L (show k < L.length by rw [← HK.out]; exact hlt)
          rw [hL2] at hs
          have hE := (HEN k).out
          have hc := (cP A c1 _ wd v W (HA.out.below hW) (by omega) (by rw [HWD.out]; exact wdOf_is hy4) HV64.out).out
          rw [← HMM.out, ← hs] at hc
          have HC := Lib.hid hc
          clear hc hs hL2 hE
          go_simp
          exact HC.out.mono fun e w' ⟨he, h1, h2⟩ => ⟨_, he, ⟨_, rfl, h1⟩, Flow.Into.of_below h2⟩
        rintro u w1 ⟨g, rfl, hrow⟩ hI
        have HROW := Lib.hid hrow
        have HI := Lib.hid hI
        clear hrow hI d1 d2 d3
        repeat (refine Flow.walk_step (fun K hK => ?_); go_simp; (refine hK _ ?_; clear hK K))
        refine Flow.walk_nil ?_
        intro w2 hb2
        have HB2 := Lib.hid hb2
        clear hb2
        simp only [List.length_cons, List.length_nil, List.drop_succ_cons, List.drop_zero, List.drop_nil, Nat.zero_add, Nat.reduceAdd]
        go_wp2_with fail
        have hww : Below wr.heap.size wr w2 := below_trans HI.out.below HB2.out
        have hen : m + wd = (encl (L.take (k + 1))).length := by
          have hL2 : L[k]'(by rw [← HK.out]; exact hlt) = (wd, v) := by
            have h1 := HL.out
            subst h1
            rw [items_at ns ws _ (by rw [← HM.out]; exact hkM) (by rw [← HN.out]; exact hkN), HWD.out, HR.out, HY.out, HV.out]
          rw [encl_snoc L (show k < L.length by rw [← HK.out]; exact hlt), hL2, List.length_append, be_length, HMM.out]
        exact ⟨⟨k + 1, m + wd, _, _, hlt, by go_num, rfl, hen, (HROW.out.kept HB2.out).bl, HT.out.keep (hww.block _ HT.out.lt), below_trans HW.out hww⟩, by simp [intOf]; omega⟩
      · obtain rfl : k = K := by omega
        have hall : L.take k = L := List.take_of_length_le (by rw [← HK.out]; exact Nat.le_refl _)
        rw [hall] at HA HMM
        have cO := Lib.hid (Open_any A c1 (encl L) wr HA.out (by have := (HEN k).out; rw [hall] at this; omega))
        rw [← HMM.out] at cO
        have cE := fun g w h => Lib.hid (End_any g ⟨[], 0⟩ w h)
        clear hall
        go_wp2_with (go_at_call 13; refine cO.out.mono ?_; rintro e w1 ⟨g, rfl, hr, hg, hb⟩; have HRD := Lib.hid hr; have HG := Lib.hid hg; have HB1 := Lib.hid hb; clear hr hg hb)
        obtain ⟨wo, rfl⟩ : ∃ wo : World, wo = wr := ⟨_, rfl⟩
        have hTg : w.heap.size ≠ g := by have := HG.out; have := HT.out.lt; omega
        have HTG := Lib.hid hTg
        clear hTg
        go_loopw [9] (fun i wx => ∃ j : Nat, j ≤ k ∧ i = .int .i64 j ∧ Hid (Rd 61 wx g ⟨encl (L.drop j), 0⟩) ∧ Hid (Tab wx w.heap.size) ∧ Hid (Below w.heap.size w wx)) (fun i _ => k - (intOf i).toNat)
        case atStart => exact ⟨0, Nat.zero_le _, rfl, by rw [List.drop_zero]; exact HRD, HT.out.keep (HB1.out.block _ HT.out.lt), below_trans HW.out HB1.out⟩
        case round =>
          obtain ⟨j, hj, rfl, HRJ, HTJ, HWJ⟩ := hrel
          by_cases hlt : j < k
          · have hkN : j < N := by omega
            have hkM : j < M := by omega
            have hk100 : j < 100 := by omega
            obtain ⟨b1, o1, rfl, hc1⟩ := (ul_below HUL.out HWJ.out).at_ (show j < ns.length by rw [← HN.out]; exact hkN)
            obtain ⟨b2, o2, rfl, hc2⟩ := (HBL.out.below HWJ.out).at_ (show j < ws.length by rw [← HM.out]; exact hkM)
            obtain ⟨v, hv⟩ : ∃ v, v = ns[j]'(by rw [← HN.out]; exact hkN) := ⟨_, rfl⟩
            obtain ⟨y, hy⟩ : ∃ y, y = (ws[j]'(by rw [← HM.out]; exact hkM)).toNat := ⟨_, rfl⟩
            rw [← hv] at hc1
            rw [← hy] at hc2
            have hy4 : y % 4 < 4 := Nat.mod_lt _ (by decide)
            obtain ⟨r, hr⟩ : ∃ r, r = y % 4 := ⟨_, rfl⟩
            rw [← hr] at hy4
            have hry : (y : Int) % 4 = (r : Int) := by omega
            have htm : (y : Int).tmod 4 = (r : Int) := by rw [Int.tmod_eq_emod_of_nonneg (by omega)]; exact hry
            have hr4 : (r : Int) < 4 := by omega
            have ht := HTJ.out.cell hy4
            obtain ⟨wd, hwd⟩ : ∃ wd, wd = wdOf r := ⟨_, rfl⟩
            rw [← hwd] at ht
            have hL2 : L[j]'(by rw [← HK.out]; exact hlt) = (wd, v) := by
              have h1 := HL.out
              subst h1
              rw [items_at ns ws _ (by rw [← HM.out]; exact hkM) (by rw [← HN.out]; exact hkN), hwd, hr, hy, hv]
            have hww : isW (wd : Int) = true := by rw [hwd]; exact wdOf_is hy4
            have hv64 : v < 18446744073709551616 := by rw [hv]; exact HNS.out _ (List.getElem_mem _)
            have cN := Lib.hid (Num_any g _ (wd : Int) wr HRJ.out)
            rw [encl_cons L (show j < L.length by rw [← HK.out]; exact hlt), hL2] at cN
            simp only [num_front wd v _ hww] at cN
            have cF := fun w => Lib.hid (Fits_any wd v w hv64)
            have HL1 := Lib.hid (Flow.lt_of_cell hc1)
            have HL2 := Lib.hid (Flow.lt_of_cell hc2)
            have HGB : Hid (w.heap.size ≤ g) := by have := HG.out; have := HW.out.size; unfold Hid; omega
            have HN1 : Hid (b1 ≠ g) := by
              have h1 := ul_lt HUL.out (by rw [← HN.out]; omega)
              have h2 := HGB.out
              unfold Hid; omega
            have HN2 : Hid (b2 ≠ g) := by
              have h1 : b2 < w.heap.size := HBL.out.lt (by rw [← HM.out]; omega) ⟨b2, o2, none⟩ rfl
              have h2 := HGB.out
              unfold Hid; omega
            have HC1 := Lib.hid hc1
            have HC3 := Lib.hid ht
            clear hv hy hr hwd hL2 hww hv64 hc1
            cases hf : fitB wd v with
            | true =>
              rw [hf] at cF
              have hmod : v % 256 ^ wd = v := Nat.mod_eq_of_lt (fit_lt hf)
              rw [hmod] at cN
              clear hmod
              clear hf
              go_wp2_with (go_at_call 15; refine cN.out.mono ?_; rintro e w2 ⟨rfl, hr, ho⟩; have d1 := ho.cell HC1.out (by simpa using HN1.out); have d2 := ho.cell hc2 (by simpa using HN2.out); have d3 := ho.cell HC3.out (by simpa using HTG.out); have HR2 := Lib.hid hr; have HO2 := Lib.hid ho; clear hr ho)
              refine Flow.wp_region_flow [] [0, 1, 2, 3, 4, 5, 6, 7, 8, 9, 10, 11, 12, 13, 14, 15, 16, 17, 18, 19] [] (by kernel_rfl) (by kernel_rfl) (by simp) ?_
              simp only [Flow.pick, List.getElem?_cons_zero, List.getElem?_cons_succ, List.cons_append, List.nil_append]
              have e1 := fun q => Flow.cell_but (S := []) d1 (by simp) q
              have e2 := fun q => Flow.cell_but (S := []) d2 (by simp) q
              have e3 := fun q => Flow.cell_but (S := []) d3 (by simp) q
              clear hc2 ht d1 d2 d3
              repeat (refine Flow.walk_step (fun K hK => ?_); go_simp; first | (refine hK _ ?_; clear hK K) | (apply Exists.intro; refine ⟨fun _ => ?_, hK _ ?_⟩; (go_at_call 12; exact (cF _).out.mono fun e w' ⟨he, hw⟩ => ⟨he, by subst hw; exact Below.refl _ _⟩); clear hK K))
              clear e1 e2 e3
              refine Flow.walk_nil ?_
              intro w3 hb3
              have HB3 := Lib.hid hb3
              clear hb3
              simp only [List.length_cons, List.length_nil, List.drop_succ_cons, List.drop_zero, List.drop_nil, Nat.zero_add, Nat.reduceAdd]
              go_wp2_with fail
              have hwj : Below w.heap.size w w3 := below_trans (below_only HWJ.out HO2.out HGB.out) HB3.out
              refine ⟨⟨j + 1, hlt, by go_num, HR2.out.keep HB3.out, ?_, hwj⟩, by simp [intOf]; omega⟩
              refine HTJ.out.keep ((HB3.out.block _ ?_).trans (HO2.out.block _ HTJ.out.lt (by simpa using HTG.out)))
              have := HTJ.out.lt
              have := HO2.out.size
              omega
            | false =>
              rw [hf] at cF
              generalize v % 256 ^ wd = u at cN
              clear hf
              go_wp2_with (go_at_call 15; refine cN.out.mono ?_; rintro e w2 ⟨rfl, hr, ho⟩; have d1 := ho.cell HC1.out (by simpa using HN1.out); have d2 := ho.cell hc2 (by simpa using HN2.out); have d3 := ho.cell HC3.out (by simpa using HTG.out); have HR2 := Lib.hid hr; have HO2 := Lib.hid ho; clear hr ho)
              refine Flow.wp_region_flow [] [0, 1, 2, 3, 4, 5, 6, 7, 8, 9, 10, 11, 12, 13, 14, 15, 16, 17, 18, 19] [] (by kernel_rfl) (by kernel_rfl) (by simp) ?_
              simp only [Flow.pick, List.getElem?_cons_zero, List.getElem?_cons_succ, List.cons_append, List.nil_append]
              have e1 := fun q => Flow.cell_but (S := []) d1 (by simp) q
              have e2 := fun q => Flow.cell_but (S := []) d2 (by simp) q
              have e3 := fun q => Flow.cell_but (S := []) d3 (by simp) q
              clear hc2 ht d1 d2 d3
              repeat (refine Flow.walk_step (fun K hK => ?_); go_simp; first | (refine hK _ ?_; clear hK K) | (apply Exists.intro; refine ⟨fun _ => ?_, hK _ ?_⟩; (go_at_call 12; exact (cF _).out.mono fun e w' ⟨he, hw⟩ => ⟨he, by subst hw; exact Below.refl _ _⟩); clear hK K))
              clear e1 e2 e3
              refine Flow.walk_nil ?_
              intro w3 hb3
              have HB3 := Lib.hid hb3
              clear hb3
              simp only [List.length_cons, List.length_nil, List.drop_succ_cons, List.drop_zero, List.drop_nil, Nat.zero_add, Nat.reduceAdd]
              go_wp2_with fail
              have hwj : Below w.heap.size w w3 := below_trans (below_only HWJ.out HO2.out HGB.out) HB3.out
              refine ⟨⟨j + 1, hlt, by go_num, HR2.out.keep HB3.out, ?_, hwj⟩, by simp [intOf]; omega⟩
              refine HTJ.out.keep ((HB3.out.block _ ?_).trans (HO2.out.block _ HTJ.out.lt (by simpa using HTG.out)))
              have := HTJ.out.lt
              have := HO2.out.size
              omega
          · obtain rfl : j = k := by omega
            have hdn : L.drop j = [] := List.drop_eq_nil_of_le (by rw [← HK.out]; exact Nat.le_refl _)
            rw [hdn] at HRJ
            have cEn := Lib.hid (cE g wr HRJ.out).out
            clear hdn cE
            go_wp2_with (first
              | (go_at_call 24; refine cEn.out.mono ?_; rintro e w2 ⟨rfl, rfl⟩)
              | (go_at_call 8; refine (cA _).out.mono ?_; rintro e w8 ⟨rfl, hb⟩; have HB8 := Lib.hid hb; clear hb))
            go_ret
            exact ⟨rfl, below_trans HWJ.out HB8.out⟩
end Wd
end Go.Proofs.Ytkambkdpppgjpaa
