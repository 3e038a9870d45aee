/-
  The document's buf: Merge, Take, Part.
-/
import Derived.Test.YtmgmkfophdjidaaMsgP
namespace Go.Proofs.Ytmgmkfophdjidaa
open Go.RowKit
namespace Bu
open Mem Lx
/-- in a block made since W, or in A's -/
def From (W : World) (A A' : Option Addr) : Prop := ∀ x, A' = some x → W.heap.size ≤ x.block ∨ ∃ y, A = some y ∧ y.block = x.block
/-- L's in no block of the other's -/
def Off (A A' : Option Addr) (L : List Mg) : Prop := 0 < L.length → ∀ x y, A = some x → A' = some y → x.block ≠ y.block
set_option maxRecDepth 100000 in
set_option maxHeartbeats 4000000 in
theorem RMerge_any {W : World} {A B : Option Addr} {c c' : Nat} {L M : List Mg} (h : ML W A L) (h' : ML W B M) (hk : ∀ m, m ∈ L → m.1.size ≤ maxLen) (hr : Ri M) (hl : L.length + M.length ≤ 400000) : Calls Try.prog 18 #[.slice A L.length c, .slice B M.length c'] W fun e w' => (∃ A' c', e = .returned (.slice A' (mergeD L M).length c') ∧ ML w' A' (mergeD L M) ∧ From W B A') ∧ Below W.heap.size W w' := by
  obtain ⟨n, hn⟩ : ∃ n, n = L.length := ⟨_, rfl⟩
  obtain ⟨r, hr0⟩ : ∃ r, r = M.length := ⟨_, rfl⟩
  have HN := Lib.hid hn
  have HR := Lib.hid hr0
  have HH := Lib.hid h
  have HH' := Lib.hid h'
  have HK := Lib.hid hk
  have HI := Lib.hid hr
  rw [← hn, ← hr0] at hl ⊢
  clear h h' hk hr hn hr0
  go_enter Try.func18, Try.ntmps18
  go_wp2_with fail
  go_loopg [5, 6] n (fun gk bv iv wr => ∃ (k j c' : Nat) (A' : Option Addr), k ≤ n ∧ gk = n - k ∧ iv = .int .i64 (k : Int) ∧ bv = .slice A' j c' ∧ Hid ((mergeD (L.take k) M).length = j) ∧ Hid (ML wr A' (mergeD (L.take k) M)) ∧ Hid (From W B A') ∧ Hid (Below W.heap.size W wr))
  case atStart => exact ⟨0, r, c', B, Nat.zero_le _, rfl, rfl, rfl, HR.out.symm, HH'.out, fun x hx => .inr ⟨x, hx, rfl⟩, Below.refl _ _⟩
  case round =>
    obtain ⟨k, j, c1, A1, hk, rfl, rfl, rfl, HJ, HM, HF, HB⟩ := hrel
    clear HH'
    by_cases hlt : k < n
    · have hkL : k < L.length := by rw [← HN.out]; exact hlt
      obtain ⟨x, hxx⟩ : ∃ x, x = L[k] := ⟨_, rfl⟩
      have hx' := nat_len hkL
      rw [← hxx] at hx'
      obtain ⟨b, o, e, -, c0, c1', c2⟩ := RdK.msg (HH.out.kept HB.out) hx'
      subst e
      have HS := Lib.hid (mergeD_next (b := M) hx')
      have hj4 : (mergeD (L.take k) M).length ≤ 400000 := by
        have := (Ri.merge (a := L.take k) HI.out).2
        rw [← HR.out, List.length_take] at this
        omega
      have cP := Lib.hid (RPut_any (c := c1) HM.out x (HK.out x (List.mem_of_getElem? hx')) hj4)
      rw [HJ.out, ← HS.out] at cP
      clear hxx hx' hkL hj4
      unfold mgV at cP
      go_wp2_with (go_at_call 17; refine cP.out.mono ?_; rintro e w2 ⟨⟨A2, c2', rfl, hM⟩, hb⟩)
      go_roundg (n - (k + 1))
      case measure => omega
      case rel => exact ⟨k + 1, _, c2', A2, hlt, rfl, by go_num, rfl, rfl, hM.rd, fun x hx => .inl (Nat.le_trans HB.out.size (hM.at_ x hx).1), HB.out.trans (hb.mono HB.out.size)⟩
    · obtain rfl : k = n := by omega
      rw [List.take_of_length_le (by rw [← HN.out]; exact Nat.le_refl _)] at HM HJ
      clear hlt
      go_wp2_with fail
      go_ret
      exact ⟨⟨A1, c1, by rw [HJ.out]; rfl, HM.out, HF.out⟩, HB.out⟩
/-- two slices of one's own in unlike blocks, one of which grows -/
theorem apart_next {w w' : World} {B B' c2 c' : Nat} {A A' A2 : Option Addr} {L R : List Mg} (hd : AppdK MgK B w w' A A' c' L) (hR : M3 w B' A2 c2 R) (ha : ∀ x y, A = some x → A2 = some y → x.block ≠ y.block) :
    M3 w' B' A2 c2 R ∧ ∀ x y, A' = some x → A2 = some y → x.block ≠ y.block := by
  refine ⟨hR.keep fun a h2 => hd.block _ (hR.at_ a h2).2 fun x hx => ha x a hx h2, fun x y hx hy => ?_⟩
  have hy2 := (hR.at_ y hy).2
  rcases hd.row x hx with ⟨a, e, hb⟩ | hb
  · rw [hb]
    exact ha a y e hy
  · omega
set_option maxRecDepth 100000 in
set_option maxHeartbeats 4000000 in
theorem RTake_any {W : World} {A : Option Addr} {c : Nat} {L : List Mg} (h : ML W A L) (lo hi : ByteArray) (top : Bool) (most : Int) (hlo : lo.size ≤ maxLen) (hk : ∀ m, m ∈ L → m.1.size ≤ maxLen) (hl : L.length ≤ 400000) : Calls Try.prog 20 #[.slice A L.length c, spanV lo hi top, .int .i64 most] W fun e w' => (∃ A1 c1 A2 c2, e = .returned (.tuple #[.slice A1 (takeD (fun m => inB lo hi top m.1) most L).1.length c1, .slice A2 (takeD (fun m => inB lo hi top m.1) most L).2.length c2]) ∧ M3 w' W.heap.size A1 c1 (takeD (fun m => inB lo hi top m.1) most L).1 ∧ M3 w' W.heap.size A2 c2 (takeD (fun m => inB lo hi top m.1) most L).2 ∧ ∀ x y, A1 = some x → A2 = some y → x.block ≠ y.block) ∧ Below W.heap.size W w' := by
  obtain ⟨n, hn⟩ : ∃ n, n = L.length := ⟨_, rfl⟩
  obtain ⟨p, hp⟩ : ∃ p : Mg → Bool, p = fun m => inB lo hi top m.1 := ⟨_, rfl⟩
  have HN := Lib.hid hn
  have HH := Lib.hid h
  have HK := Lib.hid hk
  have cI := fun (x : Mg) (hx : x ∈ L) w => Lib.hid (RIn_any lo hi top x.1 w hlo (hk x hx))
  have hp2 : ∀ x : Mg, inB lo hi top x.1 = p x := fun x => by rw [hp]
  simp only [hp2] at cI
  rw [← hn] at hl ⊢
  rw [← hp]
  clear h hn hk hp2 hp hlo
  go_enter Try.func20, Try.ntmps20
  go_upto_region 1 with fail
  have hx := heap_alloc_new W (.cells #[.string lo, .string hi, .bool top] 35)
  have hb0 : Below W.heap.size W (W.alloc (.cells #[.string lo, .string hi, .bool top] 35)) := (Below.refl _ _).alloc (Nat.le_refl _) _
  generalize W.alloc (.cells #[.string lo, .string hi, .bool top] 35) = w1 at *
  obtain ⟨g, hg⟩ : ∃ g, g = W.heap.size := ⟨_, rfl⟩
  rw [← hg] at hx ⊢
  have HB1 := Lib.hid hb0
  have HX := Lib.hid hx
  have HH1 := Lib.hid (HH.out.kept hb0)
  clear hx hb0 hg HH
  go_upto_region 2 with fail
  have HV0 : Hid (M3 (w1.alloc (.cells #[] 28)) w1.heap.size (some ⟨w1.heap.size, 0, none⟩) 0 []) := VK.lit (K := MgK) w1 w1.heap.size (Nat.le_refl _)
  have HB0 : Hid (Below w1.heap.size w1 (w1.alloc (.cells #[] 28))) := (Below.refl _ _).alloc (Nat.le_refl _) _
  have hs2 : (w1.alloc (.cells #[] 28)).heap.size = w1.heap.size + 1 := by simp
  generalize w1.alloc (.cells #[] 28) = w2 at *
  have HU0 : Hid (M3 (w2.alloc (.cells #[] 28)) w1.heap.size (some ⟨w1.heap.size + 1, 0, none⟩) 0 []) := by rw [← hs2]; exact VK.lit (K := MgK) w2 w1.heap.size (by omega)
  have hb2 : Below w2.heap.size w2 (w2.alloc (.cells #[] 28)) := (Below.refl _ _).alloc (Nat.le_refl _) _
  have HV1 := Lib.hid (HV0.out.kept hb2)
  have HB2 := Lib.hid (HB0.out.trans (hb2.mono (by omega)))
  generalize w2.alloc (.cells #[] 28) = w3 at *
  have HA0 : Hid (∀ x y : Addr, some (⟨w1.heap.size, 0, none⟩ : Addr) = some x → some (⟨w1.heap.size + 1, 0, none⟩ : Addr) = some y → x.block ≠ y.block) := fun x y hx hy => by
    cases hx
    cases hy
    exact Nat.ne_of_lt (Nat.lt_succ_self _)
  clear HV0 HB0 hb2 hs2
  go_wp2_with fail
  go_loopg [8, 9, 10] n (fun gk tv rv iv wr => ∃ (k a b c1 c2 : Nat) (A1 A2 : Option Addr) (T R : List Mg), k ≤ n ∧ gk = n - k ∧ iv = .int .i64 (k : Int) ∧ tv = .slice A1 a c1 ∧ rv = .slice A2 b c2 ∧ a ≤ k ∧ b ≤ k ∧ Hid (takeD p most (L.take k) = (T, R)) ∧ Hid (T.length = a) ∧ Hid (R.length = b) ∧ Hid (M3 wr w1.heap.size A1 c1 T) ∧ Hid (M3 wr w1.heap.size A2 c2 R) ∧ Hid (∀ x y, A1 = some x → A2 = some y → x.block ≠ y.block) ∧ Hid (Below w1.heap.size w1 wr))
  case atStart => exact ⟨0, 0, 0, 0, 0, _, _, [], [], Nat.zero_le _, rfl, rfl, rfl, rfl, Nat.le_refl _, Nat.le_refl _, rfl, rfl, rfl, HV1, HU0, HA0, HB2⟩
  case round =>
    obtain ⟨k, a, b, c1, c2, A1, A2, T, R, hk, rfl, rfl, rfl, rfl, ha, hb, HR, HT, HU, HVT, HVR, HA, HB⟩ := hrel
    clear HV1 HU0 HA0 HB2
    by_cases hlt : k < n
    · have hkL : k < L.length := by rw [← HN.out]; exact hlt
      obtain ⟨x, hxx⟩ : ∃ x, x = L[k] := ⟨_, rfl⟩
      have hx' := nat_len hkL
      rw [← hxx] at hx'
      have HS := Lib.hid (takeD_next (p := p) (most := most) hx')
      obtain ⟨bb, o, e, -, c0, -, -⟩ := RdK.msg (HH1.out.kept HB.out) hx'
      subst e
      obtain ⟨d0, d1, d2⟩ := box3 (kept3 HX.out HB.out)
      have HXX := Lib.hid hx'
      have cX := cI x (List.mem_of_getElem? hx')
      have hw2 : IntKind.i64.wrap ((k : Int) + 1) = ((k + 1 : Nat) : Int) := by rw [IntKind.wrap_i64]; omega
      clear hxx hx' hkL
      obtain ⟨pv, hpv⟩ : ∃ pv, pv = p x := ⟨_, rfl⟩
      obtain ⟨tb, htb⟩ : ∃ tb, tb = (pv && decide ((a : Int) < most)) := ⟨_, rfl⟩
      have HTB := Lib.hid htb
      have HPV := Lib.hid hpv
      rw [← hpv] at cX
      clear htb hpv cI
      go_upto_region 5 with fail
      go_cut [31] (fun tv wx => tv = .bool tb ∧ Hid (Below w1.heap.size w1 wx) ∧ Hid (M3 wx w1.heap.size A1 c1 T) ∧ Hid (M3 wx w1.heap.size A2 c2 R))
      case first =>
        have ht := HTB.out
        clear HTB HPV
        cases pv with
        | false =>
          obtain rfl : tb = false := by rw [ht]; rfl
          clear ht
          have z0 := fun q : Drift.Tide [] wr [] => Drift.Tide.cell c0 (by simp) q
          have y0 := fun q : Drift.Tide [] wr [] => Drift.Tide.cell d0 (by simp) q
          have y1 := fun q : Drift.Tide [] wr [] => Drift.Tide.cell d1 (by simp) q
          have y2 := fun q : Drift.Tide [] wr [] => Drift.Tide.cell d2 (by simp) q
          refine Drift.wp_region_drift [] [(0,[]),(1,[]),(2,[]),(3,[]),(4,[]),(5,[]),(6,[]),(7,[]),(8,[]),(9,[]),(10,[]),(11,[]),(12,[])] [] [] (by kernel_rfl) (by kernel_rfl) (by simp) ?_
          simp only [Drift.pick, Drift.opsAt, List.getElem?_toArray, List.getElem?_cons_zero, List.getElem?_cons_succ, List.cons_append, List.nil_append, List.filterMap_nil]
          repeat (refine Drift.walk_step (fun K hK => ?_); go_simp; first | (refine hK _ ?_; clear hK K) | (apply Exists.intro; refine ⟨fun q => ?_, hK _ ?_⟩; (go_at_call 31; exact (cX _).out); clear hK K))
          refine Drift.walk_nil ?_
          intro w9 hb9 _
          have HB3 := Lib.hid (HB.out.trans (hb9.mono HB.out.size))
          have HV3 := Lib.hid (HVT.out.kept hb9)
          have HU3 := Lib.hid (HVR.out.kept hb9)
          clear z0 y0 y1 y2 hb9
          simp only [List.length_cons, List.length_nil, List.drop_succ_cons, List.drop_nil, Nat.zero_add, Nat.reduceAdd]
          go_wp2_with fail
          go_meet
          exact ⟨rfl, HB3, HV3, HU3⟩
        | true =>
          rw [Bool.true_and] at ht
          have hz : (a : Int) < most ∨ most ≤ (a : Int) := by omega
          rcases hz with hz | hz
          · obtain rfl : tb = true := by rw [ht]; simpa using hz
            clear ht
            have z0 := fun q : Drift.Tide [] wr [] => Drift.Tide.cell c0 (by simp) q
            have y0 := fun q : Drift.Tide [] wr [] => Drift.Tide.cell d0 (by simp) q
            have y1 := fun q : Drift.Tide [] wr [] => Drift.Tide.cell d1 (by simp) q
            have y2 := fun q : Drift.Tide [] wr [] => Drift.Tide.cell d2 (by simp) q
            refine Drift.wp_region_drift [] [(0,[]),(1,[]),(2,[]),(3,[]),(4,[]),(5,[]),(6,[]),(7,[]),(8,[]),(9,[]),(10,[]),(11,[]),(12,[])] [] [] (by kernel_rfl) (by kernel_rfl) (by simp) ?_
            simp only [Drift.pick, Drift.opsAt, List.getElem?_toArray, List.getElem?_cons_zero, List.getElem?_cons_succ, List.cons_append, List.nil_append, List.filterMap_nil]
            repeat (refine Drift.walk_step (fun K hK => ?_); go_simp; first | (refine hK _ ?_; clear hK K) | (apply Exists.intro; refine ⟨fun q => ?_, hK _ ?_⟩; (go_at_call 31; exact (cX _).out); clear hK K))
            refine Drift.walk_nil ?_
            intro w9 hb9 _
            have HB3 := Lib.hid (HB.out.trans (hb9.mono HB.out.size))
            have HV3 := Lib.hid (HVT.out.kept hb9)
            have HU3 := Lib.hid (HVR.out.kept hb9)
            clear z0 y0 y1 y2 hb9
            simp only [List.length_cons, List.length_nil, List.drop_succ_cons, List.drop_nil, Nat.zero_add, Nat.reduceAdd]
            go_wp2_with fail
            go_meet
            exact ⟨rfl, HB3, HV3, HU3⟩
          · obtain rfl : tb = false := by rw [ht]; simpa using hz
            have hd : decide ((a : Int) < most) = false := by simpa using hz
            clear ht hz
            have z0 := fun q : Drift.Tide [] wr [] => Drift.Tide.cell c0 (by simp) q
            have y0 := fun q : Drift.Tide [] wr [] => Drift.Tide.cell d0 (by simp) q
            have y1 := fun q : Drift.Tide [] wr [] => Drift.Tide.cell d1 (by simp) q
            have y2 := fun q : Drift.Tide [] wr [] => Drift.Tide.cell d2 (by simp) q
            refine Drift.wp_region_drift [] [(0,[]),(1,[]),(2,[]),(3,[]),(4,[]),(5,[]),(6,[]),(7,[]),(8,[]),(9,[]),(10,[]),(11,[]),(12,[])] [] [] (by kernel_rfl) (by kernel_rfl) (by simp) ?_
            simp only [Drift.pick, Drift.opsAt, List.getElem?_toArray, List.getElem?_cons_zero, List.getElem?_cons_succ, List.cons_append, List.nil_append, List.filterMap_nil]
            repeat (refine Drift.walk_step (fun K hK => ?_); go_simp; first | (refine hK _ ?_; clear hK K) | (apply Exists.intro; refine ⟨fun q => ?_, hK _ ?_⟩; (go_at_call 31; exact (cX _).out); clear hK K))
            refine Drift.walk_nil ?_
            intro w9 hb9 _
            have HB3 := Lib.hid (HB.out.trans (hb9.mono HB.out.size))
            have HV3 := Lib.hid (HVT.out.kept hb9)
            have HU3 := Lib.hid (HVR.out.kept hb9)
            clear z0 y0 y1 y2 hb9
            simp only [List.length_cons, List.length_nil, List.drop_succ_cons, List.drop_nil, Nat.zero_add, Nat.reduceAdd]
            go_wp2_with fail
            go_meet
            exact ⟨rfl, HB3, HV3, HU3⟩
      case rest =>
      clear HB HVT HVR c0 d0 d1 d2 cX
      obtain ⟨rfl, HB, HVT, HVR⟩ := hcut
      obtain ⟨A3, hA3⟩ : ∃ A3, A3 = A1 := ⟨_, rfl⟩
      obtain ⟨b', o', e', -, c0, c1', c2'⟩ := RdK.msg (HH1.out.kept HB.out) HXX.out
      obtain ⟨rfl, rfl⟩ : bb = b' ∧ o = o' := by simpa using e'
      clear e' hA3
      have hX : Below wc.heap.size wc (wc.alloc (.cells #[.string x.1, .bool x.2.1, .string x.2.2] 28)) := (Below.refl _ _).alloc (Nat.le_refl _) _
      have hcl : Hid ((wc.alloc (.cells #[.string x.1, .bool x.2.1, .string x.2.2] 28)).heap[wc.heap.size]? = some (.cells (MgK.cs x).toArray MgK.T (0, 0))) := heap_alloc_new wc _
      have HTX : Hid (M3 (wc.alloc (.cells #[.string x.1, .bool x.2.1, .string x.2.2] 28)) w1.heap.size A1 c1 T) := HVT.out.kept hX
      have HRX : Hid (M3 (wc.alloc (.cells #[.string x.1, .bool x.2.1, .string x.2.2] 28)) w1.heap.size A2 c2 R) := HVR.out.kept hX
      have hBx : w1.heap.size ≤ (wc.alloc (.cells #[.string x.1, .bool x.2.1, .string x.2.2] 28)).heap.size := Nat.le_trans HB.out.size hX.size
      have HX2 := Lib.hid (hX.mono HB.out.size)
      clear hX HVT HVR
      cases tb with
      | true =>
        have HR2 : Hid (takeD p most (L.take (k + 1)) = (T ++ [x], R)) := by
          unfold Hid
          rw [HS.out, HR.out]
          unfold stepT
          rw [← HPV.out, HT.out, ← HTB.out, if_pos rfl]
        have hm65 : a + 1 ≤ 1048576 := by omega
        clear HS HR HPV HTB
        go_wp2_with (with_reducible refine wpList_appendK (K := MgK) Try.underlying22 mginfo rfl (by decide) (by decide) rfl (.tmp 32) (.tmp 37) rfl w1.heap.size A1 a c1 T rfl HT.out HTX.out wc.heap.size 1 x rfl hcl.out hm65 hBx ?_; intro A4 c4 w4 hd')
        obtain ⟨h5, h6⟩ := apart_next hd'.out HRX.out HA.out
        go_roundg (n - (k + 1))
        case measure => omega
        case rel => exact ⟨k + 1, a + 1, b, c4, c2, A4, A2, T ++ [x], R, hlt, rfl, by go_num, rfl, rfl, by omega, by omega, HR2, by unfold Hid; rw [List.length_append, HT.out]; rfl, HU, hd'.out.vo, h5, h6, (HB.out.trans HX2.out).trans hd'.out.below⟩
      | false =>
        have HR2 : Hid (takeD p most (L.take (k + 1)) = (T, R ++ [x])) := by
          unfold Hid
          rw [HS.out, HR.out]
          unfold stepT
          rw [← HPV.out, HT.out, ← HTB.out, if_neg (by simp)]
        have hm65 : b + 1 ≤ 1048576 := by omega
        clear HS HR HPV HTB
        go_wp2_with (with_reducible refine wpList_appendK (K := MgK) Try.underlying22 mginfo rfl (by decide) (by decide) rfl (.tmp 39) (.tmp 44) rfl w1.heap.size A2 b c2 R rfl HU.out HRX.out wc.heap.size 1 x rfl hcl.out hm65 hBx ?_; intro A4 c4 w4 hd')
        obtain ⟨h5, h6⟩ := apart_next hd'.out HTX.out fun x y hx hy => (HA.out y x hy hx).symm
        go_roundg (n - (k + 1))
        case measure => omega
        case rel => exact ⟨k + 1, a, b + 1, c1, c4, A1, A4, T, R ++ [x], hlt, rfl, by go_num, rfl, rfl, by omega, by omega, HR2, HT, by unfold Hid; rw [List.length_append, HU.out]; rfl, h5, hd'.out.vo, fun x y hx hy => (h6 y x hy hx).symm, (HB.out.trans HX2.out).trans hd'.out.below⟩
    · obtain rfl : k = n := by omega
      rw [List.take_of_length_le (by rw [← HN.out]; exact Nat.le_refl _)] at HR
      have HBW := Lib.hid (HB1.out.trans (HB.out.mono HB1.out.size))
      clear hlt
      go_wp2_with fail
      exact bodyPost_ret (v := .tuple #[.slice A1 a c1, .slice A2 b c2]) (by simp [results, Try.results20, go_sem]) rfl ⟨⟨A1, c1, A2, c2, by rw [HR.out, HT.out, HU.out], by rw [HR.out]; exact HVT.out.mono HB1.out.size, by rw [HR.out]; exact HVR.out.mono HB1.out.size, HA.out⟩, HBW.out⟩
set_option maxRecDepth 100000 in
set_option maxHeartbeats 2000000 in
theorem RPart_any {W : World} {A : Option Addr} {c : Nat} {L : List Mg} (h : ML W A L) (lo hi : ByteArray) (top : Bool) (hlo : lo.size ≤ maxLen) (hk : ∀ m, m ∈ L → m.1.size ≤ maxLen) (hl : L.length ≤ 400000) : Calls Try.prog 23 #[.slice A L.length c, spanV lo hi top] W fun e w' => (∃ A1 c1, e = .returned (.slice A1 (takeD (fun m => inB lo hi top m.1) (L.length : Int) L).1.length c1) ∧ M3 w' W.heap.size A1 c1 (takeD (fun m => inB lo hi top m.1) (L.length : Int) L).1) ∧ Below W.heap.size W w' := by
  have hb0 : Below W.heap.size W (W.alloc (.cells #[.string lo, .string hi, .bool top] 35)) := (Below.refl _ _).alloc (Nat.le_refl _) _
  have cT := Lib.hid (RTake_any (c := c) (h.kept hb0) lo hi top (L.length : Int) hlo hk hl)
  have hx := heap_alloc_new W (.cells #[.string lo, .string hi, .bool top] 35)
  obtain ⟨g, hg⟩ : ∃ g, g = W.heap.size := ⟨_, rfl⟩
  obtain ⟨n, hn⟩ : ∃ n, n = L.length := ⟨_, rfl⟩
  rw [← hg] at hx
  have HG := Lib.hid hg
  have HX := Lib.hid hx
  have HB := Lib.hid hb0
  rw [← hn] at cT hl ⊢
  generalize takeD (fun m => inB lo hi top m.1) (n : Int) L = T at *
  clear hg hx hb0 h hk hlo hn
  go_enter Try.func23, Try.ntmps23
  go_upto_region 1 with fail
  rw [← HG.out]
  generalize W.alloc (.cells #[.string lo, .string hi, .bool top] 35) = w1 at *
  obtain ⟨d0, d1, d2⟩ := box3 HX.out
  go_wp2_with (go_at_call 20; refine cT.out.mono ?_; rintro e w2 ⟨⟨A1, c1, A2, c2, rfl, h1, h2, h3⟩, hb⟩)
  go_ret
  have h0 := HB.out.size
  rw [HG.out]
  exact ⟨⟨A1, c1, rfl, h1.mono h0⟩, HB.out.trans (hb.mono h0)⟩
end Bu
end Go.Proofs.Ytmgmkfophdjidaa
