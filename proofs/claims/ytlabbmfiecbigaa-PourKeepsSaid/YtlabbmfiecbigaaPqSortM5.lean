/-
  SortM5. Put together by pack.py.
-/
import Derived.Test.YtlabbmfiecbigaaPkAP

namespace Go.Proofs.Ytlabbmfiecbigaa
open Go.RowKit
namespace St
open Mem Lx Bu
set_option maxRecDepth 100000 in
set_option maxHeartbeats 16000000 in
theorem symMain_any {W w : World} {B g c n a m b : Nat} {L P U V S : List Mg} (h : SS W w B g c n L) (hL : L = P ++ (U ++ (V ++ S))) (ha : P.length = a) (hm : a + U.length = m) (hb : m + V.length = b) (hu : 2 ≤ U.length) (hv : 2 ≤ V.length) (hU : Sd mk U) (hV : Sd mk V) (hn : n ≤ 1000)
    (ih : ∀ (w : World) (a' m' b' : Nat) (L P U V S : List Mg), b' - a' < b - a → SS W w B g c n L → L = P ++ (U ++ (V ++ S)) → P.length = a' → a' + U.length = m' → m' + V.length = b' → 1 ≤ U.length → 1 ≤ V.length → Sd mk U → Sd mk V → Calls Try.prog 75 #[.slice (some ⟨g, 0, none⟩) n c, .int .i64 (a' : Int), .int .i64 (m' : Int), .int .i64 (b' : Int), .func (.func 70) #[] #[]] w fun e w' => e = .returned (.tuple #[]) ∧ ∃ X, SS W w' B g c n (P ++ (X ++ S)) ∧ Sd mk X ∧ Stb mk (U ++ V) X) :
    Calls Try.prog 75 #[.slice (some ⟨g, 0, none⟩) n c, .int .i64 (a : Int), .int .i64 (m : Int), .int .i64 (b : Int), .func (.func 70) #[] #[]] w fun e w' => e = .returned (.tuple #[]) ∧ ∃ X, SS W w' B g c n (P ++ (X ++ S)) ∧ Sd mk X ∧ Stb mk (U ++ V) X := by
  have hlen : b + S.length = n := by
    have := h.len
    rw [hL] at this
    simp at this
    omega
  have hbn : b ≤ n := by omega
  have ham : a + 2 ≤ m := by omega
  have hmb : m + 2 ≤ b := by omega
  obtain ⟨mid, hmid⟩ : ∃ mid, mid = (a + b) / 2 := ⟨_, rfl⟩
  obtain ⟨p, hp⟩ : ∃ p, p = mid + m - 1 := ⟨_, rfl⟩
  obtain ⟨lo, hi, hlo⟩ : ∃ lo hi : Nat, (mid < m ∧ lo = mid + m - b ∧ hi = mid) ∨ (m ≤ mid ∧ lo = a ∧ hi = m) := by
    rcases Nat.lt_or_ge mid m with h1 | h1
    · exact ⟨_, _, .inl ⟨h1, rfl, rfl⟩⟩
    · exact ⟨_, _, .inr ⟨h1, rfl, rfl⟩⟩
  have HSP : Hid (∀ s, lo ≤ s → s ≤ hi → (s = lo ∨ ∃ x y, L[s - 1]? = some x ∧ L[p - (s - 1)]? = some y ∧ ¬ cmpB (mk y) (mk x) < 0) → (s = hi ∨ ∃ x y, L[s]? = some x ∧ L[p - s]? = some y ∧ cmpB (mk y) (mk x) < 0) → ∃ U1 U2 V1 V2, U = U1 ++ U2 ∧ V = V1 ++ V2 ∧ a + U1.length = s ∧ m + V1.length = mid + m - s ∧ (∀ v, v ∈ V1 → ∀ u, u ∈ U2 → cmpB (mk v) (mk u) < 0) ∧ (∀ u, u ∈ U1 → ∀ v, v ∈ V2 → cmpB (mk u) (mk v) ≤ 0)) := fun s h1 h2 h3 h4 => by
    rw [hL] at h3 h4
    exact sym_split ha hm hb hmid (by omega) (by omega) hp hlo h1 h2 h3 h4 hU hV
  have HL := Lib.hid hL
  have HA := Lib.hid ha
  have HM := Lib.hid hm
  have HB := Lib.hid hb
  have HS0 := Lib.hid h
  have hma : a + 1 < mid := by omega
  have hmb2 : mid + 1 < b := by omega
  have hlh : lo ≤ hi := by omega
  have hal : a ≤ lo := by omega
  have hhm : hi ≤ m := by omega
  have hhd : hi ≤ mid := by omega
  have hlb : mid + m ≤ lo + b := by omega
  obtain ⟨nn, hnn⟩ : ∃ nn, nn = mid + m := ⟨_, rfl⟩
  have hpn : p + 1 = nn := by omega
  have hnb : nn < b + b := by omega
  have HNB : Hid (mid < m → b ≤ mid + m) := fun _ => by omega
  have hd0 : ((IntKind.i64.wrap ((m : Int) - (a : Int))) == 1) = false := by
    have : IntKind.i64.wrap ((m : Int) - (a : Int)) = (m : Int) - (a : Int) := by rw [IntKind.wrap_i64]; omega
    rw [this]
    simp
    omega
  have hd1 : ((IntKind.i64.wrap ((b : Int) - (m : Int))) == 1) = false := by
    have : IntKind.i64.wrap ((b : Int) - (m : Int)) = (b : Int) - (m : Int) := by rw [IntKind.wrap_i64]; omega
    rw [this]
    simp
    omega
  have hw1 : IntKind.i64.wrap ((a : Int) + (b : Int)) = (a : Int) + (b : Int) := by rw [IntKind.wrap_i64]; omega
  have hq : ((a : Int) + (b : Int)) / 2 = (mid : Int) := by omega
  have hw3 : IntKind.i64.wrap (mid : Int) = (mid : Int) := by rw [IntKind.wrap_i64]; omega
  have hw4 : IntKind.i64.wrap ((mid : Int) + (m : Int)) = (nn : Int) := by rw [IntKind.wrap_i64]; omega
  have hw5 : IntKind.i64.wrap ((nn : Int) - 1) = (p : Int) := by rw [IntKind.wrap_i64]; omega
  have HQ := Lib.hid hq
  have HLO := Lib.hid hlo
  have HNN := Lib.hid hnn
  have HPN := Lib.hid hpn
  have HU := Lib.hid hU
  have HV := Lib.hid hV
  have cI := fun (w : World) (a' m' b' : Nat) (L P U V S : List Mg) (h0 : b' - a' < b - a) (h1 : SS W w B g c n L) (h2 : L = P ++ (U ++ (V ++ S))) (h3 : P.length = a') (h4 : a' + U.length = m') (h5 : m' + V.length = b') (h6 : 1 ≤ U.length) (h7 : 1 ≤ V.length) (h8 : Sd mk U) (h9 : Sd mk V) => Lib.hid (ih w a' m' b' L P U V S h0 h1 h2 h3 h4 h5 h6 h7 h8 h9)
  clear h hL ha hm hb hlen hmid hp hlo hq hU hV ih hnn hpn hu hv
  go_enter Try.func75, Try.ntmps75
  go_upto_region 25 with fail
  rw [HQ.out]
  go_upto_if 140 with fail
  clear hd0 hd1 hw1 hw3 hw4
  go_cut [20, 21] (fun sv rv wx => sv = .int .i64 (lo : Int) ∧ rv = .int .i64 (hi : Int) ∧ wx = w)
  case first =>
    as_aux_lemma =>
      have hlo := HLO.out
      have hnn := HNN.out
      rcases hlo with ⟨h1, e1, e2⟩ | ⟨h1, e1, e2⟩
      · have hd : decide ((m : Int) > (mid : Int)) = true := by simp; omega
        have hw6 : IntKind.i64.wrap ((nn : Int) - (b : Int)) = (lo : Int) := by
          have := HNB.out h1
          rw [IntKind.wrap_i64]
          omega
        have E2 := Lib.hid e2
        clear hnn e1 e2
        go_wp2_with fail
        go_meet
        exact ⟨rfl, by rw [E2.out], rfl⟩
      · have hd : decide ((m : Int) > (mid : Int)) = false := by simp; omega
        have E1 := Lib.hid e1
        have E2 := Lib.hid e2
        clear hnn e1 e2
        go_wp2_with fail
        go_meet
        exact ⟨by rw [E1.out], by rw [E2.out], rfl⟩
  case rest =>
  obtain ⟨rfl, rfl, rfl⟩ := hcut
  go_upto_block 8 with fail
  clear hw5
  go_cut [20] (fun sv wx => ∃ s : Nat, sv = .int .i64 (s : Int) ∧ lo ≤ s ∧ s ≤ hi ∧ Hid (s = lo ∨ ∃ x y, L[s - 1]? = some x ∧ L[p - (s - 1)]? = some y ∧ ¬ cmpB (mk y) (mk x) < 0) ∧ Hid (s = hi ∨ ∃ x y, L[s]? = some x ∧ L[p - s]? = some y ∧ cmpB (mk y) (mk x) < 0) ∧ Hid (SS W wx B g c n L))
  case first =>
    as_aux_lemma =>
      clear HSP cI
      go_wp2_with fail
      go_loopg [20, 21] (hi - lo) (fun gk iv jv wr => ∃ i j : Nat, lo ≤ i ∧ i ≤ j ∧ j ≤ hi ∧ gk = j - i ∧ iv = .int .i64 (i : Int) ∧ jv = .int .i64 (j : Int) ∧ Hid (i = lo ∨ ∃ x y, L[i - 1]? = some x ∧ L[p - (i - 1)]? = some y ∧ ¬ cmpB (mk y) (mk x) < 0) ∧ Hid (j = hi ∨ ∃ x y, L[j]? = some x ∧ L[p - j]? = some y ∧ cmpB (mk y) (mk x) < 0) ∧ Hid (SS W wr B g c n L))
      case atStart => exact ⟨lo, hi, Nat.le_refl _, hlh, Nat.le_refl _, rfl, rfl, rfl, .inl rfl, .inl rfl, HS0⟩
      case round =>
        obtain ⟨i, j, h1, h2, h3, rfl, rfl, rfl, HI, HJ, HS⟩ := hrel
        clear HS0
        by_cases hij : i < j
        · obtain ⟨k, hk⟩ : ∃ k, k = (i + j) / 2 := ⟨_, rfl⟩
          have hk1 : i ≤ k := by omega
          have hk2 : k < j := by omega
          have hkn : k < n := by omega
          have hw1 : IntKind.i64.wrap ((i : Int) + (j : Int)) = (i : Int) + (j : Int) := by rw [IntKind.wrap_i64]; omega
          have hw2 : IntKind.i64.wrap ((k : Int) + 1) = ((k + 1 : Nat) : Int) := by rw [IntKind.wrap_i64]; omega
          have hq : ((i : Int) + (j : Int)) / 2 = (k : Int) := by omega
          have hw3 : IntKind.i64.wrap (k : Int) = (k : Int) := by rw [IntKind.wrap_i64]; omega
          have HQ := Lib.hid hq
          have HK := Lib.hid hk
          clear hk hq
          obtain ⟨q, hq⟩ : ∃ q, q = p - k := ⟨_, rfl⟩
          have hpn := HPN.out
          have hnn := HNN.out
          have hkp : k ≤ p := by omega
          have hqn : q < n := by omega
          have hw4 : IntKind.i64.wrap ((p : Int) - (k : Int)) = (q : Int) := by rw [IntKind.wrap_i64]; omega
          have hkL : k < L.length := by rw [HS.out.len]; exact hkn
          have hqL : q < L.length := by rw [HS.out.len]; exact hqn
          obtain ⟨x, hx⟩ : ∃ x, x = L[k] := ⟨_, rfl⟩
          obtain ⟨y, hy⟩ : ∃ y, y = L[q] := ⟨_, rfl⟩
          have hx' := nat_len hkL
          have hy' := nat_len hqL
          rw [← hx] at hx'
          rw [← hy] at hy'
          obtain ⟨c0, c1, c2⟩ := HS.out.cell hx'
          obtain ⟨d0, d1, d2⟩ := HS.out.cell hy'
          have HX := Lib.hid hx'
          have HY : Hid (L[p - k]? = some y) := by
            unfold Hid
            rw [← hq]
            exact hy'
          have cC := fun w => Lib.hid (cmpMsg_any y x w)
          clear hx hx' hkL hy hy' hqL hq hpn hnn
          go_upto_region 35 with fail
          rw [HQ.out]
          have x0 := fun t : Drift.Tide [] wr [] => Drift.Tide.cell c0 (by simp) t
          have x1 := fun t : Drift.Tide [] wr [] => Drift.Tide.cell c1 (by simp) t
          have x2 := fun t : Drift.Tide [] wr [] => Drift.Tide.cell c2 (by simp) t
          have y0 := fun t : Drift.Tide [] wr [] => Drift.Tide.cell d0 (by simp) t
          have y1 := fun t : Drift.Tide [] wr [] => Drift.Tide.cell d1 (by simp) t
          have y2 := fun t : Drift.Tide [] wr [] => Drift.Tide.cell d2 (by simp) t
          clear c0 c1 c2 d0 d1 d2
          refine Drift.wp_region_drift [] [(0,[]),(1,[]),(2,[]),(3,[]),(4,[]),(5,[]),(6,[]),(7,[]),(8,[]),(9,[]),(10,[]),(11,[]),(12,[]),(13,[])] [] [] (by kernel_rfl) (by kernel_rfl) (by simp) ?_
          simp only [Drift.pick, Drift.opsAt, List.getElem?_toArray, List.getElem?_cons_zero, List.getElem?_cons_succ, List.cons_append, List.nil_append, List.filterMap_nil]
          repeat (refine Drift.walk_step (fun K hK => ?_); go_simp; first | (refine hK _ ?_; clear hK K) | (apply Exists.intro; refine ⟨fun q => ?_, hK _ ?_⟩; (go_at_call 70; exact (cC _).out); clear hK K))
          refine Drift.walk_nil ?_
          intro w2 hb _
          have HS2 := Lib.hid (HS.out.kept hb)
          clear x0 x1 x2 y0 y1 y2 hb HS cC
          simp only [List.length_cons, List.length_nil, List.drop_succ_cons, List.drop_nil, Nat.zero_add, Nat.reduceAdd]
          obtain ⟨t, ht⟩ : ∃ t : Bool, t = !decide (cmpB y.1 x.1 < 0) := ⟨_, rfl⟩
          rw [← ht]
          cases t with
          | false =>
            have hc : cmpB y.1 x.1 < 0 := by simpa using ht
            clear ht
            have HJ2 : Hid (k = hi ∨ ∃ x y, L[k]? = some x ∧ L[p - k]? = some y ∧ cmpB (mk y) (mk x) < 0) := .inr ⟨x, y, HX.out, HY.out, hc⟩
            generalize cmpB y.1 x.1 = z at *
            go_wp2_with fail
            go_roundg (k - i)
            case measure => omega
            case rel => exact ⟨i, k, h1, hk1, by omega, rfl, rfl, rfl, HI, HJ2, HS2⟩
          | true =>
            have hc : ¬ cmpB y.1 x.1 < 0 := by simpa using ht
            clear ht
            have HI2 : Hid (k + 1 = lo ∨ ∃ x y, L[k + 1 - 1]? = some x ∧ L[p - (k + 1 - 1)]? = some y ∧ ¬ cmpB (mk y) (mk x) < 0) := .inr ⟨x, y, HX.out, HY.out, hc⟩
            generalize cmpB y.1 x.1 = z at *
            go_wp2_with fail
            go_roundg (j - (k + 1))
            case measure => omega
            case rel => exact ⟨k + 1, j, by omega, by omega, h3, rfl, by go_num, rfl, HI2, HJ, HS2⟩
        · obtain rfl : i = j := by omega
          clear hij
          go_wp2_with fail
          go_meet
          exact ⟨i, rfl, h1, h3, HI, HJ, HS⟩
  case rest =>
  obtain ⟨s, rfl, h1, h2, HI, HJ, HS1⟩ := hcut
  as_aux_lemma =>
    obtain ⟨U1, U2, V1, V2, e1, e2, e3, e4, e5, e6⟩ := HSP.out s h1 h2 HI.out HJ.out
    obtain ⟨e, he⟩ : ∃ e, e = mid + m - s := ⟨_, rfl⟩
    rw [← he] at e4
    have hnn := HNN.out
    have hw1 : IntKind.i64.wrap ((nn : Int) - (s : Int)) = (e : Int) := by rw [IntKind.wrap_i64]; omega
    have hu2 : s + U2.length = m := by
      have h5 := HM.out
      rw [e1, List.length_append] at h5
      omega
    have hv2 : e + V2.length = b := by
      have h5 := HB.out
      rw [e2, List.length_append] at h5
      omega
    have hum : mid + U2.length = e := by omega
    have hvm : s + V1.length = mid := by omega
    have HL1 : Hid (L = (P ++ U1) ++ (U2 ++ (V1 ++ (V2 ++ S)))) := by
      unfold Hid
      rw [HL.out, e1, e2]
      simp
    have HPU : Hid ((P ++ U1).length = s) := by unfold Hid; rw [List.length_append, HA.out]; exact e3
    have HU' : Hid (Sd mk (U1 ++ U2)) := by unfold Hid; rw [← e1]; exact HU.out
    have HV' : Hid (Sd mk (V1 ++ V2)) := by unfold Hid; rw [← e2]; exact HV.out
    have HDN : Hid (∀ X1 X2 : List Mg, Sd mk X1 → Stb mk (U1 ++ V1) X1 → Sd mk X2 → Stb mk (U2 ++ V2) X2 → Sd mk (X1 ++ X2) ∧ Stb mk (U ++ V) (X1 ++ X2)) := fun X1 X2 s1 t1 s2 t2 => by
      rw [e1, e2]
      exact sym_done HU'.out HV'.out e5 e6 s1 t1 s2 t2
    have hsm : s ≤ m := by omega
    have hme : m ≤ e := by omega
    have has : a ≤ s := by omega
    have hsd : s ≤ mid := by omega
    have hde : mid ≤ e := by omega
    have heb : e ≤ b := by omega
    have HE2 := Lib.hid hu2
    have HE3 := Lib.hid hv2
    have HE4 := Lib.hid hum
    have HE5 := Lib.hid hvm
    have HE6 := Lib.hid e3
    have HE7 := Lib.hid e4
    clear HSP HI HJ HS0 HL e1 e2 e3 e4 e5 e6 he hnn hu2 hv2 hum hvm HU HV HLO
    go_upto_region 39 with fail
    clear hw1
    go_cut [185] (fun tv wx => ∃ t : Bool, tv = .bool t ∧ Hid (t = true ↔ s < m ∧ m < e) ∧ Hid (SS W wx B g c n L))
    case first =>
      as_aux_lemma =>
        clear HDN cI
        by_cases hs1 : s < m
        · have hd2 : decide ((s : Int) < (m : Int)) = true := by simp; omega
          by_cases hs2 : m < e
          · have hd : decide ((m : Int) < (e : Int)) = true := by simp; omega
            go_wp2_with fail
            go_meet
            exact ⟨true, rfl, by unfold Hid; simp; omega, HS1⟩
          · have hd : decide ((m : Int) < (e : Int)) = false := by simp; omega
            go_wp2_with fail
            go_meet
            exact ⟨false, rfl, by unfold Hid; simp; omega, HS1⟩
        · have hd : decide ((s : Int) < (m : Int)) = false := by simp; omega
          go_wp2_with fail
          go_meet
          exact ⟨false, rfl, by unfold Hid; simp; omega, HS1⟩
    case rest =>
    obtain ⟨t, rfl, HT, HS2⟩ := hcut
    as_aux_lemma =>
      clear HS1
      go_upto_if 185 with fail
      go_cut [] (fun wx => Hid (SS W wx B g c n ((P ++ U1) ++ (V1 ++ (U2 ++ (V2 ++ S))))))
      case first =>
        as_aux_lemma =>
          clear HDN cI
          cases t with
          | true =>
            have hts := HT.out.1 rfl
            have cR := Lib.hid (rotate_any (.func (.func 70) #[] #[]) HS2.out HL1.out HPU.out HE2.out HE7.out (by have := HE2.out; omega) (by have := HE7.out; omega) hn)
            clear HS2 hts
            go_wp2_with (go_at_call 77; refine cR.out.mono ?_; rintro e w7 ⟨rfl, H7⟩)
            go_meet
            exact H7
          | false =>
            have HF : Hid (SS W wc B g c n ((P ++ U1) ++ (V1 ++ (U2 ++ (V2 ++ S))))) := by
              have h5 := HS2.out
              have hts : ¬ (s < m ∧ m < e) := fun h => by simpa using HT.out.2 h
              rw [HL1.out] at h5
              have h0 : V1 = [] ∨ U2 = [] := by
                rcases Nat.lt_or_ge s m with h6 | h6
                · exact .inl (List.eq_nil_of_length_eq_zero (by have := HE7.out; omega))
                · exact .inr (List.eq_nil_of_length_eq_zero (by have := HE2.out; omega))
              rcases h0 with h0 | h0
              · rw [h0] at h5 ⊢
                simpa [Hid] using h5
              · rw [h0] at h5 ⊢
                simpa [Hid] using h5
            clear HS2
            go_wp2_with fail
            go_meet
            exact HF
      case rest =>
      have HS3 := Lib.hid hcut.out
      as_aux_lemma =>
        clear HS2 HT hcut
        go_upto_region 41 with fail
        go_cut [199] (fun tv wx => ∃ t : Bool, tv = .bool t ∧ Hid (t = true ↔ a < s ∧ s < mid) ∧ Hid (SS W wx B g c n ((P ++ U1) ++ (V1 ++ (U2 ++ (V2 ++ S))))))
        case first =>
          as_aux_lemma =>
            clear HDN cI
            by_cases hs1 : a < s
            · have hd2 : decide ((a : Int) < (s : Int)) = true := by simp; omega
              by_cases hs2 : s < mid
              · have hd : decide ((s : Int) < (mid : Int)) = true := by simp; omega
                go_wp2_with fail
                go_meet
                exact ⟨true, rfl, by unfold Hid; simp; omega, HS3⟩
              · have hd : decide ((s : Int) < (mid : Int)) = false := by simp; omega
                go_wp2_with fail
                go_meet
                exact ⟨false, rfl, by unfold Hid; simp; omega, HS3⟩
            · have hd : decide ((a : Int) < (s : Int)) = false := by simp; omega
              go_wp2_with fail
              go_meet
              exact ⟨false, rfl, by unfold Hid; simp; omega, HS3⟩
        case rest =>
        obtain ⟨t, rfl, HT, HS4⟩ := hcut
        as_aux_lemma =>
          clear HS3
          go_upto_if 199 with fail
          go_cut [] (fun wx => ∃ X1, Hid (SS W wx B g c n (P ++ (X1 ++ (U2 ++ (V2 ++ S))))) ∧ Hid (Sd mk X1 ∧ Stb mk (U1 ++ V1) X1))
          case first =>
            as_aux_lemma =>
              clear HDN
              cases t with
              | true =>
                have hts := HT.out.1 rfl
                have cR := cI wc a s mid _ P U1 V1 (U2 ++ (V2 ++ S)) (by omega) HS4.out (by simp) HA.out HE6.out HE5.out (by have := HE6.out; omega) (by have := HE5.out; omega) (sd_app.1 HU'.out).1 (sd_app.1 HV'.out).1
                clear HS4 hts cI
                go_wp2_with (go_at_call 75; refine cR.out.mono ?_; rintro e w7 ⟨rfl, X1, H7, H8, H9⟩)
                go_meet
                exact ⟨X1, H7, H8, H9⟩
              | false =>
                have HF : Hid (SS W wc B g c n (P ++ ((U1 ++ V1) ++ (U2 ++ (V2 ++ S))))) := by
                  have h5 := HS4.out
                  simpa [Hid] using h5
                have HG : Hid (Sd mk (U1 ++ V1) ∧ Stb mk (U1 ++ V1) (U1 ++ V1)) := by
                  have hts : ¬ (a < s ∧ s < mid) := fun h => by simpa using HT.out.2 h
                  refine ⟨one_side (sd_app.1 HU'.out).1 (sd_app.1 HV'.out).1 ?_, Stb.refl _⟩
                  rcases Nat.lt_or_ge a s with h6 | h6
                  · exact .inr (List.eq_nil_of_length_eq_zero (by have := HE5.out; omega))
                  · exact .inl (List.eq_nil_of_length_eq_zero (by have := HE6.out; omega))
                clear HS4 cI
                go_wp2_with fail
                go_meet
                exact ⟨U1 ++ V1, HF, HG⟩
          case rest =>
          obtain ⟨X1, HS5, HX1⟩ := hcut
          as_aux_lemma =>
            clear HS4 HT
            have HP1 : Hid ((P ++ X1).length = mid) := by
              have h5 := HX1.out.2.len
              have h6 := HA.out
              have h7 := HE6.out
              have h8 := HE5.out
              rw [List.length_append] at h5
              unfold Hid
              rw [List.length_append]
              omega
            have HS6 : Hid (SS W wc B g c n ((P ++ X1) ++ (U2 ++ (V2 ++ S)))) := by
              have h5 := HS5.out
              simpa [Hid] using h5
            clear HS5
            by_cases hs1 : mid < e
            · have hd2 : decide ((mid : Int) < (e : Int)) = true := by simp; omega
              by_cases hs2 : e < b
              · have hd : decide ((e : Int) < (b : Int)) = true := by simp; omega
                have cR := cI wc mid e b _ (P ++ X1) U2 V2 S (by omega) HS6.out rfl HP1.out HE4.out HE3.out (by have := HE4.out; omega) (by have := HE3.out; omega) (sd_app.1 HU'.out).2.1 (sd_app.1 HV'.out).2.1
                clear HS6 cI
                go_wp2_with (go_at_call 75; refine cR.out.mono ?_; rintro e w7 ⟨rfl, X2, H7, H8, H9⟩)
                go_end0
                have hf := HDN.out X1 X2 HX1.out.1 HX1.out.2 H8 H9
                exact ⟨rfl, X1 ++ X2, by simpa using H7, hf.1, hf.2⟩
              · have hd : decide ((e : Int) < (b : Int)) = false := by simp; omega
                have HG : Hid (Sd mk (U2 ++ V2)) := one_side (sd_app.1 HU'.out).2.1 (sd_app.1 HV'.out).2.1 (.inr (List.eq_nil_of_length_eq_zero (by have := HE3.out; omega)))
                clear cI
                go_wp2_with fail
                go_end0
                have hf := HDN.out X1 (U2 ++ V2) HX1.out.1 HX1.out.2 HG.out (Stb.refl _)
                exact ⟨rfl, X1 ++ (U2 ++ V2), by simpa using HS6.out, hf.1, hf.2⟩
            · have hd : decide ((mid : Int) < (e : Int)) = false := by simp; omega
              have HG : Hid (Sd mk (U2 ++ V2)) := one_side (sd_app.1 HU'.out).2.1 (sd_app.1 HV'.out).2.1 (.inl (List.eq_nil_of_length_eq_zero (by have := HE4.out; omega)))
              clear cI
              go_wp2_with fail
              go_end0
              have hf := HDN.out X1 (U2 ++ V2) HX1.out.1 HX1.out.2 HG.out (Stb.refl _)
              exact ⟨rfl, X1 ++ (U2 ++ V2), by simpa using HS6.out, hf.1, hf.2⟩
end St
end Go.Proofs.Ytlabbmfiecbigaa
