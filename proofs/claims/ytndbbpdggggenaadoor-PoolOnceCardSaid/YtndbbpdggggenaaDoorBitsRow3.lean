/-
  Contracts of layer bits: Count, first, Free, Next.
-/
import Derived.Test.YtndbbpdggggenaaDoorBitsRow2
namespace Go.Proofs.YtndbbpdggggenaaDoor
open Go.RowKit
namespace Bt
open Mem

set_option maxHeartbeats 1000000 in
theorem Count_any (g b : Nat) (tb : List Bool) (w : World) (h : RowAt w g b tb) : Calls Tryd.prog 27 #[.pointer (some ⟨g, 0, none⟩)] w fun e w' => e = .returned (.int .i64 (cnt tb : Int)) ∧ w = w' := by
  obtain ⟨c, ws, hw⟩ := h
  obtain ⟨d0, d1⟩ := hw.cells
  have hlen := hw.rep.len
  have hhi := hw.hi
  have hlt := hw.rep.lt
  have HC : Hid (pc (bt ws) (64 * ws.length) = cnt tb) := hw.rep.cnt
  have HP : Hid (∀ j (h : j < ws.length), pc (bt ws) (64 * (j + 1)) = pc (bt ws) (64 * j) + ones ws[j]) := fun j h => pc_word h
  have HD : Hid (∀ j (h : j < ws.length), w.cell? ⟨b, j, none⟩ = some (.int .u64 (ws[j] : Int))) := fun j h => hw.word h
  have HX : Hid (∀ j (h : j < ws.length), ws[j] < 18446744073709551616) := fun j h => hw.rep.get_lt h
  have cO := fun x w hx => Lib.hid (OnesCount64_any x w hx)
  obtain ⟨m, hm⟩ : ∃ m, m = ws.length := ⟨_, rfl⟩
  have HM := Lib.hid hm
  rw [← hm] at d1 hlen HC
  have hm2 : m ≤ 1024 := by omega
  clear hw hm hlen hhi hlt d0
  go_enter Tryd.func27, Tryd.ntmps27
  go_wp2
  go_loopw [3, 13] (fun x i wr => ∃ k v : Nat, k ≤ m ∧ i = .int .i64 k ∧ x = .int .i64 (v : Int) ∧ v ≤ 64 * k ∧ Hid (v = pc (bt ws) (64 * k)) ∧ w = wr) (fun _ i _ => m - (intOf i).toNat)
  case atStart => exact ⟨0, 0, Nat.zero_le _, rfl, rfl, by omega, by unfold Hid; rfl, rfl⟩
  case round =>
    obtain ⟨k, v, hk, rfl, rfl, hv, HV, rfl⟩ := hrel
    by_cases hlt : k < m
    · have hkl : k < ws.length := by rw [← HM.out]; exact hlt
      have hc := HD.out k hkl
      have hx := HX.out k hkl
      have HP1 := Lib.hid (HP.out k hkl)
      have ho := ones_le ws[k]
      obtain ⟨x, hxx⟩ : ∃ x, x = ws[k] := ⟨_, rfl⟩
      rw [← hxx] at hc hx HP1 ho
      obtain ⟨u, hu⟩ : ∃ u, u = ones x := ⟨_, rfl⟩
      have cO1 := cO x w hx
      rw [← hu] at HP1 ho cO1
      clear hxx hkl hu cO hx
      go_wp2_with (go_at_call 35; refine cO1.out.mono ?_; rintro e w1 ⟨rfl, rfl⟩)
      exact ⟨⟨k + 1, v + u, hlt, by go_num, by go_num, by omega, by unfold Hid; rw [HP1.out, HV.out], trivial⟩, by simp [intOf]; omega⟩
    · obtain rfl : k = m := by omega
      clear cO
      go_wp2
      go_ret
      exact ⟨ret_i64 (by rw [HV.out, HC.out]), rfl⟩

/-- what is known of the search -/
def Nope (tb : List Bool) (v : Bool) (a k : Nat) : Prop := ∀ j, a ≤ j → j < k → j < tb.length → tb.getD j false ≠ v
theorem Nope.none {tb : List Bool} {v : Bool} {f : Int} {k : Nat} (h : Nope tb v f.toNat k) (hk : tb.length ≤ k) : firstO tb f v = none := by
  cases ho : firstO tb f v with
  | none => rfl
  | some r =>
    obtain ⟨h1, h2, h3, _⟩ := firstO_some ho
    exact absurd h3 (h r (by omega) (by omega) h2)
theorem Nope.some {tb : List Bool} {v : Bool} {f : Int} {k : Nat} (h : Nope tb v f.toNat k) (h0 : f.toNat ≤ k) (hk : k < tb.length) (hv : tb.getD k false = v) : firstO tb f v = some k := by
  cases ho : firstO tb f v with
  | none => exact absurd hv (firstO_none ho k (by omega) hk)
  | some r =>
    obtain ⟨h1, h2, h3, h4⟩ := firstO_some ho
    rcases Nat.lt_trichotomy r k with hlt | rfl | hlt
    · exact absurd h3 (h r (by omega) hlt h2)
    · rfl
    · exact absurd hv (h4 k (by omega) hlt)
theorem Nope.more {tb : List Bool} {v : Bool} {a k l : Nat} (h : Nope tb v a k) (hl : ∀ j, k ≤ j → j < l → tb.getD j false ≠ v) : Nope tb v a l := fun j h1 h2 h3 => by
  by_cases hj : j < k
  · exact h j h1 hj h3
  · exact hl j (by omega) h2

set_option maxHeartbeats 1000000 in
theorem first_any (g b : Nat) (f : Int) (turn : Bool) (tb : List Bool) (w : World) (h : RowAt w g b tb) (hT : Tab w) (hf : f ≤ 9223372036854775807) :
    Calls Tryd.prog 36 #[.pointer (some ⟨g, 0, none⟩), .int .i64 f, .int .u64 (wt turn : Nat)] w fun e w' => e = .returned (.tuple #[.int .i64 (foI (firstO tb f (!turn))), .bool (foB (firstO tb f (!turn)))]) ∧ w = w' := by
  have HR := Lib.hid h
  have HT := Lib.hid hT
  have cL := fun w h => Lib.hid (Len_any g b tb w h)
  obtain ⟨c, ws, hw⟩ := h
  have HW := Lib.hid hw
  obtain ⟨d0, d1⟩ := hw.cells
  have hhi := hw.hi
  have hlo := hw.lo
  obtain ⟨n, hn⟩ : ∃ n, n = tb.length := ⟨_, rfl⟩
  have HN := Lib.hid hn
  obtain ⟨m, hm⟩ : ∃ m, m = ws.length := ⟨_, rfl⟩
  have HM := Lib.hid hm
  obtain ⟨T, hTT⟩ : ∃ T, T = wt turn := ⟨_, rfl⟩
  have HTT := Lib.hid hTT
  obtain ⟨v, hv⟩ : ∃ v, v = !turn := ⟨_, rfl⟩
  have HV := Lib.hid hv
  rw [← hv, ← hTT]
  rw [← hn] at d0 cL hhi hlo
  rw [← hm] at d1
  obtain ⟨a, ha⟩ : ∃ a, a = f.toNat := ⟨_, rfl⟩
  have HA := Lib.hid ha
  have ha1 : a ≤ 9223372036854775807 := by omega
  have HMAX : Hid (max f 0 = (a : Int)) := by unfold Hid; omega
  have hmax : (if (0 : Int) > f then (0 : Int) else f) = (a : Int) := by split <;> omega
  clear hw hn hm hT hTT hv
  go_enter Tryd.func36, Tryd.ntmps36
  go_wp2
  go_loopw [8] (fun i wr => ∃ k : Nat, a ≤ k ∧ k ≤ 9223372036854775807 ∧ i = .int .i64 k ∧ Hid (Nope tb v a k) ∧ w = wr) (fun i _ => n - (intOf i).toNat)
  case atStart => exact ⟨a, Nat.le_refl _, ha1, by rw [HMAX.out], fun j h1 h2 => by omega, rfl⟩
  case round =>
    obtain ⟨k, hak, hk64, rfl, HK, rfl⟩ := hrel
    by_cases hlt : k < n
    · have hkt : k < tb.length := by rw [← HN.out]; exact hlt
      have hj := HW.out.rep.word hkt
      have hx := HW.out.rep.get_lt hj
      have d2 := HW.out.word hj
      have hd64 := wd_lt64 HW.out.rep turn hkt
      have HS := fun h0 => Lib.hid (wd_some HW.out.rep turn hkt h0)
      have HZ := fun h0 => Lib.hid (fun j h1 h2 => wd_zero HW.out.rep turn (i := k) h0 j h1 h2)
      have hxe : ws.getD (k / 64) 0 = ws[k / 64] := by simp [List.getD, hj]
      have hwd : (ws[k / 64] ^^^ T) / 2 ^ (k % 64) = wd ws turn k := by unfold wd; rw [hxe, HTT.out]
      obtain ⟨x, hxx⟩ : ∃ x, x = ws[k / 64] := ⟨_, rfl⟩
      rw [← hxx] at d2 hx hwd
      obtain ⟨d, hdd⟩ : ∃ d, d = wd ws turn k := ⟨_, rfl⟩
      rw [← hdd] at hwd hd64 HS HZ
      rw [← HV.out] at HS HZ
      rw [← HM.out] at hj
      have kx : bits .xor .u64 (x : Int) (T : Int) = ((x ^^^ T : Nat) : Int) := u64_xor_nat x T hx (by rw [HTT.out]; cases turn <;> simp [wt])
      obtain ⟨X, hX⟩ : ∃ X, X = x ^^^ T := ⟨_, rfl⟩
      rw [← hX] at kx hwd
      have ks : (X : Int) / 2 ^ (k % 64) = (d : Int) := by rw [← hwd]; simp
      have hq : (k : Int) / 64 = ((k / 64 : Nat) : Int) := by omega
      obtain ⟨j, hjj⟩ : ∃ j, j = k / 64 := ⟨_, rfl⟩
      rw [← hjj] at d2 hj hq
      have hwj : IntKind.i64.wrap (j : Int) = (j : Int) := by rw [IntKind.wrap_i64]; omega
      have hd : decide ((k : Int) < (n : Int)) = true := by simp; omega
      have hr0 : 0 ≤ (k : Int) % 64 := by omega
      clear hxx hxe hX hwd hjj hkt hx
      by_cases h0 : d = 0
      · have HZ1 := HZ h0
        subst h0
        clear HS HZ hdd
        go_wp2_with (go_at_call 26; refine (cL _ HR.out).out.mono ?_; rintro e w' ⟨rfl, rfl⟩)
        exact ⟨⟨k + (64 - k % 64), by omega, by omega, by congr 1; omega, HK.out.more HZ1.out, trivial⟩, by simp [intOf]; omega⟩
      · have HS1 := HS h0
        have cT := fun w hT => Lib.hid (TrailingZeros64_any d w h0 hd64 hT)
        obtain ⟨q, hq1⟩ : ∃ q, q = Lib.ctz 64 d := ⟨_, rfl⟩
        rw [← hq1] at HS1 cT
        have hq2 : q < 64 := by have := HS1.out; omega
        have hdz : ((d : Int) == 0) = false := by simp; omega
        have hwa : IntKind.i64.wrap ((k : Int) + (q : Int)) = (k : Int) + (q : Int) := by rw [IntKind.wrap_i64]; omega
        clear HS HZ hdd hq1 hd64 h0
        by_cases ha2 : k + q < n
        · have HO : Hid (firstO tb f v = some (k + q)) := by
            have h1 := HS1.out
            have h2 := HK.out.more (l := k + q) h1.2.2
            rw [HA.out] at h2
            exact h2.some (by rw [← HA.out]; omega) (by rw [← HN.out]; exact ha2) h1.2.1
          have hd2 : ((n : Int) ≤ (k : Int) + (q : Int)) = False := by simp; omega
          clear HS1
          go_wp2_with (first | (go_at_call 26; refine (cL _ HR.out).out.mono ?_; rintro e w' ⟨rfl, rfl⟩) | (go_at_call 37; refine (cT _ HT.out).out.mono ?_; rintro e w' ⟨rfl, rfl⟩))
          exact bodyPost_ret (v := .tuple #[.int .i64 ((k : Int) + (q : Int)), .bool true]) (by simp [results, Tryd.results36, go_sem]) rfl ⟨by rw [HO.out]; simp [foI, foB], rfl⟩
        · have HO : Hid (firstO tb f v = none) := by
            have h1 := HS1.out
            have h2 := HK.out.more (l := k + q) h1.2.2
            rw [HA.out] at h2
            exact h2.none (by rw [← HN.out]; omega)
          have hd2 : (n : Int) ≤ (k : Int) + (q : Int) := by omega
          clear HS1
          go_wp2_with (first | (go_at_call 26; refine (cL _ HR.out).out.mono ?_; rintro e w' ⟨rfl, rfl⟩) | (go_at_call 37; refine (cT _ HT.out).out.mono ?_; rintro e w' ⟨rfl, rfl⟩))
          exact bodyPost_ret (v := .tuple #[.int .i64 0, .bool false]) (by simp [results, Tryd.results36, go_sem]) rfl ⟨by rw [HO.out]; rfl, rfl⟩
    · have HO : Hid (firstO tb f v = none) := by have := HK.out; rw [HA.out] at this; exact this.none (by rw [← HN.out]; omega)
      have hd : decide ((k : Int) < (n : Int)) = false := by simp; omega
      go_wp2_with (go_at_call 26; refine (cL _ HR.out).out.mono ?_; rintro e w' ⟨rfl, rfl⟩)
      refine bodyPost_ret (v := .tuple #[.int .i64 0, .bool false]) (by simp [results, Tryd.results36, go_sem]) rfl ⟨by rw [HO.out]; rfl, rfl⟩

theorem Free_any (g b : Nat) (f : Int) (tb : List Bool) (w : World) (h : RowAt w g b tb) (hT : Tab w) (hf : f ≤ 9223372036854775807) :
    Calls Tryd.prog 29 #[.pointer (some ⟨g, 0, none⟩), .int .i64 f] w fun e w' => e = .returned (.tuple #[.int .i64 (foI (firstO tb f false)), .bool (foB (firstO tb f false))]) ∧ w = w' := by
  have cF : ∀ w, RowAt w g b tb → Tab w → Hid (Calls Tryd.prog 36 #[.pointer (some ⟨g, 0, none⟩), .int .i64 f, .int .u64 18446744073709551615] w fun e w' => e = .returned (.tuple #[.int .i64 (foI (firstO tb f false)), .bool (foB (firstO tb f false))]) ∧ w = w') := fun w h hT => first_any g b f true tb w h hT hf
  have HR := Lib.hid h
  have HT := Lib.hid hT
  generalize foI (firstO tb f false) = x at *
  generalize foB (firstO tb f false) = y at *
  clear h hT
  go_enter Tryd.func29, Tryd.ntmps29
  go_wp2_with (go_at_call 36; refine (cF _ HR.out HT.out).out.mono ?_; rintro e w' ⟨rfl, rfl⟩)
  exact bodyPost_ret (v := .tuple #[.int .i64 x, .bool y]) (by simp [results, Tryd.results29, go_sem]) rfl ⟨rfl, rfl⟩
theorem Next_any (g b : Nat) (f : Int) (tb : List Bool) (w : World) (h : RowAt w g b tb) (hT : Tab w) (hf : f ≤ 9223372036854775807) :
    Calls Tryd.prog 31 #[.pointer (some ⟨g, 0, none⟩), .int .i64 f] w fun e w' => e = .returned (.tuple #[.int .i64 (foI (firstO tb f true)), .bool (foB (firstO tb f true))]) ∧ w = w' := by
  have cF : ∀ w, RowAt w g b tb → Tab w → Hid (Calls Tryd.prog 36 #[.pointer (some ⟨g, 0, none⟩), .int .i64 f, .int .u64 0] w fun e w' => e = .returned (.tuple #[.int .i64 (foI (firstO tb f true)), .bool (foB (firstO tb f true))]) ∧ w = w') := fun w h hT => first_any g b f false tb w h hT hf
  have HR := Lib.hid h
  have HT := Lib.hid hT
  generalize foI (firstO tb f true) = x at *
  generalize foB (firstO tb f true) = y at *
  clear h hT
  go_enter Tryd.func31, Tryd.ntmps31
  go_wp2_with (go_at_call 36; refine (cF _ HR.out HT.out).out.mono ?_; rintro e w' ⟨rfl, rfl⟩)
  exact bodyPost_ret (v := .tuple #[.int .i64 x, .bool y]) (by simp [results, Tryd.results31, go_sem]) rfl ⟨rfl, rfl⟩
end Bt
end Go.Proofs.YtndbbpdggggenaaDoor
