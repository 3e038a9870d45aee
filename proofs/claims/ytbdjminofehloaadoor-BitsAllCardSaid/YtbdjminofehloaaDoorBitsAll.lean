/-
  BitsAll, walked.
-/
import Derived.Test.YtbdjminofehloaaDoorBitsMap
import Derived.Test.YtbdjminofehloaaDoorArgs
namespace Go.Proofs.YtbdjminofehloaaDoor
open Go.RowKit
namespace Bt
open Mem

/-- a slice of small numbers -/
def SL (w : World) (p : Option Addr) (ns : List Nat) : Prop := Args.NL w .u16 p (ns.map fun n : Nat => (n : Int))
theorem SL.at_ {w : World} {p : Option Addr} {ns : List Nat} (h : SL w p ns) {i : Nat} (hi : i < ns.length) : ∃ b o, p = some ⟨b, o, none⟩ ∧ w.cell? ⟨b, o + i, none⟩ = some (.int .u16 (ns[i] : Int)) := by
  obtain ⟨b, o, e, hc⟩ := h (by simp; omega)
  exact ⟨b, o, e, by rw [hc i (by simpa using hi)]; simp⟩
theorem cell_aft {W w' : World} (hb : Below W.heap.size W w') {a : Addr} {v : Value} (h : W.cell? a = some v) : w'.cell? a = some v := (hb.cell (Flow.lt_of_cell h)).trans h
/-- Next and Free, from a place on -/
theorem Ms.Next {W w : World} {g b m j n : Nat} {tr tm : List Bool} (H : Ms W w g b m j n tr tm) (f : Nat) (hf : f ≤ 65536) : Calls Tryd.prog 17 #[.pointer (some ⟨g, 0, none⟩), .int .i64 (f : Int)] w fun e w' => e = .returned (.tuple #[.int .i64 (foI (firstO tr f true)), .bool (foB (firstO tr f true))]) ∧ w = w' := H.rw.Next f (by omega)
theorem Ms.Free {W w : World} {g b m j n : Nat} {tr tm : List Bool} (H : Ms W w g b m j n tr tm) (f : Nat) (hf : f ≤ 65536) : Calls Tryd.prog 15 #[.pointer (some ⟨g, 0, none⟩), .int .i64 (f : Int)] w fun e w' => e = .returned (.tuple #[.int .i64 (foI (firstO tr f false)), .bool (foB (firstO tr f false))]) ∧ w = w' := H.rw.Free f (by omega)

set_option maxHeartbeats 4000000 in
set_option maxRecDepth 100000 in
theorem BitsAll_out (n : Int) (v : Value) (w : World) (hT : Tab w) (h : ¬ (1 ≤ n ∧ n ≤ 65536)) :
    Calls Tryd.prog 4 #[.int .i64 n, v] w fun e w' => e = .returned (.bool true) ∧ Below w.heap.size w w' := by
  have cA := fun w hT => Lib.hid (awake_any w hT)
  have cN := fun w => Lib.hid (New_out n w h)
  have HT := Lib.hid hT
  by_cases h0 : n < 1
  · clear h hT
    go_enter Tryd.func4, Tryd.ntmps4
    go_wp2_with (first | (go_at_call 5; refine (cN _).out.mono ?_; rintro e w1 ⟨rfl, rfl⟩) | (go_at_call 6; refine (cA _ HT.out).out.mono ?_; rintro e w' ⟨rfl, hb⟩; have HB := Lib.hid hb; clear hb))
    go_ret
    exact ⟨rfl, HB.out⟩
  · have h1 : 65536 < n := by omega
    clear h hT
    go_enter Tryd.func4, Tryd.ntmps4
    go_wp2_with (first | (go_at_call 5; refine (cN _).out.mono ?_; rintro e w1 ⟨rfl, rfl⟩) | (go_at_call 6; refine (cA _ HT.out).out.mono ?_; rintro e w' ⟨rfl, hb⟩; have HB := Lib.hid hb; clear hb))
    go_ret
    exact ⟨rfl, HB.out⟩

set_option maxHeartbeats 1000000 in
set_option maxRecDepth 100000 in
theorem BitsAll_in (n : Nat) (q : Option Addr) (d : Nat) (ns : List Nat) (w : World) (hT : Tab w) (h0 : 1 ≤ n) (h1 : n ≤ 65536) (hs : SL w q ns) (hl : ns.length ≤ maxLen) (hx16 : ∀ x ∈ ns, x < 65536) :
    Calls Tryd.prog 4 #[.int .i64 (n : Int), .slice q ns.length d] w fun e w' => e = .returned (.bool true) ∧ Below w.heap.size w w' := by
  have cA := fun w hT => Lib.hid (awake_any w hT)
  have cN := Lib.hid (New_rw w w hT (Below.refl _ _) n h0 h1)
  have cM : ∀ g b w1, Rw w w1 g b (List.replicate n false) → Hid (Ms w (w1.alloc (.map #[] 0)) g b w1.heap.size 0 n (List.replicate n false) (List.replicate n false)) := fun g b w1 h => h.made hT
  have hmm := @run_makeMap Tryd.prog
  unfold maxLen at hl
  have HT := Lib.hid hT
  have HX16 := Lib.hid hx16
  generalize List.replicate n false = t0 at *
  obtain ⟨N, hN⟩ : ∃ N, N = ns.length := ⟨_, rfl⟩
  rw [← hN] at hl ⊢
  have HNN := Lib.hid hN
  have HSL := Lib.hid hs
  clear hN hs hT hx16
  go_enter Tryd.func4, Tryd.ntmps4
  go_wp2_with (go_at_call 5; refine cN.out.mono ?_; rintro e w1 ⟨g, b, rfl, hr, -⟩; have HM0 := cM g b w1 hr; clear hr)
  clear cN cM
  obtain ⟨m, hm⟩ : ∃ m, m = w1.heap.size := ⟨_, rfl⟩
  rw [← hm] at HM0 ⊢
  go_loopw [8] (fun i wr => ∃ (k : Nat) (t : List Bool), k ≤ N ∧ k ≤ 500 ∧ i = .int .i64 k ∧ Hid (Ms w wr g b m k n t t)) (fun i _ => N - (intOf i).toNat)
  case atStart => exact ⟨0, t0, Nat.zero_le _, Nat.zero_le _, rfl, HM0⟩
  case round =>
    obtain ⟨k, t, hk, hk5, rfl, HM⟩ := hrel
    clear HM0 hm
    by_cases hlt : k < N ∧ k < 500
    · obtain ⟨k1, k2⟩ := hlt
      have hkl : k < ns.length := by rw [← HNN.out]; exact k1
      obtain ⟨ab, o, rfl, hc0⟩ := HSL.out.at_ hkl
      obtain ⟨x, hx⟩ : ∃ x, x = ns[k] := ⟨_, rfl⟩
      have hx1 : x < 65536 := by rw [hx]; exact HX16.out _ (List.getElem_mem hkl)
      rw [← hx] at hc0
      obtain ⟨y, hy⟩ : ∃ y, y = x % n := ⟨_, rfl⟩
      have hyn : y < n := by rw [hy]; exact Nat.mod_lt _ (by omega)
      have hy2 : (x : Int) % (n : Int) = (y : Int) := by rw [hy]; simp
      have hy1 : (x : Int).tmod (n : Int) = (y : Int) := by rw [Int.tmod_eq_emod_of_nonneg (by omega)]; exact hy2
      have hz0 : ((n : Int) == 0) = false := by simp; omega
      have hw64 : wrap64 (x : Int) = (x : Int) := by unfold wrap64; omega
      have HC0 := Lib.hid hc0
      have HYN := Lib.hid hyn
      have HKJ : Hid (k ≤ 1000000) := by unfold Hid; omega
      have d0 := cell_aft HM.out.rw.bel hc0
      clear hkl hx hc0 hy cA
      go_wp2_with (go_at_call 11; refine (HM.out.Set HT.out HYN.out).mono ?_; rintro e w2 ⟨u, rfl, hp⟩; have d3 := cell_aft hp.rw.bel HC0.out; obtain ⟨w3, hupd, hp3⟩ := hp.store HT.out HYN.out h1 HKJ.out; have HM3 := Lib.hid hp3; clear hp hp3)
      exact ⟨⟨k + 1, t.set y true, by omega, by omega, by go_num, HM3⟩, by simp [intOf]; omega⟩
    · by_cases h3 : k < N
      · have h4 : 500 ≤ k := by omega
        clear hlt
        have cX0 : Hid (Calls Tryd.prog 17 #[.pointer (some ⟨g, 0, none⟩), .int .i64 0] wr fun e w' => e = .returned (.tuple #[.int .i64 (foI (firstO t ((0 : Nat) : Int) true)), .bool (foB (firstO t ((0 : Nat) : Int) true))]) ∧ wr = w') := HM.out.Next 0 (by omega)
        obtain ⟨I0, hI0⟩ : ∃ I0, I0 = foI (firstO t ((0 : Nat) : Int) true) := ⟨_, rfl⟩
        obtain ⟨B0, hB0⟩ : ∃ B0, B0 = foB (firstO t ((0 : Nat) : Int) true) := ⟨_, rfl⟩
        rw [← hI0, ← hB0] at cX0
        have HI0 := Lib.hid hI0
        have HB0 := Lib.hid hB0
        clear hI0 hB0
        go_wp2_with (go_at_call 17; refine cX0.out.mono ?_; rintro e w4 ⟨rfl, rfl⟩)
        clear cX0
        obtain ⟨wo, rfl⟩ : ∃ wo : World, wo = wr := ⟨_, rfl⟩
        go_loopw [9, 11, 12] (fun tk i ok wr => ∃ (f c : Nat) (I : Int) (B : Bool), tk = .int .i64 (c : Int) ∧ f ≤ n ∧ c ≤ f ∧ i = .int .i64 I ∧ ok = .bool B ∧ Hid (I = foI (firstO t (f : Int) true)) ∧ Hid (B = foB (firstO t (f : Int) true)) ∧ Hid (c = pc (fun i => t.getD i false == true) f) ∧ Hid (Ms w wr g b m k n t t)) (fun tk _ _ _ => n + 1 - (intOf tk).toNat)
        case atStart => exact ⟨0, 0, I0, B0, rfl, Nat.zero_le _, Nat.le_refl _, rfl, rfl, HI0, HB0, rfl, HM⟩
        case round =>
          obtain ⟨f, c, I, B, rfl, hfn, hcf, rfl, rfl, HI, HB, HC, HM2⟩ := hrel
          clear HI0 HB0
          cases ho : firstO t (f : Int) true with
          | some r =>
            obtain ⟨hr, hv, hfr, hpc⟩ := next_some ho
            rw [HM2.out.lr] at hr
            obtain rfl : I = (r : Int) := by rw [HI.out, ho]; rfl
            obtain rfl : B = true := by rw [HB.out, ho]; rfl
            have hlook := HM2.out.look (i := r) (by omega)
            have cH := Lib.hid (HM2.out.Has HT.out r)
            rw [hv] at hlook cH
            have HPC := Lib.hid hpc
            have hr16 : r < 65536 := by omega
            clear ho hv HI HB hpc
            go_wp2_with (first
              | (go_at_call 19; refine cH.out.mono ?_; rintro e w5 ⟨rfl, hp⟩; have HM5 := Lib.hid hp; have cX := Lib.hid (hp.Next (r + 1) (by omega)); obtain ⟨I2, hI2⟩ : ∃ I2, I2 = foI (firstO t ((r + 1 : Nat) : Int) true) := ⟨_, rfl⟩; obtain ⟨B2, hB2⟩ : ∃ B2, B2 = foB (firstO t ((r + 1 : Nat) : Int) true) := ⟨_, rfl⟩; rw [← hI2, ← hB2] at cX; rw [show ((r + 1 : Nat) : Int) = (r : Int) + 1 from by omega] at cX; have HI2 := Lib.hid hI2; have HB2 := Lib.hid hB2; clear hp hI2 hB2 hlook)
              | (go_at_call 17; refine cX.out.mono ?_; rintro e w6 ⟨rfl, rfl⟩))
            exact ⟨⟨r + 1, c + 1, I2, B2, by go_num, by omega, by omega, rfl, rfl, HI2, HB2, by unfold Hid; rw [HPC.out, HC.out], HM5⟩, by simp [intOf]; omega⟩
          | none =>
            obtain rfl : B = false := by rw [HB.out, ho]; rfl
            have HCN := Lib.hid (next_none ho (by rw [HM2.out.lr]; exact hfn))
            obtain ⟨c1, hc1⟩ : ∃ c1, c1 = c := ⟨_, rfl⟩
            have HC1 : Hid (c1 = pc (fun i => t.getD i false == true) f) := by unfold Hid; rw [hc1]; exact HC.out
            have HCN1 : Hid (pc (fun i => t.getD i false == true) f = pc (fun i => t.getD i false == true) t.length) := HCN
            rw [← hc1]
            obtain ⟨f1, hf1⟩ : ∃ f1, f1 = f := ⟨_, rfl⟩
            rw [← hf1] at HC1 HCN1
            clear HCN HC hc1 hf1 ho HI HB hcf hfn HM
            have cX0 : Hid (Calls Tryd.prog 15 #[.pointer (some ⟨g, 0, none⟩), .int .i64 0] wr fun e w' => e = .returned (.tuple #[.int .i64 (foI (firstO t ((0 : Nat) : Int) false)), .bool (foB (firstO t ((0 : Nat) : Int) false))]) ∧ wr = w') := HM2.out.Free 0 (by omega)
            obtain ⟨I0, hI0⟩ : ∃ I0, I0 = foI (firstO t ((0 : Nat) : Int) false) := ⟨_, rfl⟩
            obtain ⟨B0, hB0⟩ : ∃ B0, B0 = foB (firstO t ((0 : Nat) : Int) false) := ⟨_, rfl⟩
            rw [← hI0, ← hB0] at cX0
            have HI0 := Lib.hid hI0
            have HB0 := Lib.hid hB0
            clear hI0 hB0
            go_wp2_with (go_at_call 15; refine cX0.out.mono ?_; rintro e w4 ⟨rfl, rfl⟩)
            clear cX0
            obtain ⟨wo, rfl⟩ : ∃ wo : World, wo = wr := ⟨_, rfl⟩
            have HM := HM2
            clear HM2
            go_loopw [10, 13, 14] (fun tk i ok wr => ∃ (f c : Nat) (I : Int) (B : Bool), tk = .int .i64 (c : Int) ∧ f ≤ n ∧ c ≤ f ∧ i = .int .i64 I ∧ ok = .bool B ∧ Hid (I = foI (firstO t (f : Int) false)) ∧ Hid (B = foB (firstO t (f : Int) false)) ∧ Hid (c = pc (fun i => t.getD i false == false) f) ∧ Hid (Ms w wr g b m k n t t)) (fun tk _ _ _ => n + 1 - (intOf tk).toNat)
            case atStart => exact ⟨0, 0, I0, B0, rfl, Nat.zero_le _, Nat.le_refl _, rfl, rfl, HI0, HB0, rfl, HM⟩
            case round =>
              obtain ⟨f, c, I, B, rfl, hfn, hcf, rfl, rfl, HI, HB, HC, HM2⟩ := hrel
              clear HI0 HB0
              cases ho : firstO t (f : Int) false with
              | some r =>
                obtain ⟨hr, hv, hfr, hpc⟩ := next_some ho
                rw [HM2.out.lr] at hr
                obtain rfl : I = (r : Int) := by rw [HI.out, ho]; rfl
                obtain rfl : B = true := by rw [HB.out, ho]; rfl
                have hlook := HM2.out.look (i := r) (by omega)
                have cH := Lib.hid (HM2.out.Has HT.out r)
                rw [hv] at hlook cH
                have HPC := Lib.hid hpc
                have hr16 : r < 65536 := by omega
                clear ho hv HI HB hpc
                go_wp2_with (first
                  | (go_at_call 19; refine cH.out.mono ?_; rintro e w5 ⟨rfl, hp⟩; have HM5 := Lib.hid hp; have cX := Lib.hid (hp.Free (r + 1) (by omega)); obtain ⟨I2, hI2⟩ : ∃ I2, I2 = foI (firstO t ((r + 1 : Nat) : Int) false) := ⟨_, rfl⟩; obtain ⟨B2, hB2⟩ : ∃ B2, B2 = foB (firstO t ((r + 1 : Nat) : Int) false) := ⟨_, rfl⟩; rw [← hI2, ← hB2] at cX; rw [show ((r + 1 : Nat) : Int) = (r : Int) + 1 from by omega] at cX; have HI2 := Lib.hid hI2; have HB2 := Lib.hid hB2; clear hp hI2 hB2 hlook)
                  | (go_at_call 15; refine cX.out.mono ?_; rintro e w6 ⟨rfl, rfl⟩))
                exact ⟨⟨r + 1, c + 1, I2, B2, by go_num, by omega, by omega, rfl, rfl, HI2, HB2, by unfold Hid; rw [HPC.out, HC.out], HM5⟩, by simp [intOf]; omega⟩
              | none =>
                obtain rfl : B = false := by rw [HB.out, ho]; rfl
                have HCN := Lib.hid (next_none ho (by rw [HM2.out.lr]; exact hfn))
                have HT1 : Hid (c1 = cnt t) := by unfold Hid; rw [HC1.out, HCN1.out, pc_true]; rfl
                have HF1 : Hid (c + c1 = n) := by
                  have e1 := HC.out
                  have e2 := HCN.out
                  have e3 := pc_le (fun i => t.getD i false) n
                  have e4 := HM2.out.lr
                  unfold Hid
                  rw [e1, e2, pc_false, HT1.out]
                  unfold cnt
                  rw [e4]; omega
                have hlen := fun ty => HM2.out.mp.len_ ty
                have cC := Lib.hid (Count_any g b t wr HM2.out.rw.row)
                rw [← HT1.out] at hlen cC
                have hf1 : ((c : Int) == (n : Int) - (c1 : Int)) = true := by have := HF1.out; simp; omega
                have hws : IntKind.i64.wrap ((n : Int) - (c1 : Int)) = (n : Int) - (c1 : Int) := by have := HF1.out; rw [IntKind.wrap_i64]; omega
                have hcn : c1 ≤ n := by have := HF1.out; omega
                clear ho HI HB
                go_wp2_with (first
                  | (go_at_call 8; refine cC.out.mono ?_; rintro e w6 ⟨rfl, rfl⟩)
                  | (go_at_call 6; refine (cA _ HM2.out.rw.tab).out.mono ?_; rintro e w' ⟨rfl, hb⟩; have HB := Lib.hid hb; clear hb))
                go_ret
                exact ⟨rfl, HM2.out.rw.bel.trans (HB.out.mono HM2.out.rw.bel.size)⟩
      · obtain rfl : k = N := by omega
        clear hlt h3
        have cX0 : Hid (Calls Tryd.prog 17 #[.pointer (some ⟨g, 0, none⟩), .int .i64 0] wr fun e w' => e = .returned (.tuple #[.int .i64 (foI (firstO t ((0 : Nat) : Int) true)), .bool (foB (firstO t ((0 : Nat) : Int) true))]) ∧ wr = w') := HM.out.Next 0 (by omega)
        obtain ⟨I0, hI0⟩ : ∃ I0, I0 = foI (firstO t ((0 : Nat) : Int) true) := ⟨_, rfl⟩
        obtain ⟨B0, hB0⟩ : ∃ B0, B0 = foB (firstO t ((0 : Nat) : Int) true) := ⟨_, rfl⟩
        rw [← hI0, ← hB0] at cX0
        have HI0 := Lib.hid hI0
        have HB0 := Lib.hid hB0
        clear hI0 hB0
        go_wp2_with (go_at_call 17; refine cX0.out.mono ?_; rintro e w4 ⟨rfl, rfl⟩)
        clear cX0
        obtain ⟨wo, rfl⟩ : ∃ wo : World, wo = wr := ⟨_, rfl⟩
        go_loopw [9, 11, 12] (fun tk i ok wr => ∃ (f c : Nat) (I : Int) (B : Bool), tk = .int .i64 (c : Int) ∧ f ≤ n ∧ c ≤ f ∧ i = .int .i64 I ∧ ok = .bool B ∧ Hid (I = foI (firstO t (f : Int) true)) ∧ Hid (B = foB (firstO t (f : Int) true)) ∧ Hid (c = pc (fun i => t.getD i false == true) f) ∧ Hid (Ms w wr g b m k n t t)) (fun tk _ _ _ => n + 1 - (intOf tk).toNat)
        case atStart => exact ⟨0, 0, I0, B0, rfl, Nat.zero_le _, Nat.le_refl _, rfl, rfl, HI0, HB0, rfl, HM⟩
        case round =>
          obtain ⟨f, c, I, B, rfl, hfn, hcf, rfl, rfl, HI, HB, HC, HM2⟩ := hrel
          clear HI0 HB0
          cases ho : firstO t (f : Int) true with
          | some r =>
            obtain ⟨hr, hv, hfr, hpc⟩ := next_some ho
            rw [HM2.out.lr] at hr
            obtain rfl : I = (r : Int) := by rw [HI.out, ho]; rfl
            obtain rfl : B = true := by rw [HB.out, ho]; rfl
            have hlook := HM2.out.look (i := r) (by omega)
            have cH := Lib.hid (HM2.out.Has HT.out r)
            rw [hv] at hlook cH
            have HPC := Lib.hid hpc
            have hr16 : r < 65536 := by omega
            clear ho hv HI HB hpc
            go_wp2_with (first
              | (go_at_call 19; refine cH.out.mono ?_; rintro e w5 ⟨rfl, hp⟩; have HM5 := Lib.hid hp; have cX := Lib.hid (hp.Next (r + 1) (by omega)); obtain ⟨I2, hI2⟩ : ∃ I2, I2 = foI (firstO t ((r + 1 : Nat) : Int) true) := ⟨_, rfl⟩; obtain ⟨B2, hB2⟩ : ∃ B2, B2 = foB (firstO t ((r + 1 : Nat) : Int) true) := ⟨_, rfl⟩; rw [← hI2, ← hB2] at cX; rw [show ((r + 1 : Nat) : Int) = (r : Int) + 1 from by omega] at cX; have HI2 := Lib.hid hI2; have HB2 := Lib.hid hB2; clear hp hI2 hB2 hlook)
              | (go_at_call 17; refine cX.out.mono ?_; rintro e w6 ⟨rfl, rfl⟩))
            exact ⟨⟨r + 1, c + 1, I2, B2, by go_num, by omega, by omega, rfl, rfl, HI2, HB2, by unfold Hid; rw [HPC.out, HC.out], HM5⟩, by simp [intOf]; omega⟩
          | none =>
            obtain rfl : B = false := by rw [HB.out, ho]; rfl
            have HCN := Lib.hid (next_none ho (by rw [HM2.out.lr]; exact hfn))
            obtain ⟨c1, hc1⟩ : ∃ c1, c1 = c := ⟨_, rfl⟩
            have HC1 : Hid (c1 = pc (fun i => t.getD i false == true) f) := by unfold Hid; rw [hc1]; exact HC.out
            have HCN1 : Hid (pc (fun i => t.getD i false == true) f = pc (fun i => t.getD i false == true) t.length) := HCN
            rw [← hc1]
            obtain ⟨f1, hf1⟩ : ∃ f1, f1 = f := ⟨_, rfl⟩
            rw [← hf1] at HC1 HCN1
            clear HCN HC hc1 hf1 ho HI HB hcf hfn HM
            have cX0 : Hid (Calls Tryd.prog 15 #[.pointer (some ⟨g, 0, none⟩), .int .i64 0] wr fun e w' => e = .returned (.tuple #[.int .i64 (foI (firstO t ((0 : Nat) : Int) false)), .bool (foB (firstO t ((0 : Nat) : Int) false))]) ∧ wr = w') := HM2.out.Free 0 (by omega)
            obtain ⟨I0, hI0⟩ : ∃ I0, I0 = foI (firstO t ((0 : Nat) : Int) false) := ⟨_, rfl⟩
            obtain ⟨B0, hB0⟩ : ∃ B0, B0 = foB (firstO t ((0 : Nat) : Int) false) := ⟨_, rfl⟩
            rw [← hI0, ← hB0] at cX0
            have HI0 := Lib.hid hI0
            have HB0 := Lib.hid hB0
            clear hI0 hB0
            go_wp2_with (go_at_call 15; refine cX0.out.mono ?_; rintro e w4 ⟨rfl, rfl⟩)
            clear cX0
            obtain ⟨wo, rfl⟩ : ∃ wo : World, wo = wr := ⟨_, rfl⟩
            have HM := HM2
            clear HM2
            go_loopw [10, 13, 14] (fun tk i ok wr => ∃ (f c : Nat) (I : Int) (B : Bool), tk = .int .i64 (c : Int) ∧ f ≤ n ∧ c ≤ f ∧ i = .int .i64 I ∧ ok = .bool B ∧ Hid (I = foI (firstO t (f : Int) false)) ∧ Hid (B = foB (firstO t (f : Int) false)) ∧ Hid (c = pc (fun i => t.getD i false == false) f) ∧ Hid (Ms w wr g b m k n t t)) (fun tk _ _ _ => n + 1 - (intOf tk).toNat)
            case atStart => exact ⟨0, 0, I0, B0, rfl, Nat.zero_le _, Nat.le_refl _, rfl, rfl, HI0, HB0, rfl, HM⟩
            case round =>
              obtain ⟨f, c, I, B, rfl, hfn, hcf, rfl, rfl, HI, HB, HC, HM2⟩ := hrel
              clear HI0 HB0
              cases ho : firstO t (f : Int) false with
              | some r =>
                obtain ⟨hr, hv, hfr, hpc⟩ := next_some ho
                rw [HM2.out.lr] at hr
                obtain rfl : I = (r : Int) := by rw [HI.out, ho]; rfl
                obtain rfl : B = true := by rw [HB.out, ho]; rfl
                have hlook := HM2.out.look (i := r) (by omega)
                have cH := Lib.hid (HM2.out.Has HT.out r)
                rw [hv] at hlook cH
                have HPC := Lib.hid hpc
                have hr16 : r < 65536 := by omega
                clear ho hv HI HB hpc
                go_wp2_with (first
                  | (go_at_call 19; refine cH.out.mono ?_; rintro e w5 ⟨rfl, hp⟩; have HM5 := Lib.hid hp; have cX := Lib.hid (hp.Free (r + 1) (by omega)); obtain ⟨I2, hI2⟩ : ∃ I2, I2 = foI (firstO t ((r + 1 : Nat) : Int) false) := ⟨_, rfl⟩; obtain ⟨B2, hB2⟩ : ∃ B2, B2 = foB (firstO t ((r + 1 : Nat) : Int) false) := ⟨_, rfl⟩; rw [← hI2, ← hB2] at cX; rw [show ((r + 1 : Nat) : Int) = (r : Int) + 1 from by omega] at cX; have HI2 := Lib.hid hI2; have HB2 := Lib.hid hB2; clear hp hI2 hB2 hlook)
                  | (go_at_call 15; refine cX.out.mono ?_; rintro e w6 ⟨rfl, rfl⟩))
                exact ⟨⟨r + 1, c + 1, I2, B2, by go_num, by omega, by omega, rfl, rfl, HI2, HB2, by unfold Hid; rw [HPC.out, HC.out], HM5⟩, by simp [intOf]; omega⟩
              | none =>
                obtain rfl : B = false := by rw [HB.out, ho]; rfl
                have HCN := Lib.hid (next_none ho (by rw [HM2.out.lr]; exact hfn))
                have HT1 : Hid (c1 = cnt t) := by unfold Hid; rw [HC1.out, HCN1.out, pc_true]; rfl
                have HF1 : Hid (c + c1 = n) := by
                  have e1 := HC.out
                  have e2 := HCN.out
                  have e3 := pc_le (fun i => t.getD i false) n
                  have e4 := HM2.out.lr
                  unfold Hid
                  rw [e1, e2, pc_false, HT1.out]
                  unfold cnt
                  rw [e4]; omega
                have hlen := fun ty => HM2.out.mp.len_ ty
                have cC := Lib.hid (Count_any g b t wr HM2.out.rw.row)
                rw [← HT1.out] at hlen cC
                have hf1 : ((c : Int) == (n : Int) - (c1 : Int)) = true := by have := HF1.out; simp; omega
                have hws : IntKind.i64.wrap ((n : Int) - (c1 : Int)) = (n : Int) - (c1 : Int) := by have := HF1.out; rw [IntKind.wrap_i64]; omega
                have hcn : c1 ≤ n := by have := HF1.out; omega
                clear ho HI HB
                go_wp2_with (first
                  | (go_at_call 8; refine cC.out.mono ?_; rintro e w6 ⟨rfl, rfl⟩)
                  | (go_at_call 6; refine (cA _ HM2.out.rw.tab).out.mono ?_; rintro e w' ⟨rfl, hb⟩; have HB := Lib.hid hb; clear hb))
                go_ret
                exact ⟨rfl, HM2.out.rw.bel.trans (HB.out.mono HM2.out.rw.bel.size)⟩
end Bt
end Go.Proofs.YtbdjminofehloaaDoor
