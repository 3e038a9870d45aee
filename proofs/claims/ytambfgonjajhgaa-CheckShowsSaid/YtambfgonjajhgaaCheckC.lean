/-
  CheckShows, walked.
-/
import Derived.Test.YtambfgonjajhgaaCheckB
namespace Go.Proofs.Ytambfgonjajhgaa
open Go.RowKit
namespace Ck
open Mem

theorem own_form {U : TypeId} {w : World} {B : Nat} {v : Value} {l : List UInt8} (h : Own U w B v l) (hl : 0 < l.length) : ∃ g cap, v = .slice (some ⟨g, 0, none⟩) l.length cap ∧ B ≤ g ∧ g < w.heap.size ∧ l.length ≤ cap := by
  obtain ⟨h1, h2⟩ := h
  rcases h2 with ⟨rfl, h0⟩ | ⟨g, cap, cur, rfl, hB, hh, hle, _⟩
  · omega
  · exact ⟨g, cap, rfl, hB, (Array.getElem?_eq_some_iff.1 hh).1, hle⟩
theorem own_cell {U : TypeId} {w : World} {B g cap : Nat} {l : List UInt8} (h : Own U w B (.slice (some ⟨g, 0, none⟩) l.length cap) l) {i : Nat} (hi : i < l.length) : w.cell? ⟨g, i, none⟩ = some (.int .u8 (l[i].toNat : Int)) := by
  rw [World.ownsRow.cellAt h i (by omega)]
  simp [bytesV, byteV, hi]
theorem own_free {U : TypeId} {w : World} {B g cap : Nat} {l : List UInt8} (h : Own U w B (.slice (some ⟨g, 0, none⟩) l.length cap) l) (i : Nat) : w.frozen? ⟨g, i, none⟩ = false := World.ownsRow.frozenAt h i
theorem own_set {U : TypeId} {w : World} {B g cap : Nat} {l : List UInt8} (h : Own U w B (.slice (some ⟨g, 0, none⟩) l.length cap) l) (i : Nat) (x : UInt8) : Own U (w.setCell ⟨g, i, none⟩ (.int .u8 (x.toNat : Int))) B (.slice (some ⟨g, 0, none⟩) l.length cap) (l.set i x) ∧ w.grownBy (w.setCell ⟨g, i, none⟩ (.int .u8 (x.toNat : Int))) (some g) := by
  have := World.ownsRow.stored h i (.int .u8 (x.toNat : Int))
  have e : bytesV (l.set i x) = (bytesV l).set i (byteV x) := by simp [bytesV, List.map_set]
  refine ⟨?_, this.2⟩
  unfold Own
  rw [List.length_set, e]
  exact this.1
theorem own_set2 {U : TypeId} {w : World} {B g cap : Nat} {l : List UInt8} (h : Own U w B (.slice (some ⟨g, 0, none⟩) l.length cap) l) (i : Nat) (x : UInt8) : Own U (w.setCell ⟨g, i, none⟩ (.int .u8 (x.toNat : Int))) B (.slice (some ⟨g, 0, none⟩) (l.set i x).length cap) (l.set i x) ∧ w.grownBy (w.setCell ⟨g, i, none⟩ (.int .u8 (x.toNat : Int))) (some g) := by
  have h1 := own_set h i x
  have e : (l.set i x).length = l.length := List.length_set
  rw [e]
  exact h1
theorem own_kept {U : TypeId} {w w' : World} {B : Nat} {v : Value} {l : List UInt8} (h : Own U w B v l) (hk : Below w.heap.size w w') : Own U w' B v l :=
  World.ownsRow.kept h (row := none) ⟨hk.os, hk.tape, hk.output, hk.size, fun k hk' _ => hk.block k hk'⟩ (by cases h : v.ownBlock with | none => exact .inl rfl | some _ => exact .inr (by simp))
theorem own_bl {U : TypeId} {w : World} {B g cap : Nat} {l : List UInt8} (h : Own U w B (.slice (some ⟨g, 0, none⟩) l.length cap) l) : BL w (some ⟨g, 0, none⟩) l := fun _ => ⟨g, 0, rfl, fun i hi => by rw [Nat.zero_add]; exact own_cell h hi⟩
theorem alloc_at (W : World) (o : Obj) {n : Nat} (h : n = W.heap.size) : (W.alloc o).heap[n]? = some o := by subst h; exact heap_alloc_new W o
theorem Sum_one_n (n : Nat) (W : World) (g : Nat) (A : Option Addr) (c : Nat) (l : List UInt8) (U : TypeId) (fl : Nat × Nat) (hn : l.length = n) (h : W.heap[g]? = some (.cells #[.slice A n c] U fl)) (hb : BL W A l) (hl : n ≤ c) (hs : n ≤ 140737488355328) :
    Calls Try.prog 9 #[.slice (some ⟨g, 0, none⟩) 1 1] W fun e w' => e = .returned (.int .u32 (more 1 l : Int)) ∧ Below W.heap.size W w' := by
  subst hn; exact Sum_one W g A c l U fl h hb hl hs
theorem below_grown {w w1 w2 : World} {g : Nat} (h : Below w.heap.size w w1) (hg : w1.grownBy w2 (some g)) (hgb : w.heap.size ≤ g) : Below w.heap.size w w2 := h.grown hg h.size fun k hk => by
  obtain rfl : g = k := by simpa using hk
  exact hgb

set_option maxHeartbeats 4000000 in
set_option maxRecDepth 100000 in
theorem CheckShows_walk (p : Option Addr) (c : Nat) (l : List UInt8) (at' d : Nat) (w : World) (h : BL w p l) (hc : l.length ≤ c) (hm : l.length ≤ maxLen) (hat : at' < 65536) (hd : d < 256) :
    Calls Try.prog 5 #[.slice p l.length c, .int .u16 (at' : Int), .int .u8 (d : Int)] w fun e w' => e = .returned (.bool true) ∧ Below w.heap.size w w' := by
  have cA := fun w => Lib.hid (awake_any w)
  obtain ⟨n, hn⟩ : ∃ n, n = l.length := ⟨_, rfl⟩
  by_cases hx : n = 0 ∨ 20000 < n
  · rw [← hn] at hm ⊢
    unfold maxLen at hm
    clear hn h hc
    by_cases h0 : n = 0
    · subst h0
      clear hx
      go_enter Try.func5, Try.ntmps5
      go_wp2_with (go_at_call 7; refine (cA _).out.mono ?_; rintro e w' ⟨rfl, hb⟩; have HB := Lib.hid hb; clear hb)
      go_ret
      exact ⟨rfl, HB.out⟩
    · have hn1 : 20000 < n := hx.resolve_left h0
      clear hx h0
      go_enter Try.func5, Try.ntmps5
      go_wp2_with (go_at_call 7; refine (cA _).out.mono ?_; rintro e w' ⟨rfl, hb⟩; have HB := Lib.hid hb; clear hb)
      go_ret
      exact ⟨rfl, HB.out⟩
  · have hn0 : 0 < n := by omega
    have hn1 : n ≤ 20000 := by omega
    obtain ⟨k, hk⟩ : ∃ k, k = at' % n := ⟨_, rfl⟩
    have hkn : k < n := by have := Nat.mod_lt at' hn0; omega
    have hk2 : (at' : Int) % (n : Int) = (k : Int) := by rw [hk]; simp
    have hk1 : (at' : Int).tmod (n : Int) = (k : Int) := by rw [Int.tmod_eq_emod_of_nonneg (by omega)]; exact hk2
    have hz0 : ((n : Int) == 0) = false := by simp; omega
    have hw64 : wrap64 (at' : Int) = (at' : Int) := by unfold wrap64; omega
    have hkl : k < l.length := by omega
    obtain ⟨x, hx1⟩ : ∃ x, x = l[k] := ⟨_, rfl⟩
    obtain ⟨z, hz⟩ : ∃ z : UInt8, z = l[k] + UInt8.ofNat d := ⟨_, rfl⟩
    have hzx : (((l[k].toNat : Nat) : Int) + (d : Int)) % 256 = (z.toNat : Int) := by rw [hz, UInt8.toNat_add]; simp
    have HSH : Hid ((more 1 (l.set k z) = more 1 l) ↔ d = 0) := by
      unfold Hid
      rw [shows_set l hkl z, hz]
      constructor
      · intro e
        have e1 := congrArg UInt8.toNat e
        have e2 : l[k].toNat < 256 := l[k].toNat_lt
        rw [UInt8.toNat_add] at e1
        simp at e1
        omega
      · rintro rfl
        simp
    obtain ⟨b0, o0, rfl, hcB⟩ := h.at_ hkl
    obtain ⟨x, hx⟩ : ∃ x, x = l[k].toNat := ⟨_, rfl⟩
    rw [← hx] at hcB hzx
    obtain ⟨T, hT⟩ : ∃ T, T = more 1 l := ⟨_, rfl⟩
    obtain ⟨T1, hT1⟩ : ∃ T1, T1 = more 1 (l.set k z) := ⟨_, rfl⟩
    have hE : ((T1 : Int) == (T : Int)) = ((d : Int) == 0) := by
      have h1 := HSH.out
      rw [← hT, ← hT1] at h1
      rw [Bool.eq_iff_iff]
      simp only [beq_iff_eq]
      omega
    have HT := Lib.hid hT
    have HT1 := Lib.hid hT1
    have HX := Lib.hid hx
    have HB := Lib.hid h
    have HN := Lib.hid hn
    have HC := Lib.hid hc
    rw [← hn]
    clear hx hk h hc hm hat hz hn hx1 hT hT1
    rcases (show k + 1 = n ∨ k + 1 < n by omega) with hl1 | hl1
    · have hq : ((k : Int) + 1 == (n : Int)) = true := by simp; omega
      go_enter Try.func5, Try.ntmps5
      go_wp2_with (first
        | (at_builtin; refine wpList_append_bytes rfl (.tmp 24) (.tmp 25) _ rfl w.heap.size 5 Try.underlying24 u8info (.slice (some ⟨w.heap.size, 0, none⟩) 0 0) [] rfl (Own.lit 5 w w.heap.size [] (Nat.le_refl _) (by unfold maxLen; simp)) _ n c l rfl HN.out.symm (HB.out.alloc _) (by simp; omega) (by simp) ?_; intro v2 w2 hown hgr _; have ho : Own 5 w2 w.heap.size v2 l := hown.out; obtain ⟨g, cap, hv, hgb, hgl, hcap⟩ := own_form ho (by omega); rw [hv] at ho; rw [← HN.out] at hv hcap; subst hv; have hcg := own_cell ho hkl; have hfg := own_free ho k; rw [← HX.out] at hcg; have HSET := Lib.hid (own_set ho k z); have HGB := Lib.hid hgb; have HGL := Lib.hid hgl; have HCAP := Lib.hid hcap; have HB2 : Hid (Below w.heap.size w w2) := ((Below.refl _ _).alloc (Nat.le_refl _) _).grown hgr (by simp) (fun k hk => (by have hk' : w.heap.size = k := (by simpa [Value.ownBlock] using hk); omega)); clear hown hgr ho hgb hgl hcap)
        | (go_at_call_of 9 (Value.slice (some ⟨w2.heap.size, 0, none⟩) 1 1); refine (Sum_one_n n _ _ (some ⟨g, 0, none⟩) cap (l.set k z) _ (0, 0) (by rw [List.length_set]; exact HN.out.symm) (alloc_at _ _ (by simp)) ((BL.alloc (own_bl (by rw [List.length_set]; exact HSET.out.1)) _)) HCAP.out (by omega)).mono ?_; rintro e w3 ⟨he, hb⟩; rw [← HT1.out] at he; subst he; have HB3 : Hid (Below w.heap.size w w3) := below_trans ((below_grown HB2.out HSET.out.2 HGB.out).alloc (by simp; have := HB2.out.size; omega) _) hb; clear hb hcg hfg)
        | (go_at_call 9; refine (Sum_one_n n _ _ (some ⟨b0, o0, none⟩) c l _ (0, 0) HN.out.symm (alloc_at _ _ rfl) ((HB.out.below HB3.out).alloc _) (by rw [HN.out]; exact HC.out) (by omega)).mono ?_; rintro e w4 ⟨he, hb⟩; rw [← HT.out] at he; subst he; have HB4 : Hid (Below w.heap.size w w4) := below_trans (HB3.out.alloc HB3.out.size _) hb; clear hb)
        | (go_at_call 7; refine (cA _).out.mono ?_; rintro e w5 ⟨rfl, hb⟩; have HB5 := Lib.hid hb; clear hb))
      go_ret
      exact ⟨rfl, below_trans HB4.out HB5.out⟩
    · have hq : ((k : Int) + 1 == (n : Int)) = false := by simp; omega
      have hkl1 : k + 1 < l.length := by rw [← HN.out]; exact hl1
      obtain ⟨b0', o0', e0, hcB1⟩ := HB.out.at_ hkl1
      obtain ⟨rfl, rfl⟩ : b0 = b0' ∧ o0 = o0' := by simpa using e0
      obtain ⟨y, hy⟩ : ∃ y, y = l[k + 1].toNat := ⟨_, rfl⟩
      rw [← hy] at hcB1
      have HY := Lib.hid hy
      have HL1 := Lib.hid hkl1
      have HSW : Hid (((more 1 ((l.set k l[k + 1]).set (k + 1) l[k]) : Int) == (more 1 l : Int)) = ((x : Int) == (y : Int))) := by
        unfold Hid
        rw [Bool.eq_iff_iff, HX.out, HY.out]
        simp only [beq_iff_eq]
        have h1 := shows_swap l hkl1
        rw [← UInt8.toNat_inj] at h1
        omega
      clear e0 hy
      go_enter Try.func5, Try.ntmps5
      go_wp2_with (first
        | (at_builtin; refine wpList_append_bytes rfl (.tmp 24) (.tmp 25) _ rfl w.heap.size 5 Try.underlying24 u8info (.slice (some ⟨w.heap.size, 0, none⟩) 0 0) [] rfl (Own.lit 5 w w.heap.size [] (Nat.le_refl _) (by unfold maxLen; simp)) _ n c l rfl HN.out.symm (HB.out.alloc _) (by simp; omega) (by simp) ?_; intro v2 w2 hown hgr _; have ho : Own 5 w2 w.heap.size v2 l := hown.out; obtain ⟨g, cap, hv, hgb, hgl, hcap⟩ := own_form ho (by omega); rw [hv] at ho; rw [← HN.out] at hv hcap; subst hv; have hcg := own_cell ho hkl; have hfg := own_free ho k; rw [← HX.out] at hcg; have HSET := Lib.hid (own_set ho k z); have HGB := Lib.hid hgb; have HGL := Lib.hid hgl; have HCAP := Lib.hid hcap; have HB2 : Hid (Below w.heap.size w w2) := ((Below.refl _ _).alloc (Nat.le_refl _) _).grown hgr (by simp) (fun k hk => (by have hk' : w.heap.size = k := (by simpa [Value.ownBlock] using hk); omega)); clear hown hgr ho hgb hgl hcap)
        | (go_at_call_of 9 (Value.slice (some ⟨w2.heap.size, 0, none⟩) 1 1); refine (Sum_one_n n _ _ (some ⟨g, 0, none⟩) cap (l.set k z) _ (0, 0) (by rw [List.length_set]; exact HN.out.symm) (alloc_at _ _ (by simp)) ((BL.alloc (own_bl (by rw [List.length_set]; exact HSET.out.1)) _)) HCAP.out (by omega)).mono ?_; rintro e w3 ⟨he, hb⟩; rw [← HT1.out] at he; subst he; have HB3 : Hid (Below w.heap.size w w3) := below_trans ((below_grown HB2.out HSET.out.2 HGB.out).alloc (by simp; have := HB2.out.size; omega) _) hb; clear hb hcg hfg)
        | (go_at_call 9; refine (Sum_one_n n _ _ (some ⟨b0, o0, none⟩) c l _ (0, 0) HN.out.symm (alloc_at _ _ rfl) ((HB.out.below HB3.out).alloc _) (by rw [HN.out]; exact HC.out) (by omega)).mono ?_; rintro e w4 ⟨he, hb⟩; rw [← HT.out] at he; subst he; have HB4 : Hid (Below w.heap.size w w4) := below_trans (HB3.out.alloc HB3.out.size _) hb; clear hb)
        | (at_builtin; refine wpList_append_bytes rfl (.tmp 52) (.tmp 53) _ rfl w4.heap.size 5 Try.underlying24 u8info (.slice (some ⟨w4.heap.size, 0, none⟩) 0 0) [] rfl (Own.lit 5 w4 w4.heap.size [] (Nat.le_refl _) (by unfold maxLen; simp)) _ n c l rfl HN.out.symm ((HB.out.below HB4.out).alloc _) (by simp; omega) (by simp) ?_; intro v5 w5 hown hgr _; have ho : Own 5 w5 w4.heap.size v5 l := hown.out; obtain ⟨g2, cap2, hv, hgb, hgl, hcap⟩ := own_form ho (by omega); rw [hv] at ho; rw [← HN.out] at hv hcap; subst hv; have HO5 := Lib.hid ho; have HGB5 := Lib.hid hgb; have HGL5 := Lib.hid hgl; have HCAP5 := Lib.hid hcap; have HB5 : Hid (Below w4.heap.size w4 w5) := ((Below.refl _ _).alloc (Nat.le_refl _) _).grown hgr (by simp) (fun k hk => (by have hk' : w4.heap.size = k := (by simpa [Value.ownBlock] using hk); omega)); clear hown hgr ho hgb hgl hcap))
      have hc0 := own_cell HO5.out hkl
      have hc1 := own_cell HO5.out hkl1
      rw [← HX.out] at hc0
      rw [← HY.out] at hc1
      refine Drift.wp_region_drift_late [] [(0,[]),(1,[]),(2,[]),(3,[]),(4,[]),(5,[]),(6,[]),(7,[]),(8,[]),(9,[]),(10,[]),(11,[]),(12,[]),(13,[])] [] [] [2, 3, 4, 10, 11, 12] (by kernel_rfl) (by kernel_rfl) (by simp) ?_
      simp only [Drift.pick, Drift.opsAt, List.getElem?_toArray, List.getElem?_cons_zero, List.getElem?_cons_succ, List.cons_append, List.nil_append, List.filterMap_nil]
      have hw1 : IntKind.i64.wrap ((k : Int) + 1) = (k : Int) + 1 := by rw [IntKind.wrap_i64]; omega
      have hi0 : 0 ≤ ((k : Int) + 1) := by omega
      have hi1 : ((k : Int) + 1) < (n : Int) := by omega
      have d0 := fun q : Drift.Tide [] w5 [] => Drift.Tide.cell hc0 (by simp) q
      have d1 := fun q : Drift.Tide [] w5 [] => Drift.Tide.cell hc1 (by simp) q
      clear hc0 hc1
      repeat (refine Drift.walk_step (fun K hK => ?_); go_simp; (refine hK _ ?_; clear hK K))
      refine Drift.walk_clear rfl (.slice (some ⟨g2, 0, none⟩) n cap2) (fun W => by go_simp) ?_
      refine Drift.walk_clear rfl (.int .i64 k) (fun W => by go_simp) ?_
      refine Drift.walk_clear rfl (.int .i64 ((k : Int) + 1)) (fun W => by go_simp) ?_
      repeat (refine Drift.walk_step (fun K hK => ?_); go_simp; (refine hK _ ?_; clear hK K))
      refine Drift.walk_clear rfl (.slice (some ⟨g2, 0, none⟩) n cap2) (fun W => by go_simp) ?_
      refine Drift.walk_clear rfl (.int .i64 k) (fun W => by go_simp) ?_
      refine Drift.walk_clear rfl (.pointer (some ⟨g2, k, none⟩)) (fun W => by go_simp) ?_
      repeat (refine Drift.walk_step (fun K hK => ?_); go_simp; (refine hK _ ?_; clear hK K))
      refine Drift.walk_nil ?_
      intro w6 hb6 _
      clear d0 d1
      have HB6 := Lib.hid hb6
      have ho6 := own_kept HO5.out hb6
      have hf0 := own_free ho6 k
      have s7 := own_set2 ho6 k (l[k + 1]'hkl1)
      have s8 := own_set2 s7.1 (k + 1) (l[k]'hkl)
      have hf1 := own_free s7.1 (k + 1)
      have hc60 := own_cell ho6 hkl
      have hc71 := own_cell s7.1 (i := k + 1) (by rw [List.length_set]; exact hkl1)
      rw [List.getElem_set_ne (by omega)] at hc71
      rw [← HX.out] at hc60
      rw [← HY.out] at hc71
      rw [← HY.out] at s7 s8 hf1
      rw [← HX.out] at s8
      have HS7 := Lib.hid s7
      have HS8 := Lib.hid s8
      clear hb6 ho6 s7 s8
      simp only [List.length_cons, List.length_nil, List.drop_succ_cons, List.drop_zero, Nat.zero_add, Nat.reduceAdd]
      go_wp2_with fail
      rw [Flow.Nrm_normal]
      clear hf0 hf1 hc60 hc71
      have hgg : w.heap.size ≤ g2 := Nat.le_trans HB4.out.size HGB5.out
      have hb8 := below_grown (below_grown (below_trans (below_trans HB4.out HB5.out) HB6.out) HS7.out.2 hgg) HS8.out.2 hgg
      have ho8 := HS8.out.1
      clear HS7 HS8 HSET
      generalize (w6.setCell ⟨g2, k, none⟩ (.int .u8 (y : Int))).setCell ⟨g2, k + 1, none⟩ (.int .u8 (x : Int)) = w8 at hb8 ho8 ⊢
      obtain ⟨X, hX⟩ : ∃ X, X = (l.set k (l[k + 1]'hkl1)).set (k + 1) (l[k]'hkl) := ⟨_, rfl⟩
      have hXn : X.length = n := by rw [hX, List.length_set, List.length_set]; exact HN.out.symm
      rw [← hX] at ho8
      have HO8 : Hid (BL w8 (some ⟨g2, 0, none⟩) X) := own_bl ho8
      obtain ⟨T2, hT2⟩ : ∃ T2, T2 = more 1 X := ⟨_, rfl⟩
      have hE2 : ((T2 : Int) == (T : Int)) = ((x : Int) == (y : Int)) := by rw [hT2, hX, HT.out]; exact HSW.out
      have cS1 := fun W g' U fl h hb => Lib.hid (Sum_one_n n W g' (some ⟨g2, 0, none⟩) cap2 X U fl hXn h hb HCAP5.out (by omega))
      have cS2 := fun W g' U fl h hb => Lib.hid (Sum_one_n n W g' (some ⟨b0, o0, none⟩) c l U fl HN.out.symm h hb (by rw [HN.out]; exact HC.out) (by omega))
      rw [← hT2] at cS1
      rw [← HT.out] at cS2
      have HBL8 : Hid (BL w8 (some ⟨b0, o0, none⟩) l) := HB.out.below hb8
      have HB8 := Lib.hid hb8
      have c0 : w8.cell? ⟨b0, o0 + k, none⟩ = some (.int .u8 (x : Int)) := by
        obtain ⟨b', o', e, hc⟩ := HBL8.out.at_ hkl
        obtain ⟨rfl, rfl⟩ : b0 = b' ∧ o0 = o' := by simpa using e
        rw [hc, HX.out]
      have c1 : w8.cell? ⟨b0, o0 + (k + 1), none⟩ = some (.int .u8 (y : Int)) := by
        obtain ⟨b', o', e, hc⟩ := HBL8.out.at_ hkl1
        obtain ⟨rfl, rfl⟩ : b0 = b' ∧ o0 = o' := by simpa using e
        rw [hc, HY.out]
      have e0 := fun q : Drift.Tide [] w8 [] => Drift.Tide.cell c0 (by simp) q
      have e1 := fun q : Drift.Tide [] w8 [] => Drift.Tide.cell c1 (by simp) q
      clear hX hXn hT2 ho8 hb8 c0 c1 hcB hcB1
      go_wp2_with fail
      refine Drift.wp_region_drift [] [(0,[]),(3,[]),(7,[]),(8,[]),(9,[]),(10,[]),(11,[]),(12,[]),(13,[]),(14,[]),(15,[]),(16,[]),(1,[4]),(2,[]),(4,[]),(5,[]),(6,[]),(17,[]),(18,[]),(19,[]),(20,[]),(21,[])] [] [1, 4] (by kernel_rfl) (by kernel_rfl) (by simp) ?_
      simp only [Drift.pick, Drift.opsAt, List.getElem?_toArray, List.getElem?_cons_zero, List.getElem?_cons_succ, List.cons_append, List.nil_append, List.filterMap_cons, List.filterMap_nil]
      repeat (refine Drift.walk_step (fun K hK => ?_); go_simp; (refine hK _ ?_; clear hK K))
      refine Drift.walk_make rfl (Drift.mkwalk_one rfl (fun b => .slice (some ⟨b, 0, none⟩) 1 1) (.cells #[.slice (some ⟨b0, o0, none⟩) n c] 24) (fun W => by go_simp) fun b hb => Drift.mkwalk_nil) (fun b => .slice (some ⟨b, 0, none⟩) 1 1) (.cells #[.slice (some ⟨g2, 0, none⟩) n cap2] 24) (fun W => by go_simp) (fun b1 hb1 hT1 => ?_)
      clear hb1 e0 e1
      repeat (refine Drift.walk_step (fun K hK => ?_); go_simp; first | (refine hK _ ?_; clear hK K) | (apply Exists.intro; refine ⟨fun q => ?_, hK _ ?_⟩; (go_at_call 9; exact (cS1 _ _ _ _ (q.has (b1, .cells #[.slice (some ⟨g2, 0, none⟩) n cap2] 24) (by simp)) (bl_into HO8.out q.into)).out); clear hK K))
      refine Drift.walk_make rfl Drift.mkwalk_nil (fun b => .slice (some ⟨b, 0, none⟩) 1 1) (.cells #[.slice (some ⟨b0, o0, none⟩) n c] 24) (fun W => by go_simp) (fun b2 hb2 hT2 => ?_)
      clear hb2 hT1
      repeat (refine Drift.walk_step (fun K hK => ?_); go_simp; first | (refine hK _ ?_; clear hK K) | (apply Exists.intro; refine ⟨fun q => ?_, hK _ ?_⟩; (first | (go_at_call 9; exact (cS2 _ _ _ _ (q.has (b2, .cells #[.slice (some ⟨b0, o0, none⟩) n c] 24) (by simp)) (bl_into HBL8.out q.into)).out) | (go_at_call 7; exact (cA _).out)); clear hK K))
      refine Drift.walk_nil ?_
      intro w9 hb9 _
      have HB9 := Lib.hid hb9
      clear hb9
      simp only [List.length_cons, List.length_nil, List.drop_succ_cons, List.drop_nil, Nat.zero_add, Nat.reduceAdd]
      go_wp2_with fail
      go_ret
      exact ⟨rfl, below_trans HB8.out HB9.out⟩
end Ck
end Go.Proofs.Ytambfgonjajhgaa
