/-
  NodeKd. Put together by pack.py.
-/
import Derived.Test.YtgpbioljldkmaaaPqNodeRr
import Derived.Test.YtgpbioljldkmaaaPkAB

namespace Go.Proofs.Ytgpbioljldkmaaa
open Go.RowKit
namespace No
open Mem Lx Bu Lf Fa Hp Pq
/-- the one ahead, 0 at first -/
def ahdK (L : List Nat) (i : Nat) : Nat := if i = 0 then 0 else gt L (i - 1)
def KdAt (c : Cfg) (L : List Nat) (i : Nat) : Prop := ahdK L i < gt L i ∧ ((gt L i : Nat) : Int) < c.blocks
theorem kidsOk_iff {c : Cfg} {K : List Nat} : KidsOk c K ↔ K.Nodup ∧ ∀ k, k ∈ K → k ≠ 0 ∧ (k : Int) < c.blocks := by
  constructor
  · intro h
    refine ⟨?_, fun k hk => ?_⟩
    · rw [List.nodup_iff_pairwise_ne, List.pairwise_iff_getElem]
      intro i j hi hj hij
      exact (h j K[j] (List.getElem?_eq_getElem hj)).2 i K[i] hij (List.getElem?_eq_getElem hi)
    · obtain ⟨i, hi⟩ := List.mem_iff_getElem?.1 hk
      exact (h i k hi).1
  · rintro ⟨h1, h2⟩ i k hk
    refine ⟨h2 k (List.mem_of_getElem? hk), fun j m hj hm e => ?_⟩
    rw [List.nodup_iff_pairwise_ne, List.pairwise_iff_getElem] at h1
    obtain ⟨hi, ei⟩ := List.getElem?_eq_some_iff.1 hk
    obtain ⟨hj2, ej⟩ := List.getElem?_eq_some_iff.1 hm
    exact h1 j i hj2 hi hj (by rw [ei, ej, e])
theorem kids_sorted {c : Cfg} {K L : List Nat} {n : Nat} (hp : L.Perm K) (hn : L.length = n) (ho : Ord2 L 0 n) : KidsOk c K ↔ ∀ i, i < n → KdAt c L i := by
  have hg : ∀ i, i < n → gt L i ∈ L := fun i hi => by
    rw [gt_eq (by omega)]
    exact List.getElem_mem _
  rw [kidsOk_iff]
  constructor
  · rintro ⟨h1, h2⟩ i hi
    have hl := hp.nodup_iff.2 h1
    have hm := h2 _ (hp.mem_iff.1 (hg i hi))
    refine ⟨?_, hm.2⟩
    unfold ahdK
    by_cases e : i = 0
    · rw [if_pos e]
      omega
    · rw [if_neg e]
      have h3 := ho (i - 1) i (Nat.zero_le _) (by omega) hi
      rw [List.nodup_iff_pairwise_ne, List.pairwise_iff_getElem] at hl
      have h4 := hl (i - 1) i (by omega) (by omega) (by omega)
      rw [gt_eq (show i - 1 < L.length by omega), gt_eq (show i < L.length by omega)] at h3 ⊢
      omega
  · intro h
    have hs : ∀ j, j < n → ∀ i, i < j → gt L i < gt L j := fun j => by
      induction j with
      | zero => intro _ i hi; omega
      | succ j ih =>
        intro hj i hi
        have h1 := (h (j + 1) hj).1
        unfold ahdK at h1
        rw [if_neg (by omega), Nat.add_sub_cancel] at h1
        by_cases e : i = j
        · rw [e]
          exact h1
        · exact Nat.lt_trans (ih (by omega) i (by omega)) h1
    refine ⟨hp.nodup_iff.1 ?_, fun k hk => ?_⟩
    · rw [List.nodup_iff_pairwise_ne, List.pairwise_iff_getElem]
      intro i j hi hj hij
      have := hs j (by omega) i hij
      rw [gt_eq hi, gt_eq hj] at this
      omega
    · obtain ⟨i, hi, rfl⟩ := List.mem_iff_getElem.1 (hp.mem_iff.2 hk)
      have h1 := h i (by omega)
      rw [← gt_eq hi]
      exact ⟨by have := h1.1; omega, h1.2⟩
/-- what the sorted numbers are -/
structure SrtK (w : World) (A : Option Addr) (K L : List Nat) (n : Nat) : Prop where
  rd : KL w A L
  perm : L.Perm K
  len : L.length = n
  ord : Ord2 L 0 n
set_option maxRecDepth 100000 in
set_option maxHeartbeats 4000000 in
theorem mayKidsS_any {W : World} (c : Cfg) {A : Option Addr} {cc : Nat} {K : List Nat} (hl : K.length ≤ 80) (hkid : ∀ k, k ∈ K → k < 4294967296)
    (cSeq : 1 ≤ K.length → ∀ W1, Below W.heap.size W W1 → Calls Try.prog 60 #[.slice A K.length cc] W1 fun e w1 => ∃ sv, e = .returned sv ∧ Below W1.heap.size W1 w1 ∧ Calls Try.prog 59 #[sv] w1 fun e w2 => ∃ A2 c2 L, e = .returned (.slice A2 K.length c2) ∧ SrtK w2 A2 K L K.length ∧ Below w1.heap.size w1 w2) :
    Calls Try.prog 37 #[.agg (cfCs c), .slice A K.length cc] W fun e w' => (∃ v : Bool, e = .returned (.bool v) ∧ (v = true ↔ KidsP c K)) ∧ Below W.heap.size W w' := by
  obtain ⟨P, hP⟩ : ∃ P : Prop, P = KidsP c K := ⟨_, rfl⟩
  rw [← hP]
  obtain ⟨n, hn⟩ : ∃ n, n = K.length := ⟨_, rfl⟩
  have HN1 : Hid (¬ (1 ≤ n ∧ (n : Int) ≤ c.fan) → ¬ P) := fun h hp => by
    rw [hP] at hp
    exact h ⟨by rw [hn]; exact hp.1, by rw [hn]; exact hp.2.1⟩
  have HSR : Hid (1 ≤ n → (n : Int) ≤ c.fan → ∀ (w : World) (A2 : Option Addr) (L : List Nat), SrtK w A2 K L n → (P ↔ ∀ i, i < n → KdAt c L i) ∧ ∀ i, i < n → gt L i < 4294967296) := fun h1 h2 w A2 L hs => by
    refine ⟨?_, fun i hi => ?_⟩
    · rw [hP, ← kids_sorted hs.perm hs.len hs.ord]
      exact ⟨fun h => h.2.2, fun h => ⟨by rw [← hn]; exact h1, by rw [← hn]; exact h2, h⟩⟩
    · rw [gt_eq (by rw [hs.len]; exact hi)]
      exact hkid _ (hs.perm.mem_iff.1 (List.getElem_mem _))
  rw [← hn] at cSeq hl ⊢
  have CS := Lib.hid cSeq
  have HKA : Hid (∀ L i, KdAt c L i ↔ ahdK L i < gt L i ∧ ((gt L i : Nat) : Int) < c.blocks) := fun L i => Iff.rfl
  generalize hKd : KdAt c = Kd at *
  clear hP hn hkid cSeq hKd
  unfold cfCs
  obtain ⟨cB, cY, cF, cN, cU, cL, cKy, cV⟩ := c
  simp only at *
  go_enter Try.func37, Try.ntmps37
  go_upto_region 1 with fail
  have hx := heap_alloc_new W (.cells #[.int .i64 cB, .int .i64 cY, .int .i64 cF, .int .i64 cN, .int .i64 cU, .int .i64 cL, .int .i64 cKy, .int .i64 cV] 23)
  have hb0 : Below W.heap.size W (W.alloc (.cells #[.int .i64 cB, .int .i64 cY, .int .i64 cF, .int .i64 cN, .int .i64 cU, .int .i64 cL, .int .i64 cKy, .int .i64 cV] 23)) := (Below.refl _ _).alloc (Nat.le_refl _) _
  generalize W.alloc (.cells #[.int .i64 cB, .int .i64 cY, .int .i64 cF, .int .i64 cN, .int .i64 cU, .int .i64 cL, .int .i64 cKy, .int .i64 cV] 23) = w1 at *
  obtain ⟨g, hg⟩ : ∃ g, g = W.heap.size := ⟨_, rfl⟩
  rw [← hg] at hx
  simp only [← hg]
  have HX := Lib.hid hx
  have HB := Lib.hid hb0
  obtain ⟨d0, d1, d2, d3, d4, d5, d6, d7⟩ := box8 hx
  clear hx hb0 hg
  by_cases h1 : 1 ≤ n
  case neg =>
    have HNP := Lib.hid (HN1.out (fun h => h1 h.1))
    have h1' : n < 1 := by omega
    have HF : Hid (false = true ↔ P) := ⟨(fun h => by cases h), fun h => absurd h HNP.out⟩
    obtain rfl : n = 0 := by omega
    clear h1'
    go_wp2_with fail
    go_ret
    first
      | exact ⟨⟨false, rfl, HF.out⟩, HB.out⟩
      | exact ⟨.inl ⟨rfl, HNP.out⟩, HB.out⟩
  by_cases h2 : (n : Int) ≤ cN
  case neg =>
    have HNP := Lib.hid (HN1.out (fun h => h2 h.2))
    have HF : Hid (false = true ↔ P) := ⟨(fun h => by cases h), fun h => absurd h HNP.out⟩
    have h2' : cN < (n : Int) := by omega
    have h1' : ¬ (n < 1) := by omega
    go_wp2_with fail
    go_ret
    first
      | exact ⟨⟨false, rfl, HF.out⟩, HB.out⟩
      | exact ⟨.inl ⟨rfl, HNP.out⟩, HB.out⟩
  have h2' : ¬ (cN < (n : Int)) := by omega
  have h1' : ¬ (n < 1) := by omega
  have cV' := Lib.hid (CS.out h1 w1 HB.out)
  have HSR2 := Lib.hid (HSR.out h1 h2)
  go_upto_region 4 with fail
  clear h2' h1' HN1 HSR CS d0 d1 d2 d3 d4 d5 d6 d7
  go_wp2_with (first
    | (go_at_call 60; refine cV'.out.mono ?_; rintro e w2 ⟨sv, rfl, hb2, hs⟩
       have HB2 := Lib.hid (bel3 HB.out hb2)
       have HX2 := Lib.hid (kept3 HX.out hb2)
       have cS := Lib.hid hs
       clear hb2 hs)
    | (go_at_call 59; refine cS.out.mono ?_; rintro e w3 ⟨A2, c2, L, rfl, hsk, hb3⟩))
  have HB3 := Lib.hid (bel3 HB2.out hb3)
  have HX3 := Lib.hid (kept3 HX2.out hb3)
  have HSP := Lib.hid (HSR2.out w3 A2 L hsk)
  have HSK := Lib.hid hsk
  obtain ⟨d0, d1, d2, d3, d4, d5, d6, d7⟩ := box8 HX3.out
  clear hsk hb3 HX HB HX2 HB2 cV' cS HSR2
  go_loopg [5, 22] n (fun gk av iv wr => ∃ k : Nat, k ≤ n ∧ gk = n - k ∧ av = .int .u32 ((ahdK L k : Nat) : Int) ∧ iv = .int .i64 (k : Int) ∧ Hid (∀ i, i < k → Kd L i) ∧ w3 = wr)
  case atStart => exact ⟨0, Nat.zero_le _, rfl, rfl, rfl, Lib.hid (fun i hi => absurd hi (Nat.not_lt_zero _)), rfl⟩
  case round =>
    obtain ⟨k, hk, rfl, rfl, rfl, HL, rfl⟩ := hrel
    by_cases hlt : k < n
    · have hkL : k < L.length := by rw [HSK.out.len]; exact hlt
      have hx' := nat_lenK hkL
      rw [← gt_eq hkL] at hx'
      obtain ⟨b, o, e, -, c0⟩ := RdK.kid HSK.out.rd hx'
      subst e
      have hK := Lib.hid (HKA.out L k)
      have hA2 : ahdK L (k + 1) = gt L k := by simp [ahdK]
      have hxb := HSP.out.2 k hlt
      have hNo : Hid (¬ Kd L k → ¬ P) := fun h hp => h (HSP.out.1.1 hp k hlt)
      have hGo : Hid (Kd L k → ∀ i, i < k + 1 → Kd L i) := fun h i hi => by
        by_cases e : i = k
        · rw [e]; exact h
        · exact HL.out i (by omega)
      have hw3 : IntKind.i64.wrap ((k : Int) + 1) = ((k + 1 : Nat) : Int) := by rw [IntKind.wrap_i64]; omega
      have HA3 : ∀ m : Nat, m = gt L k → ((ahdK L (k + 1) : Nat) : Int) = (m : Int) := fun m e => by rw [hA2, e]
      obtain ⟨a2, ha2⟩ : ∃ m, m = gt L k := ⟨_, rfl⟩
      have HA4 := Lib.hid (HA3 a2 ha2)
      rw [← ha2] at c0 hK hxb
      generalize ahdK L k = a at *
      clear HA3 hA2
      have hw4 : IntKind.i64.wrap (a2 : Int) = (a2 : Int) := by rw [IntKind.wrap_i64]; omega
      clear hx' hkL HSP HL HSK HX3 ha2
      by_cases t1 : (a2 : Int) ≤ (a : Int)
      · have HF : Hid (false = true ↔ P) := ⟨(fun h => by cases h), fun h => absurd h (hNo.out (fun hk => by have := (hK.out.1 hk).1; omega))⟩
        clear hK hNo hGo hxb hk
        go_wp2_with fail
        go_ret
        exact ⟨⟨false, rfl, HF.out⟩, HB3.out⟩
      · by_cases t2 : cB ≤ (a2 : Int)
        · have HF : Hid (false = true ↔ P) := ⟨(fun h => by cases h), fun h => absurd h (hNo.out (fun hk => by have := (hK.out.1 hk).2; omega))⟩
          clear hK hNo hGo hxb hk
          go_wp2_with fail
          go_ret
          exact ⟨.inl ⟨rfl, fun hp => by cases HF.out.2 hp⟩, HB3.out⟩
        · have HL2 := Lib.hid (hGo.out (hK.out.2 ⟨by omega, by omega⟩))
          clear hK hNo hGo hxb
          go_wp2_with fail
          go_roundg (n - (k + 1))
          case measure => omega
          case rel => exact ⟨k + 1, hlt, rfl, by rw [HA4.out], by go_num, HL2, rfl⟩
    · obtain rfl : k = n := by omega
      have HT : Hid P := Lib.hid (HSP.out.1.2 HL.out)
      clear HL HSP HSK HKA HX3 hlt hk
      go_wp2_with fail
      go_ret
      exact ⟨⟨true, rfl, fun _ => HT.out, fun _ => rfl⟩, HB3.out⟩
end No
end Go.Proofs.Ytgpbioljldkmaaa
