/-
  Contracts of layer check: Sum, Right; the document's Join; the law's great and awake.
-/
import Derived.Test.YtambfgonjajhgaaCheckMore
import Derived.Test.YtambfgonjajhgaaTexts
import Derived.WalkSpells
import Derived.Lib.SlBytesConst
namespace Go.Proofs.Ytambfgonjajhgaa
open Go.RowKit
namespace Ck
open Mem

theorem u8info : (Try.prog.info? 5).map (fun i => (i.zero, i.size, i.bytes)) = some (some (.int .u8 0), 1, 1) := by kernel_rfl
theorem ret_bool {a b : Bool} (h : a = b) : Ending.returned (.bool a) = .returned (.bool b) := by rw [h]
theorem below_trans {a b c : World} (h : Below a.heap.size a b) (k : Below b.heap.size b c) : Below a.heap.size a c := h.trans (k.mono h.size)

set_option maxHeartbeats 1000000 in
theorem Sum_any (p : Option Addr) (c : Nat) (ls : List (List UInt8)) (w : World) (h : LL w p ls) (hl : ls.length ≤ 140737488355328) (hs : ∀ l ∈ ls, l.length ≤ 140737488355328) :
    Calls Try.prog 9 #[.slice p ls.length c] w fun e w' => e = .returned (.int .u32 (sum ls : Int)) ∧ w = w' := by
  have cM := fun s p c l h hl hs => Lib.hid (More_any s p c l w h hl hs)
  have HS := Lib.hid hs
  obtain ⟨n, hn⟩ : ∃ n, n = ls.length := ⟨_, rfl⟩
  have HN := Lib.hid hn
  rw [← hn] at hl ⊢
  have HB := Lib.hid h
  clear hn h hs
  go_enter Try.func9, Try.ntmps9
  go_wp2
  go_loopw [3, 8] (fun x i wr => ∃ k : Nat, k ≤ n ∧ i = .int .i64 k ∧ x = .int .u32 (sum (ls.take k) : Int) ∧ w = wr) (fun _ i _ => n - (intOf i).toNat)
  case atStart => exact ⟨0, Nat.zero_le _, rfl, rfl, rfl⟩
  case round =>
    obtain ⟨k, hk, rfl, rfl, rfl⟩ := hrel
    by_cases hlt : k < n
    · have hkl : k < ls.length := by rw [← HN.out]; exact hlt
      obtain ⟨b, o, A, c1, rfl, hc, hbl, -⟩ := HB.out.at_ hkl
      obtain ⟨l, hll⟩ : ∃ l, l = ls[k] := ⟨_, rfl⟩
      have HSK : Hid (sum (ls.take (k + 1)) = more (sum (ls.take k)) l) := by rw [hll]; exact sum_take ls hkl
      have hlm := HS.out l (by rw [hll]; exact List.getElem_mem _)
      rw [← hll] at hc hbl
      have cM1 := cM (sum (ls.take k)) A c1 l hbl hlm (sum_lt _)
      obtain ⟨q, hq⟩ : ∃ q, q = l.length := ⟨_, rfl⟩
      rw [← hq] at hc cM1
      clear hll hkl hlm hbl hq cM
      go_wp2_with (go_at_call 11; refine cM1.out.mono ?_; rintro e w1 ⟨rfl, rfl⟩)
      exact ⟨⟨k + 1, hlt, by go_num, by rw [HSK.out], trivial⟩, by simp [intOf]; omega⟩
    · obtain rfl : k = n := by omega
      clear cM
      go_wp2
      go_ret
      exact ⟨ret_u32 (by rw [List.take_of_length_le (by rw [HN.out]; exact Nat.le_refl _)]), rfl⟩

set_option maxHeartbeats 1000000 in
theorem Right_any (p : Option Addr) (c : Nat) (l : List UInt8) (s : Int) (w : World) (h : BL w p l) (hl : l.length ≤ c) (hs : l.length ≤ 140737488355328) :
    Calls Try.prog 13 #[.slice p l.length c, .int .u32 s] w fun e w' => e = .returned (.bool ((more 1 l : Int) == s)) ∧ Below w.heap.size w w' := by
  have cS := fun (w' : World) (g : Nat) (U : TypeId) (fl : Nat × Nat) (h1 : w'.heap[g]? = some (.cells #[.slice p l.length c] U fl)) (h2 : BL w' p l) => Lib.hid (Sum_any (some ⟨g, 0, none⟩) 1 [l] w' (LL.one h1 h2 hl) (by simp) (by simpa using hs))
  rw [sum_one] at cS
  have HB := Lib.hid h
  obtain ⟨n, hn⟩ : ∃ n, n = l.length := ⟨_, rfl⟩
  rw [← hn] at cS ⊢
  clear hn hl hs h
  go_enter Try.func13, Try.ntmps13
  go_wp2_with (go_at_call 9; refine (cS _ _ _ _ (heap_alloc_new w _) (HB.out.alloc _)).out.mono ?_; rintro e w1 ⟨rfl, rfl⟩)
  go_ret
  exact ⟨rfl, (Below.refl _ _).alloc (Nat.le_refl _) _⟩

/-- how long the first texts are together -/
def lens (ls : List (List UInt8)) : Nat := (ls.map List.length).sum
theorem lens_take (ls : List (List UInt8)) {k : Nat} (h : k < ls.length) : lens (ls.take (k + 1)) = lens (ls.take k) + ls[k].length := by
  unfold lens
  rw [List.take_succ_eq_append_getElem h, List.map_append, List.sum_append]; simp
theorem lens_flat (ls : List (List UInt8)) : ls.flatten.length = lens ls := by simp [lens, List.length_flatten]
def grB (ls : List (List UInt8)) : Bool := decide (60 < ls.length) || decide (20000 < lens (ls.take 100))
theorem grB_not {ls : List (List UInt8)} (h : grB ls = false) : ls.length ≤ 60 ∧ lens ls ≤ 20000 := by
  unfold grB at h
  simp only [Bool.or_eq_false_iff, decide_eq_false_iff_not] at h
  have h2 : ls.take 100 = ls := List.take_of_length_le (by omega)
  rw [h2] at h
  omega

set_option maxHeartbeats 1000000 in
theorem great_any (p : Option Addr) (c : Nat) (ls : List (List UInt8)) (w : World) (h : LL w p ls) (hl : ls.length ≤ 140737488355328) (hs : ∀ l ∈ ls, l.length ≤ 140737488355328) :
    Calls Try.prog 6 #[.slice p ls.length c] w fun e w' => e = .returned (.bool (grB ls)) ∧ w = w' := by
  have HS := Lib.hid hs
  have HG : Hid (grB ls = (decide (60 < ls.length) || decide (20000 < lens (ls.take 100)))) := Lib.hid rfl
  obtain ⟨n, hn⟩ : ∃ n, n = ls.length := ⟨_, rfl⟩
  obtain ⟨K, hK⟩ : ∃ K, K = min 100 n := ⟨_, rfl⟩
  have HK : Hid (ls.take 100 = ls.take K) := by
    unfold Hid
    rw [hK, hn]
    rcases Nat.lt_or_ge ls.length 100 with h | h
    · rw [Nat.min_eq_right (by omega), List.take_of_length_le (by omega), List.take_of_length_le (by omega)]
    · rw [Nat.min_eq_left h]
  have HN := Lib.hid hn
  rw [← hn] at hl HG ⊢
  have HB := Lib.hid h
  have hKn : (K ≤ n ∧ n ≤ K ∧ K ≤ 100) ∨ (K < n ∧ K ≤ 100 ∧ 100 ≤ K) := by omega
  clear hn h hs hK
  rcases hKn with ⟨k1, k2, k3⟩ | ⟨k1, k2, k3⟩
  all_goals
    go_enter Try.func6, Try.ntmps6
    go_wp2
    go_loopw [3, 4] (fun x i wr => ∃ (k u : Nat), k ≤ K ∧ i = .int .i64 k ∧ x = .int .i64 (u : Int) ∧ u ≤ k * 140737488355328 ∧ Hid (u = lens (ls.take k)) ∧ Hid (w = wr)) (fun _ i _ => K - (intOf i).toNat)
    case atStart => exact ⟨0, 0, by omega, rfl, rfl, by omega, by unfold Hid; simp [lens], rfl⟩
    case round =>
      obtain ⟨k, u, hk, rfl, rfl, hu, HU, HW⟩ := hrel
      by_cases hlt : k < K
      · have hkl : k < ls.length := by rw [← HN.out]; omega
        have hkn : k < n := by omega
        have hk100 : k < 100 := by omega
        obtain ⟨b, o, A, c1, rfl, hc, -, -⟩ := (show LL wr p ls from HW.out ▸ HB.out).at_ hkl
        obtain ⟨q, hq⟩ : ∃ q, q = ls[k].length := ⟨_, rfl⟩
        have hql : q ≤ 140737488355328 := by rw [hq]; exact HS.out _ (List.getElem_mem _)
        have HL : Hid (lens (ls.take (k + 1)) = lens (ls.take k) + q) := by rw [hq]; exact lens_take ls hkl
        rw [← hq] at hc
        clear hq hkl
        go_wp2
        exact ⟨⟨k + 1, u + q, hlt, by go_num, by go_num, by omega, by unfold Hid; rw [HL.out, HU.out], HW⟩, by simp [intOf]; omega⟩
      · obtain rfl : k = K := by omega
        rw [HK.out] at HG
        rw [← HU.out] at HG
        have h1 := HG.out
        have HG1 := Lib.hid h1
        clear HG h1
        by_cases g1 : 60 < n
        · have HG2 : Hid (grB ls = true) := by have := HG1.out; unfold Hid; rw [this]; simp [g1]
          clear HG1 HU
          go_wp2
          go_ret
          exact ⟨ret_bool (by rw [HG2.out] <;> simp <;> omega), HW.out⟩
        · have HG2 : Hid (grB ls = decide (20000 < u)) := by have := HG1.out; unfold Hid; rw [this]; simp [g1]
          clear HG1 HU
          go_wp2
          all_goals
            go_ret
            exact ⟨ret_bool (by rw [HG2.out, Bool.eq_iff_iff]; simp <;> omega), HW.out⟩

theorem own_block {U : TypeId} {w : World} {B : Nat} {v : Value} {l : List UInt8} (h : Own U w B v l) {g : Nat} (hg : v.ownBlock = some g) : B ≤ g := by
  obtain ⟨_, h2⟩ := h
  rcases h2 with ⟨rfl, _⟩ | ⟨g', cap, cur, rfl, hB, _⟩
  · simp [Value.ownBlock] at hg
  · have : g' = g := by simpa [Value.ownBlock] using hg
    omega

set_option maxHeartbeats 2000000 in
/-- all texts, one behind the other -/
theorem Join_any (p : Option Addr) (c : Nat) (ls : List (List UInt8)) (w : World) (h : LL w p ls) (hl : ls.length ≤ 1000000) (hs : lens ls ≤ 1000000) :
    Calls Try.prog 8 #[.slice p ls.length c] w fun e w' => ∃ (A : Option Addr) (c : Nat), e = .returned (.slice A ls.flatten.length c) ∧ BL w' A ls.flatten ∧ ls.flatten.length ≤ c ∧ Below w.heap.size w w' := by
  have HS : ∀ k, Hid (lens (ls.take k) ≤ 1000000) := fun k => by
    unfold Hid lens at *
    refine Nat.le_trans ?_ hs
    have h2 : ls.map List.length = (ls.take k).map List.length ++ (ls.drop k).map List.length := by rw [← List.map_append, List.take_append_drop]
    rw [h2, List.sum_append]; omega
  obtain ⟨n, hn⟩ : ∃ n, n = ls.length := ⟨_, rfl⟩
  have HN := Lib.hid hn
  rw [← hn] at hl ⊢
  have HB := Lib.hid h
  clear hn h hs
  go_enter Try.func8, Try.ntmps8
  go_wp2
  go_loopw [3, 4] (fun x i wr => ∃ k : Nat, k ≤ n ∧ i = .int .i64 k ∧ Hid (Own 5 wr w.heap.size x (ls.take k).flatten) ∧ Hid (Below w.heap.size w wr)) (fun _ i _ => n - (intOf i).toNat)
  case atStart => exact ⟨0, Nat.zero_le _, rfl, Own.lit 5 w w.heap.size [] (Nat.le_refl _) (by unfold maxLen; simp), (Below.refl _ _).alloc (Nat.le_refl _) _⟩
  case round =>
    obtain ⟨k, hk, rfl, HO, HW⟩ := hrel
    by_cases hlt : k < n
    · have hkl : k < ls.length := by rw [← HN.out]; exact hlt
      obtain ⟨b, o, A, c1, rfl, hc, hbl, -⟩ := (HB.out.below HW.out).at_ hkl
      obtain ⟨l, hll⟩ : ∃ l, l = ls[k] := ⟨_, rfl⟩
      have HF : Hid ((ls.take (k + 1)).flatten = (ls.take k).flatten ++ l) := by unfold Hid; rw [hll, List.take_succ_eq_append_getElem hkl, List.flatten_append]; simp
      rw [← hll] at hc hbl
      have HBL := Lib.hid hbl
      obtain ⟨q, hq⟩ : ∃ q, q = l.length := ⟨_, rfl⟩
      have HQ := Lib.hid hq
      rw [← hq] at hc
      clear hll hkl hbl hq
      go_wp2_with (at_builtin; refine wpList_append_bytes rfl (.tmp 12) (.tmp 16) _ rfl w.heap.size 5 Try.underlying24 u8info u3 (ls.take k).flatten rfl HO.out A q c1 l rfl HQ.out.symm HBL.out ?_ HW.out.size ?_)
      · have h1 := (HS (k + 1)).out
        rw [← lens_flat, HF.out, List.length_append, ← HQ.out] at h1
        omega
      intro v' w' ho hg hor
      have hb' : Below w.heap.size w w' := HW.out.grown hg HW.out.size (fun g hg' => own_block HO.out hg')
      have HB' := Lib.hid hb'
      clear hb' hg hor
      rw [← HF.out] at ho
      go_wp2
      exact ⟨⟨k + 1, hlt, by go_num, ho, HB'⟩, by simp [intOf]; omega⟩
    · obtain rfl : k = n := by omega
      go_wp2
      go_ret
      have h1 := HO.out
      rw [List.take_of_length_le (by rw [HN.out]; exact Nat.le_refl _)] at h1
      obtain ⟨A, c', rfl, hbl, hc⟩ := h1.slice
      exact ⟨A, c', rfl, hbl, hc, HW.out⟩

theorem more_a : more 1 [97] = 6422626 := by decide
theorem sum_none : sum [] = 1 := by decide
set_option maxHeartbeats 1000000 in
theorem awake_any (w : World) : Calls Try.prog 7 #[] w fun e w' => e = .returned (.bool true) ∧ Below w.heap.size w w' := by
  have c0 : ∀ w, Hid (Calls Try.prog 9 #[.slice none 0 0] w fun e w' => e = .returned (.int .u32 1) ∧ w = w') := fun w => Lib.hid (Sum_any none 0 [] w (LL.nil _ _) (by simp) (by simp))
  have hA : ∀ (w : World) (U : TypeId) (fl : Nat × Nat), Hid (BL (w.alloc (.cells #[.int .u8 97] U fl)) (some ⟨w.heap.size, 0, none⟩) [97]) := fun w U fl => Lib.hid fun _ => ⟨_, 0, rfl, fun i hi => by
    obtain rfl : i = 0 := by simpa using hi
    rw [World.cell?_alloc_mark]; rfl⟩
  have kc := fun (w : World) (C : Array Value) (n c : Nat) => Lib.run_convert_bytes_const (P := Try.prog) w 24 5 C n c Try.underlying24 Try.underlying5
  have c1 : ∀ (w : World) (U : TypeId) (fl : Nat × Nat) (U' : TypeId), Hid (Calls Try.prog 9 #[.slice (some ⟨w.heap.size + 1, 0, none⟩) 1 1] ((w.alloc (.cells #[.int .u8 97] U fl)).alloc (.cells #[.slice (some ⟨w.heap.size, 0, none⟩) 1 1] U')) fun e w'' => e = .returned (.int .u32 6422626) ∧ Below w.heap.size w w'') :=
    fun w U fl U' => Lib.hid (by
      have h1 : ((w.alloc (.cells #[.int .u8 97] U fl)).alloc (.cells #[.slice (some ⟨w.heap.size, 0, none⟩) 1 1] U')).heap[w.heap.size + 1]? = some (.cells #[.slice (some ⟨w.heap.size, 0, none⟩) 1 1] U') := by
        have := heap_alloc_new (w.alloc (.cells #[.int .u8 97] U fl)) (.cells #[.slice (some ⟨w.heap.size, 0, none⟩) 1 1] U')
        simpa using this
      have h2 := (hA w U fl).out.alloc (.cells #[.slice (some ⟨w.heap.size, 0, none⟩) 1 1] U')
      have := Sum_any (some ⟨w.heap.size + 1, 0, none⟩) 1 [[97]] _ (LL.one (l := [97]) h1 h2 (by decide)) (by simp) (by simp)
      rw [sum_one, more_a] at this
      exact this.mono fun e w'' ⟨he, hw⟩ => ⟨he, by rw [← hw]; exact ((Below.refl _ _).alloc (Nat.le_refl _) _).alloc (by simp) _⟩)
  have c2 : ∀ (w' : World) (p : Option Addr), BL w' p [97] → Hid (Calls Try.prog 13 #[.slice p 1 1, .int .u32 6422626] w' fun e w'' => e = .returned (.bool true) ∧ Below w'.heap.size w' w'') :=
    fun w' p h2 => Lib.hid (by
      have := Right_any p 1 [97] 6422626 w' h2 (by decide) (by decide)
      rw [more_a] at this
      exact this)
  go_enter Try.func7, Try.ntmps7
  go_wp2_with (first
    | (go_at_call_of 9 (Value.slice none 0 0); refine (c0 _).out.mono ?_; rintro e w1 ⟨rfl, rfl⟩)
    | (go_at_call 9; refine (c1 _ _ _ _).out.mono ?_; rintro e w1 ⟨rfl, hb⟩; have HB1 := Lib.hid hb; clear hb)
    | (go_at_call 13; refine (c2 _ _ (hA _ _ _).out).out.mono ?_; rintro e w2 ⟨rfl, hb⟩; have HB2 := Lib.hid hb; clear hb))
  go_ret
  exact ⟨rfl, below_trans (below_trans HB1.out ((Below.refl _ _).alloc (Nat.le_refl _) _)) HB2.out⟩
end Ck
end Go.Proofs.Ytambfgonjajhgaa
