/-
  Contracts of the document's device: Image, New.
-/
import Derived.Test.YtjnbdmimflhhiaaDevRef
namespace Go.Proofs.Ytjnbdmimflhhiaa
open Go.RowKit
namespace Dv
open Mem

theorem strOf_append (a b : List UInt8) : strOf a ++ strOf b = strOf (a ++ b) := by
  apply ByteArray.ext
  simp [strOf]
theorem flat_take_le (ls : List (List UInt8)) (k : Nat) : (ls.take k).flatten.length ≤ ls.flatten.length := by
  have : ls.flatten = (ls.take k).flatten ++ (ls.drop k).flatten := by rw [← List.flatten_append, List.take_append_drop]
  rw [this, List.length_append]; omega
set_option maxHeartbeats 2000000 in
set_option maxRecDepth 100000 in
theorem RImage_any (m n c h : Nat) (v2 v3 : Value) (ls : List (List UInt8)) (w : World) (H : Rf w h c n ls) (hs : ls.flatten.length ≤ 1048576) :
    Calls Try.prog 16 #[.agg #[.int .i64 (m : Int), .slice (some ⟨h, 0, none⟩) n c, v2, v3]] w fun e w' => e = .returned (.string (strOf ls.flatten)) ∧ Below w.heap.size w w' := by
  have HH := Lib.hid H
  have hn := H.hi
  have hn1 := H.lo
  have HLEN := Lib.hid H.len
  have HS := Lib.hid hs
  clear H hs
  go_enter Try.func16, Try.ntmps16
  go_upto_region 3 with fail
  have hb : Below w.heap.size w (w.alloc (.cells #[.int .i64 (m : Int), .slice (some ⟨h, 0, none⟩) n c, v2, v3] 34)) := (Below.refl _ _).alloc (Nat.le_refl _) _
  have hbx := Box.new w (.int .i64 (m : Int)) (.slice (some ⟨h, 0, none⟩) n c) v2 v3
  have HH1 := Lib.hid (HH.out.kept hb)
  generalize w.alloc (.cells #[.int .i64 (m : Int), .slice (some ⟨h, 0, none⟩) n c, v2, v3] 34) = w1 at *
  obtain ⟨b0, e0⟩ : ∃ b0, b0 = w.heap.size := ⟨_, rfl⟩
  rw [← e0] at hbx
  simp only [← e0]
  have HBL := Lib.hid hb
  clear e0 hb
  obtain ⟨⟨c0, c1, c2, c3⟩, -⟩ := hbx.facts
  clear hbx c0 c2 c3
  go_loop [3, 4] (fun s i => ∃ k : Nat, k ≤ n ∧ i = .int .i64 k ∧ s = .string (strOf (ls.take k).flatten)) (fun _ i => n - (intOf i).toNat)
  case atStart => exact ⟨0, Nat.zero_le _, rfl, by simp [strOf]⟩
  case round =>
    obtain ⟨k, hk, rfl, rfl⟩ := hrel
    by_cases hlt : k < n
    · obtain ⟨x, hx⟩ : ∃ x, ls[k]? = some x := ⟨_, List.getElem?_eq_getElem (by rw [HLEN.out]; exact hlt)⟩
      have hc := HH1.out.cell hx
      have HX := Lib.hid hx
      have hfl : (ls.take (k + 1)).flatten = (ls.take k).flatten ++ x := by rw [List.take_add_one, hx]; simp
      have hsz : (strOf (ls.take k).flatten).size + (strOf x).size ≤ 1048576 := by
        rw [strOf_size, strOf_size, ← List.length_append, ← hfl]
        exact Nat.le_trans (flat_take_le ls (k + 1)) HS.out
      have HY : Hid (strOf (ls.take k).flatten ++ strOf x = strOf (ls.take (k + 1)).flatten) := by
        unfold Hid; rw [hfl, strOf_append]
      generalize strOf (ls.take k).flatten = y at *
      generalize strOf x = z at *
      clear hx hfl
      go_wp2
      go_round
      case rel => exact ⟨k + 1, by omega, by go_num, by rw [HY.out]⟩
      case measure => simp [intOf]; omega
    · obtain rfl : k = n := by omega
      have HE : Hid ((ls.take k).flatten = ls.flatten) := by unfold Hid; rw [List.take_of_length_le (by rw [HLEN.out]; exact Nat.le_refl _)]
      rw [HE.out]
      go_wp2
      go_ret
      exact ⟨rfl, HBL.out⟩

theorem cell_new (w : World) (u : Value) (U : TypeId) : (w.alloc (.cells #[u] U)).cell? ⟨w.heap.size, 0, none⟩ = some u := by
  have := heap_alloc_new w (.cells #[u] U)
  simp only [World.cell?, this]
  rfl
/-- what New, or From, of the document leaves -/
def RMade (w w' : World) (m n : Nat) (ls : List (List UInt8)) (e : Ending) : Prop := ∃ h c, e = .returned (.agg #[.int .i64 (m : Int), .slice (some ⟨h, 0, none⟩) n c, .int .i64 0, .int .i64 0]) ∧ Rf w' h c n ls ∧ w.heap.size ≤ h
/-- the state of a device that is being filled: its texts so far, its struct, the cell of the answer -/
structure Fill (w wr : World) (b0 m k : Nat) (A : Option Addr) (c : Nat) (vs : List Value) : Prop where
  vo : VO 9 wr (b0 + 2) A c vs
  len : vs.length = k
  bx : Box wr (b0 + 1) (.int .i64 (m : Int)) (.slice A k c) (.int .i64 0) (.int .i64 0)
  bz : Box wr b0 (.int .i64 0) (.slice none 0 0) (.int .i64 0) (.int .i64 0)
  bl : Below b0 w wr
  hs : w.heap.size = b0
theorem Fill.kept {w wr w' : World} {b0 m k : Nat} {A : Option Addr} {c : Nat} {vs : List Value} (H : Fill w wr b0 m k A c vs) (hb : Below wr.heap.size wr w') : Fill w w' b0 m k A c vs :=
  ⟨H.vo.kept hb, H.len, H.bx.kept hb, H.bz.kept hb, H.bl.trans (hb.mono (by have := H.bz.lt; omega)), H.hs⟩
/-- one more text appended, but not yet laid into the struct -/
structure Mid (w wr : World) (b0 m k : Nat) (A : Option Addr) (c : Nat) (A' : Option Addr) (c' : Nat) (vs : List Value) : Prop where
  vo : VO 9 wr (b0 + 2) A' c' vs
  len : vs.length = k + 1
  bx : Box wr (b0 + 1) (.int .i64 (m : Int)) (.slice A k c) (.int .i64 0) (.int .i64 0)
  bz : Box wr b0 (.int .i64 0) (.slice none 0 0) (.int .i64 0) (.int .i64 0)
  bl : Below b0 w wr
  hs : w.heap.size = b0
theorem Fill.mid {w wr w3 : World} {b0 m k : Nat} {A A' : Option Addr} {c c' : Nat} {vs : List Value} {u : Value} (H : Fill w wr b0 m k A c vs) (hd : Appd 9 (b0 + 2) wr w3 A A' c' (vs ++ [u])) : Mid w w3 b0 m k A c A' c' (vs ++ [u]) := by
  have hx := H.bx.lt
  have hz := H.bz.lt
  have hA : ∀ b, b < b0 + 2 → ∀ a, A = some a → a.block ≠ b := fun b hb a ha => by have := (H.vo.at_ a ha).1; omega
  exact ⟨hd.vo, by simp [H.len], (hd.block _ hx (hA _ (by omega))).trans H.bx, (hd.block _ hz (hA _ (by omega))).trans H.bz, H.bl.trans (hd.below.mono (by omega)), H.hs⟩
theorem Mid.kept {w wr w' : World} {b0 m k : Nat} {A A' : Option Addr} {c c' : Nat} {vs : List Value} (H : Mid w wr b0 m k A c A' c' vs) (hb : Below wr.heap.size wr w') : Mid w w' b0 m k A c A' c' vs :=
  ⟨H.vo.kept hb, H.len, H.bx.kept hb, H.bz.kept hb, H.bl.trans (hb.mono (by have := H.bz.lt; omega)), H.hs⟩
theorem Mid.set {w wr : World} {b0 m k : Nat} {A A' : Option Addr} {c c' : Nat} {vs : List Value} (H : Mid w wr b0 m k A c A' c' vs) : Fill w (wr.setCell ⟨b0 + 1, 1, none⟩ (.slice A' (k + 1) c')) b0 m (k + 1) A' c' vs := by
  have hA' : ∀ a, A' = some a → a.block ∉ [(⟨b0 + 1, 1, none⟩ : Addr).block] := fun a ha => by
    have := (H.vo.at_ a ha).1
    simp; omega
  exact ⟨H.vo.into (into_setCell wr _ _) hA', H.len, H.bx.set1 _, H.bz.other (by simp) _, H.bl.setCell (Nat.le_succ _) _, H.hs⟩
theorem Fill.done {w wr : World} {b0 m k : Nat} {A : Option Addr} {c : Nat} {ls : List (List UInt8)} (H : Fill w wr b0 m k A c (ls.map fun l => .string (strOf l))) (h0 : 1 ≤ k) (h1 : k ≤ 65536) (x y z u : Value) :
    ∃ h, A = some ⟨h, 0, none⟩ ∧ Rf ((((wr.setCell ⟨b0, 0, none⟩ x).setCell ⟨b0, 1, none⟩ y).setCell ⟨b0, 2, none⟩ z).setCell ⟨b0, 3, none⟩ u) h c k ls ∧ w.heap.size ≤ h := by
  have hl : ls.length = k := by have := H.len; simpa using this
  obtain ⟨h, rfl, hB, ho⟩ := H.vo.ow (by rw [H.len]; exact h0)
  refine ⟨h, rfl, ⟨ho.into (into_set4 wr x y z u) (by simp; omega), hl, h0, h1⟩, by rw [H.hs]; omega⟩

set_option maxHeartbeats 4000000 in
set_option maxRecDepth 100000 in
theorem RNew_any (n m : Nat) (w : World) (n1 : 1 ≤ n) (n2 : n ≤ 65536) (hm : m ≤ 65536) :
    Calls Try.prog 9 #[.int .i64 (n : Int), .int .i64 (m : Int)] w fun e w' => RMade w w' m n (List.replicate n (List.replicate m 0)) e ∧ Below w.heap.size w w' := by
  have hmk := fun w => run_make_at (P := Try.prog) Try.underlying42 u8info rfl (by omega) m (by omega) w
  go_enter Try.func9, Try.ntmps9
  go_upto_region 2 with fail
  obtain ⟨hb0, hb1, hbl⟩ := two_boxes w (.int .i64 0) (.slice none 0 0) (.int .i64 0) (.int .i64 0) (.int .i64 (m : Int)) (.slice none 0 0) (.int .i64 0) (.int .i64 0)
  generalize ((w.alloc (.cells #[.int .i64 0, .slice none 0 0, .int .i64 0, .int .i64 0] 34)).alloc (.cells #[.int .i64 (m : Int), .slice none 0 0, .int .i64 0, .int .i64 0] 34)) = w1 at *
  obtain ⟨b0, e0⟩ : ∃ b0, b0 = w.heap.size := ⟨_, rfl⟩
  rw [← e0] at hb0 hb1 hbl
  simp only [← e0]
  have HE := Lib.hid e0.symm
  have hcv : (convert 42 9 (.slice (some ⟨w1.heap.size, 0, none⟩) m m)).run Try.prog (w1.alloc (.cells (Array.replicate m (.int .u8 0)) 5)) = .ok (.string (strOf (List.replicate m 0))) (w1.alloc (.cells (Array.replicate m (.int .u8 0)) 5)) := by
    have hr : Row 5 (w1.alloc (.cells (Array.replicate m (.int .u8 0)) 5)) w1.heap.size (List.replicate m 0) := by
      have := Row.new 5 w1 (List.replicate m 0)
      simpa [bytesV, byteV] using this
    exact run_text_n Try.underlying42 Try.underlying5 Try.underlying9 hr.bl (by simp) m
  have hb2 : Below w1.heap.size w1 (w1.alloc (.cells (Array.replicate m (.int .u8 0)) 5)) := (Below.refl _ _).alloc (Nat.le_refl _) _
  have HF : Hid (Fill w (w1.alloc (.cells (Array.replicate m (.int .u8 0)) 5)) b0 m 0 none 0 []) :=
    ⟨VO.nil _ _ _, rfl, hb1.kept hb2, hb0.kept hb2, hbl.trans (hb2.mono (by have := hbl.size; omega)), HE.out⟩
  clear hb0 hb1 hbl hb2 e0
  go_upto_region 3 with fail
  generalize w1.alloc (.cells (Array.replicate m (.int .u8 0)) 5) = w2 at *
  obtain ⟨z, hz⟩ : ∃ z, z = strOf (List.replicate m 0) := ⟨_, rfl⟩
  rw [← hz]
  have HZ := Lib.hid hz
  clear hz hcv hmk
  go_upto_region 4 with fail
  go_loopw [7] (fun i wr => ∃ (k : Nat) (A : Option Addr) (c : Nat), k ≤ n ∧ i = .int .i64 k ∧ Hid (Fill w wr b0 m k A c (List.replicate k (.string z)))) (fun i _ => n - (intOf i).toNat)
  case atStart => exact ⟨0, none, 0, Nat.zero_le _, rfl, HF⟩
  case round =>
    obtain ⟨k, A, c, hk, rfl, HFk⟩ := hrel
    clear HF
    by_cases hlt : k < n
    · obtain ⟨⟨-, c1, -, -⟩, -⟩ := HFk.out.bx.facts
      have HV : Hid (VO 9 (wr.alloc (.cells #[.string z] 9)) (b0 + 2) A c (List.replicate k (.string z))) := HFk.out.vo.kept ((Below.refl _ _).alloc (Nat.le_refl _) _)
      have HC : Hid ((wr.alloc (.cells #[.string z] 9)).cell? ⟨wr.heap.size, 0, none⟩ = some (.string z)) := cell_new wr _ _
      have HK : Hid ((List.replicate k (Value.string z)).length = k) := by unfold Hid; simp
      have hk1 : k + 1 ≤ 1048576 := by omega
      have hB : b0 + 2 ≤ (wr.alloc (.cells #[.string z] 9)).heap.size := by have := HFk.out.bx.lt; simp; omega
      have hlt2 : b0 + 1 < wr.heap.size := HFk.out.bx.lt
      have HR : Hid (List.replicate k (Value.string z) ++ [.string z] = List.replicate (k + 1) (.string z)) := by unfold Hid; rw [List.replicate_succ']
      go_upto_region 5 with (with_reducible refine wpList_append_one rfl (.tmp 19) (.tmp 21) _ rfl 9 Try.underlying32 (.string ⟨#[]⟩) 16 strinfo rfl (by omega) (b0 + 2) A k c (List.replicate k (.string z)) rfl HK.out HV.out wr.heap.size 1 (.string z) rfl HC.out rfl hk1 hB ?_; intro A' c' w3 hd; have HD := Lib.hid ((HFk.out.kept ((Below.refl _ _).alloc (Nat.le_refl _) _)).mid hd.out); obtain ⟨⟨-, d1, -, -⟩, -, f1, -, -⟩ := HD.out.bx.facts; clear hd)
      have hfl := HD.out.set
      rw [HR.out] at hfl
      generalize w3.setCell ⟨b0 + 1, 1, none⟩ (.slice A' (k + 1) c') = w4 at *
      have HF4 := Lib.hid hfl
      clear hfl d1 f1 HD HV HC HK HR hB hlt2 hk1
      go_wp2_with fail
      go_roundw
      case rel => exact ⟨k + 1, A', c', by omega, by go_num, HF4⟩
      case measure => simp [intOf]; omega
    · obtain rfl : k = n := by omega
      have HFL : Hid (List.replicate k (Value.string z) = (List.replicate k (List.replicate m (0 : UInt8))).map fun l => .string (strOf l)) := by
        unfold Hid; rw [List.map_replicate, HZ.out]
      have hF := HFk.out
      rw [HFL.out] at hF
      have HF := Lib.hid hF
      obtain ⟨⟨c0, c1, c2, c3⟩, -⟩ := hF.bx.facts
      obtain ⟨⟨d0, d1, d2, d3⟩, f0, f1, f2, f3⟩ := hF.bz.facts
      clear hF
      go_wp2_with fail
      obtain ⟨h, hA, hR, hh⟩ := HF.out.done n1 n2 (.int .i64 (m : Int)) (.slice A k c) (.int .i64 0) (.int .i64 0)
      subst hA
      refine bodyPost_ret (v := .agg #[.int .i64 (m : Int), .slice (some ⟨h, 0, none⟩) k c, .int .i64 0, .int .i64 0]) (by simp [results, Try.results9, go_sem, d0, d1, d2, d3]) rfl ⟨⟨h, c, rfl, hR, hh⟩, ?_⟩
      rw [HE.out]
      exact below_set4 HF.out.bl (Nat.le_refl _) _ _ _ _
end Dv
end Go.Proofs.Ytjnbdmimflhhiaa
