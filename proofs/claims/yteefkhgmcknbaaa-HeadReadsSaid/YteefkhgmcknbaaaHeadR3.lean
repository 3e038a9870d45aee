/-
  The document's head: Decode. Written by scripts/headr3.py.
-/
import Derived.Test.YteefkhgmcknbaaaHeadR2
import Derived.Test.YteefkhgmcknbaaaRowE
namespace Go.Proofs.Yteefkhgmcknbaaa
open Go.RowKit
namespace No
open Mem Bu
open Wd (be val be_length val_be isW)
def zeroHd : Hdr := ⟨⟨0, 0, 0, 0, 0, 0, 0, 0⟩, 0, 0⟩
/-- what Decode tells -/
def HdP (b : List UInt8) (h : Hdr) (ok : Bool) : Prop := (ok = true ∧ HdOk h ∧ headL h = b) ∨ (ok = false ∧ h = zeroHd ∧ ∀ k, ¬ (HdOk k ∧ headL k = b))
theorem HdP.one {b : List UInt8} {h k : Hdr} {p q : Bool} (h1 : HdP b h p) (h2 : HdP b k q) : h = k ∧ p = q := by
  rcases h1 with ⟨rfl, a1, a2⟩ | ⟨rfl, rfl, a3⟩ <;> rcases h2 with ⟨rfl, b1, b2⟩ | ⟨rfl, rfl, b3⟩
  · exact ⟨head_inj a1 b1 (a2.trans b2.symm), rfl⟩
  · exact absurd ⟨a1, a2⟩ (b3 _)
  · exact absurd ⟨b1, b2⟩ (a3 _)
  · exact ⟨rfl, rfl⟩
theorem HdP.some (b : List UInt8) : ∃ h p, HdP b h p := by
  by_cases h : ∃ k, HdOk k ∧ headL k = b
  · obtain ⟨k, h1, h2⟩ := h
    exact ⟨k, true, .inl ⟨rfl, h1, h2⟩⟩
  · exact ⟨zeroHd, false, .inr ⟨rfl, rfl, fun k hk => h ⟨k, hk⟩⟩⟩
theorem zero_no : ¬ HdOk zeroHd := fun h => by
  have := h.2.1
  exact absurd this (by decide)
/-- ints in a row -/
def IntK : Kind Nat := ⟨3, 1, fun n => [.int .i64 (n : Int)], fun _ => rfl, fun m u hu => by
  obtain rfl : u = .int .i64 (m : Int) := by simpa using hu
  rfl⟩
theorem intinfo : (Try.prog.info? 3).map (fun i => (i.zero, i.size, i.bytes)) = some (some (.int .i64 0), 1, 8) := by kernel_rfl
theorem VK.int {w : World} {B c : Nat} {A : Option Addr} {L : List Nat} (h : VK IntK w B A c L) (h0 : 0 < L.length) : ∃ g, A = some ⟨g, 0, none⟩ ∧ ∀ (k x : Nat), L[k]? = some x → w.cell? ⟨g, k, none⟩ = some (.int .i64 (x : Int)) := by
  obtain ⟨g, e, -⟩ := VK.cell h (List.getElem?_eq_getElem h0)
  refine ⟨g, e, fun k x hx => ?_⟩
  obtain ⟨g', e', hc⟩ := VK.cell h hx
  rw [e] at e'
  cases e'
  have := hc 0 (.int .i64 (x : Int)) rfl
  simpa [IntK] using this
theorem at_lt4 (b : List UInt8) (i : Nat) : atL b i 4 < 4294967296 := by
  have h1 := Wd.val_lt ((b.drop i).take 4)
  have h2 : ((b.drop i).take 4).length ≤ 4 := List.length_take_le _ _
  have h3 : 256 ^ ((b.drop i).take 4).length ≤ 256 ^ 4 := Nat.pow_le_pow_right (by decide) h2
  unfold atL
  omega
def set10 (w : World) (b : Nat) (v0 v1 v2 v3 v4 v5 v6 v7 v8 v9 : Value) : World := (((((((((w.setCell ⟨b, 0, none⟩ v0).setCell ⟨b, 1, none⟩ v1).setCell ⟨b, 2, none⟩ v2).setCell ⟨b, 3, none⟩ v3).setCell ⟨b, 4, none⟩ v4).setCell ⟨b, 5, none⟩ v5).setCell ⟨b, 6, none⟩ v6).setCell ⟨b, 7, none⟩ v7).setCell ⟨b, 8, none⟩ v8).setCell ⟨b, 9, none⟩ v9
theorem set10_at {w : World} {b : Nat} {u0 u1 u2 u3 u4 u5 u6 u7 u8 u9 : Value} {U : TypeId} (h : w.heap[b]? = some (.cells #[u0, u1, u2, u3, u4, u5, u6, u7, u8, u9] U (0, 0))) (v0 v1 v2 v3 v4 v5 v6 v7 v8 v9 : Value) : (set10 w b v0 v1 v2 v3 v4 v5 v6 v7 v8 v9).heap[b]? = some (.cells #[v0, v1, v2, v3, v4, v5, v6, v7, v8, v9] U (0, 0)) := by
  unfold set10
  simp [World.setCell, Array.getElem?_modify, h]
theorem below_set10 {B b : Nat} {a w : World} (h : Below B a w) (hb : B ≤ b) (v0 v1 v2 v3 v4 v5 v6 v7 v8 v9 : Value) : Below B a (set10 w b v0 v1 v2 v3 v4 v5 v6 v7 v8 v9) := by
  unfold set10
  exact (((((((((h.setCell hb _).setCell hb _).setCell hb _).setCell hb _).setCell hb _).setCell hb _).setCell hb _).setCell hb _).setCell hb _).setCell hb _
theorem free10 {w : World} {b : Nat} {C : Array Value} {U : TypeId} (h : w.heap[b]? = some (.cells C U (0, 0))) (i : Nat) : w.frozen? ⟨b, i, none⟩ = false := by
  simp [World.frozen?, h]
set_option maxRecDepth 100000 in
set_option maxHeartbeats 8000000 in
theorem RHDecode_any (b : ByteArray) (hs : b.size ≤ 1000000) (W : World) (hd : Hdr) (ok : Bool) (hp : HdP (txt b) hd ok) : Calls Try.prog 13 #[.string b] W fun e w' => e = .returned (.tuple #[.agg (hdCs hd), .bool ok]) ∧ Below W.heap.size W w' := by
  by_cases hsz : b.size < 64
  case pos =>
    obtain ⟨rfl, rfl⟩ := hp.one (.inr ⟨rfl, rfl, fun k hk => by
      have h1 := head_len hk.1
      have h2 := hd_bytes hk.1
      rw [hk.2, txt_len] at h1
      omega⟩ : HdP (txt b) zeroHd false)
    have hlt : ((b.size : Nat) : Int) < 64 := by omega
    have HV : Hid (hdCs zeroHd = #[.int .i64 0, .int .i64 0, .int .i64 0, .int .i64 0, .int .i64 0, .int .i64 0, .int .i64 0, .int .i64 0, .int .u32 0, .int .i64 0]) := rfl
    rw [HV.out]
    clear hp hs hsz HV
    go_enter Try.func13, Try.ntmps13
    go_upto_region 1 with fail
    have hz := heap_alloc_new W (.cells #[.int .i64 0, .int .i64 0, .int .i64 0, .int .i64 0, .int .i64 0, .int .i64 0, .int .i64 0, .int .i64 0, .int .u32 0, .int .i64 0] 32)
    have hb : Below W.heap.size W (W.alloc (.cells #[.int .i64 0, .int .i64 0, .int .i64 0, .int .i64 0, .int .i64 0, .int .i64 0, .int .i64 0, .int .i64 0, .int .u32 0, .int .i64 0] 32)) := (Below.refl _ _).alloc (Nat.le_refl _) _
    have hgl : W.heap.size < (W.alloc (.cells #[.int .i64 0, .int .i64 0, .int .i64 0, .int .i64 0, .int .i64 0, .int .i64 0, .int .i64 0, .int .i64 0, .int .u32 0, .int .i64 0] 32)).heap.size := by simp
    generalize W.alloc (.cells #[.int .i64 0, .int .i64 0, .int .i64 0, .int .i64 0, .int .i64 0, .int .i64 0, .int .i64 0, .int .i64 0, .int .u32 0, .int .i64 0] 32) = w1 at *
    obtain ⟨g, hg⟩ : ∃ g, g = W.heap.size := ⟨_, rfl⟩
    rw [← hg] at hz hgl
    have HWG : Hid (W.heap.size ≤ g) := Nat.le_of_eq hg.symm
    have HGL := Lib.hid hgl
    simp only [← hg]
    have HZ := Lib.hid hz
    have HB := Lib.hid hb
    clear hg hz hb hgl
    obtain ⟨y0, y1, y2, y3, y4, y5, y6, y7, y8, y9⟩ := box10 HZ.out
    have fz := free10 HZ.out
    have HU := Lib.hid (set10_at HZ.out (.int .i64 0) (.int .i64 0) (.int .i64 0) (.int .i64 0) (.int .i64 0) (.int .i64 0) (.int .i64 0) (.int .i64 0) (.int .u32 0) (.int .i64 0))
    have HBW := Lib.hid (below_set10 HB.out HWG.out (.int .i64 0) (.int .i64 0) (.int .i64 0) (.int .i64 0) (.int .i64 0) (.int .i64 0) (.int .i64 0) (.int .i64 0) (.int .u32 0) (.int .i64 0))
    unfold set10 at HU HBW
    go_wp2_with fail
    generalize (((((((((w1.setCell ⟨g, 0, none⟩ (.int .i64 0)).setCell ⟨g, 1, none⟩ (.int .i64 0)).setCell ⟨g, 2, none⟩ (.int .i64 0)).setCell ⟨g, 3, none⟩ (.int .i64 0)).setCell ⟨g, 4, none⟩ (.int .i64 0)).setCell ⟨g, 5, none⟩ (.int .i64 0)).setCell ⟨g, 6, none⟩ (.int .i64 0)).setCell ⟨g, 7, none⟩ (.int .i64 0)).setCell ⟨g, 8, none⟩ (.int .u32 0)).setCell ⟨g, 9, none⟩ (.int .i64 0) = w91 at *
    clear y0 y1 y2 y3 y4 y5 y6 y7 y8 y9 fz
    obtain ⟨y0, y1, y2, y3, y4, y5, y6, y7, y8, y9⟩ := box10 HU.out
    exact bodyPost_ret (v := .tuple #[.agg #[.int .i64 0, .int .i64 0, .int .i64 0, .int .i64 0, .int .i64 0, .int .i64 0, .int .i64 0, .int .i64 0, .int .u32 0, .int .i64 0], .bool false]) (by simp [results, Try.results13, go_sem, y0, y1, y2, y3, y4, y5, y6, y7, y8, y9]) rfl ⟨rfl, HBW.out⟩
  have hge : ¬ (((b.size : Nat) : Int) < 64) := by omega
  have hdec : decide (((b.size : Nat) : Int) < 64) = false := decide_eq_false hge
  obtain ⟨L, hL⟩ : ∃ L : List Nat, L = (List.range 10).map fun k => atL (txt b) (8 + 4 * k) 4 := ⟨_, rfl⟩
  have hLk : ∀ k, k < 10 → L[k]? = some (atL (txt b) (8 + 4 * k) 4) := fun k hk => by
    rw [hL, List.getElem?_map, List.getElem?_range hk]
    rfl
  have hLl : L.length = 10 := by rw [hL, List.length_map, List.length_range]
  obtain ⟨x0, hx0⟩ : ∃ x, x = atL (txt b) 8 4 := ⟨_, rfl⟩
  obtain ⟨x1, hx1⟩ : ∃ x, x = atL (txt b) 12 4 := ⟨_, rfl⟩
  obtain ⟨x2, hx2⟩ : ∃ x, x = atL (txt b) 16 4 := ⟨_, rfl⟩
  obtain ⟨x3, hx3⟩ : ∃ x, x = atL (txt b) 20 4 := ⟨_, rfl⟩
  obtain ⟨x4, hx4⟩ : ∃ x, x = atL (txt b) 24 4 := ⟨_, rfl⟩
  obtain ⟨x5, hx5⟩ : ∃ x, x = atL (txt b) 28 4 := ⟨_, rfl⟩
  obtain ⟨x6, hx6⟩ : ∃ x, x = atL (txt b) 32 4 := ⟨_, rfl⟩
  obtain ⟨x7, hx7⟩ : ∃ x, x = atL (txt b) 36 4 := ⟨_, rfl⟩
  obtain ⟨x8, hx8⟩ : ∃ x, x = atL (txt b) 40 4 := ⟨_, rfl⟩
  obtain ⟨x9, hx9⟩ : ∃ x, x = atL (txt b) 44 4 := ⟨_, rfl⟩
  have hcand : hCand (txt b) = ⟨⟨x0, x1, x2, x3, x4, x5, x6, x7⟩, x8, x9⟩ := by
    unfold hCand
    rw [hx0, hx1, hx2, hx3, hx4, hx5, hx6, hx7, hx8, hx9]
  have hx8l : x8 < 4294967296 := by rw [hx8]; exact at_lt4 _ _
  have l0 : L[0]? = some x0 := by rw [hx0]; exact hLk 0 (by decide)
  have l1 : L[1]? = some x1 := by rw [hx1]; exact hLk 1 (by decide)
  have l2 : L[2]? = some x2 := by rw [hx2]; exact hLk 2 (by decide)
  have l3 : L[3]? = some x3 := by rw [hx3]; exact hLk 3 (by decide)
  have l4 : L[4]? = some x4 := by rw [hx4]; exact hLk 4 (by decide)
  have l5 : L[5]? = some x5 := by rw [hx5]; exact hLk 5 (by decide)
  have l6 : L[6]? = some x6 := by rw [hx6]; exact hLk 6 (by decide)
  have l7 : L[7]? = some x7 := by rw [hx7]; exact hLk 7 (by decide)
  have l8 : L[8]? = some x8 := by rw [hx8]; exact hLk 8 (by decide)
  have l9 : L[9]? = some x9 := by rw [hx9]; exact hLk 9 (by decide)
  obtain ⟨t, ht⟩ := bool_of (HdOk ⟨⟨x0, x1, x2, x3, x4, x5, x6, x7⟩, x8, x9⟩)
  have cR : ∀ w, Hid (Calls Try.prog 7 #[.agg #[.int .i64 (x0 : Int), .int .i64 (x1 : Int), .int .i64 (x2 : Int), .int .i64 (x3 : Int), .int .i64 (x4 : Int), .int .i64 (x5 : Int), .int .i64 (x6 : Int), .int .i64 (x7 : Int), .int .u32 (x8 : Int), .int .i64 (x9 : Int)]] w fun e w' => e = .returned (.bool t) ∧ Below w.heap.size w w') := fun w => RHRight_any ⟨⟨x0, x1, x2, x3, x4, x5, x6, x7⟩, x8, x9⟩ hx8l w t ht
  have cBk : t = true → ∀ w, Hid (Calls Try.prog 11 #[.agg #[.int .i64 (x0 : Int), .int .i64 (x1 : Int), .int .i64 (x2 : Int), .int .i64 (x3 : Int), .int .i64 (x4 : Int), .int .i64 (x5 : Int), .int .i64 (x6 : Int), .int .i64 (x7 : Int), .int .u32 (x8 : Int), .int .i64 (x9 : Int)]] w fun e w' => e = .returned (.string (strOf (headL ⟨⟨x0, x1, x2, x3, x4, x5, x6, x7⟩, x8, x9⟩))) ∧ Below w.heap.size w w') := fun h w => RHBlock_any ⟨⟨x0, x1, x2, x3, x4, x5, x6, x7⟩, x8, x9⟩ (ht.1 h) w
  obtain ⟨bl, hbl⟩ : ∃ s, s = strOf (headL ⟨⟨x0, x1, x2, x3, x4, x5, x6, x7⟩, x8, x9⟩) := ⟨_, rfl⟩
  rw [← hbl] at cBk
  have HNO : Hid ((t = false ∨ bl ≠ b) → hdCs hd = #[.int .i64 0, .int .i64 0, .int .i64 0, .int .i64 0, .int .i64 0, .int .i64 0, .int .i64 0, .int .i64 0, .int .u32 0, .int .i64 0] ∧ ok = false) := fun h => by
    have h9 : HdP (txt b) zeroHd false := .inr ⟨rfl, rfl, fun k hk => by
      have h1 : hCand (txt b) = k := by rw [← hk.2]; exact head_cand hk.1
      rw [hcand] at h1
      rcases h with h | h
      · rw [h1] at ht
        rw [ht.2 hk.1] at h
        cases h
      · refine h ?_
        rw [hbl, h1, hk.2, strOf_txt]⟩
    obtain ⟨rfl, rfl⟩ := hp.one h9
    exact ⟨rfl, rfl⟩
  have HYES : Hid (t = true → bl = b → hdCs hd = #[.int .i64 (x0 : Int), .int .i64 (x1 : Int), .int .i64 (x2 : Int), .int .i64 (x3 : Int), .int .i64 (x4 : Int), .int .i64 (x5 : Int), .int .i64 (x6 : Int), .int .i64 (x7 : Int), .int .u32 (x8 : Int), .int .i64 (x9 : Int)] ∧ ok = true) := fun h1 h2 => by
    have h9 : HdP (txt b) ⟨⟨x0, x1, x2, x3, x4, x5, x6, x7⟩, x8, x9⟩ true := .inl ⟨rfl, ht.1 h1, by rw [← h2, hbl, txt_strOf]⟩
    obtain ⟨rfl, rfl⟩ := hp.one h9
    exact ⟨rfl, rfl⟩
  have HLK := Lib.hid hLk
  have HL10 : Hid (L[0]? = some x0 ∧ L[1]? = some x1 ∧ L[2]? = some x2 ∧ L[3]? = some x3 ∧ L[4]? = some x4 ∧ L[5]? = some x5 ∧ L[6]? = some x6 ∧ L[7]? = some x7 ∧ L[8]? = some x8 ∧ L[9]? = some x9) := ⟨l0, l1, l2, l3, l4, l5, l6, l7, l8, l9⟩
  have HLL := Lib.hid hLl
  have hxu : IntKind.u32.wrap (x8 : Int) = (x8 : Int) := by rw [IntKind.wrap_u32]; omega
  have HBS := Lib.hid hs
  have HGE : Hid (64 ≤ b.size) := by unfold Hid; omega
  generalize hdCs hd = hv at *
  clear hp hcand hx8l ht hbl hLk hLl hL hs hsz hge l0 l1 l2 l3 l4 l5 l6 l7 l8 l9 hx0 hx1 hx2 hx3 hx4 hx5 hx6 hx7 hx8 hx9
  go_enter Try.func13, Try.ntmps13
  go_upto_region 1 with fail
  have hz := heap_alloc_new W (.cells #[.int .i64 0, .int .i64 0, .int .i64 0, .int .i64 0, .int .i64 0, .int .i64 0, .int .i64 0, .int .i64 0, .int .u32 0, .int .i64 0] 32)
  have hb : Below W.heap.size W (W.alloc (.cells #[.int .i64 0, .int .i64 0, .int .i64 0, .int .i64 0, .int .i64 0, .int .i64 0, .int .i64 0, .int .i64 0, .int .u32 0, .int .i64 0] 32)) := (Below.refl _ _).alloc (Nat.le_refl _) _
  have hgl : W.heap.size < (W.alloc (.cells #[.int .i64 0, .int .i64 0, .int .i64 0, .int .i64 0, .int .i64 0, .int .i64 0, .int .i64 0, .int .i64 0, .int .u32 0, .int .i64 0] 32)).heap.size := by simp
  generalize W.alloc (.cells #[.int .i64 0, .int .i64 0, .int .i64 0, .int .i64 0, .int .i64 0, .int .i64 0, .int .i64 0, .int .i64 0, .int .u32 0, .int .i64 0] 32) = w1 at *
  obtain ⟨g, hg⟩ : ∃ g, g = W.heap.size := ⟨_, rfl⟩
  rw [← hg] at hz hgl
  have HWG : Hid (W.heap.size ≤ g) := Nat.le_of_eq hg.symm
  have HGL := Lib.hid hgl
  simp only [← hg]
  have HZ := Lib.hid hz
  have HB := Lib.hid hb
  clear hg hz hb hgl
  go_upto_region 4 with fail
  have hl := VK.lit (K := IntK) w1 w1.heap.size (Nat.le_refl _)
  have hb : Below w1.heap.size w1 (w1.alloc (.cells #[] 3)) := (Below.refl _ _).alloc (Nat.le_refl _) _
  have HL0 : Hid (VK IntK (w1.alloc (.cells #[] 3)) w1.heap.size (some ⟨w1.heap.size, 0, none⟩) 0 []) := hl
  generalize w1.alloc (.cells #[] 3) = w2 at *
  obtain ⟨A0, hA0⟩ : ∃ A, A = some (⟨w1.heap.size, 0, none⟩ : Addr) := ⟨_, rfl⟩
  rw [← hA0] at HL0
  simp only [← hA0]
  obtain ⟨B0, hB0⟩ : ∃ B0, B0 = w1.heap.size := ⟨_, rfl⟩
  rw [← hB0] at HL0 hb HGL
  have HB2 : Hid (Below B0 w1 w2) := hb
  have HBB : Hid (B0 = w1.heap.size) := hB0
  clear hl hb hA0 hB0
  go_wp2_with fail
  go_loopg [4, 5] 10 (fun gk lv iv wr => ∃ (i : Nat) (A : Option Addr) (cc : Nat), i ≤ 10 ∧ gk = 10 - i ∧ iv = .int .i64 (i : Int) ∧ lv = .slice A i cc ∧ Hid (VK IntK wr B0 A cc (L.take i)) ∧ Hid (Below B0 w1 wr))
  case atStart => exact ⟨0, A0, 0, by omega, rfl, rfl, rfl, HL0, HB2⟩
  case round =>
    obtain ⟨i, A, cc, hi, rfl, rfl, rfl, HV, HK⟩ := hrel
    by_cases hlt : i < 10
    · have hli : (i : Int) < 10 := by omega
      have hxi := HLK.out i hlt
      have HBSI : Hid (8 + 4 * i + 4 ≤ b.size) := by have := HGE.out; unfold Hid; omega
      have htl : (L.take i).length = i := by rw [List.length_take, HLL.out]; omega
      have HTL := Lib.hid htl
      have HNX : Hid (L.take i ++ [atL (txt b) (8 + 4 * i) 4] = L.take (i + 1)) := by
        unfold Hid
        rw [List.take_add_one, hxi]
        rfl
      obtain ⟨xi, hxe⟩ : ∃ x, x = atL (txt b) (8 + 4 * i) 4 := ⟨_, rfl⟩
      rw [← hxe] at HNX
      have HXE := Lib.hid hxe
      have hm1 : i + 1 ≤ 1048576 := by omega
      clear hxi hxe htl
      go_upto_block 2 with fail
      go_cut [6] (fun v wx => v = .int .i64 (xi : Int) ∧ wx = wr)
      case first =>
        go_wp2_with fail
        go_loopg [6, 7] 4 (fun gk vv kv wq => ∃ (k m : Nat), k ≤ 4 ∧ gk = 4 - k ∧ kv = .int .i64 (k : Int) ∧ vv = .int .i64 (m : Int) ∧ Hid (m = atL (txt b) (8 + 4 * i) k) ∧ wq = wr)
        case atStart => exact ⟨0, 0, by omega, rfl, rfl, rfl, rfl, rfl⟩
        case round =>
          obtain ⟨k, m, hk, rfl, rfl, rfl, HM, rfl⟩ := hrel
          by_cases hlk : k < 4
          · have hkk : (k : Int) < 4 := by omega
            have hik : 8 + 4 * i + k < b.size := by have := HBSI.out; omega
            have hm : m < 16777216 := by rw [HM.out]; exact at_lt _ _ (by omega)
            obtain ⟨x, hx⟩ : ∃ x : Nat, x = b[8 + 4 * i + k].toNat := ⟨_, rfl⟩
            have hx2 : x < 256 := by rw [hx]; exact UInt8.toNat_lt _
            obtain ⟨m2, hm2⟩ : ∃ m2 : Nat, m2 = 256 * m + x := ⟨_, rfl⟩
            have HM2 : Hid (m2 = atL (txt b) (8 + 4 * i) (k + 1)) := by
              unfold Hid
              rw [at_succ hik, ← HM.out, hm2, hx]
            obtain ⟨i4, hi4⟩ : ∃ i4 : Nat, i4 = 4 * i := ⟨_, rfl⟩
            obtain ⟨i8, hi8⟩ : ∃ i8 : Nat, i8 = 8 + i4 := ⟨_, rfl⟩
            obtain ⟨j, hj⟩ : ∃ j : Nat, j = i8 + k := ⟨_, rfl⟩
            obtain ⟨mm, hmm⟩ : ∃ mm : Nat, mm = 256 * m := ⟨_, rfl⟩
            have hw1 : IntKind.i64.wrap (4 * (i : Int)) = (i4 : Int) := by rw [IntKind.wrap_i64]; omega
            have hw2 : IntKind.i64.wrap (8 + (i4 : Int)) = (i8 : Int) := by rw [IntKind.wrap_i64]; omega
            have hw3 : IntKind.i64.wrap ((i8 : Int) + (k : Int)) = (j : Int) := by rw [IntKind.wrap_i64]; omega
            have hw4 : IntKind.i64.wrap (256 * (m : Int)) = (mm : Int) := by rw [IntKind.wrap_i64]; omega
            have hw5 : IntKind.i64.wrap ((mm : Int) + (x : Int)) = (m2 : Int) := by rw [IntKind.wrap_i64]; omega
            have hwx : IntKind.i64.wrap (x : Int) = (x : Int) := by rw [IntKind.wrap_i64]; omega
            have hje : j = 8 + 4 * i + k := by omega
            have hix : ∀ w, (Instr.index 9 (.string b) (.int .i64 (j : Int))).run Try.prog w = .ok (.int .u8 (x : Int)) w := fun w => by
              subst hje
              rw [run_index_string w _ b .i64 _ Try.underlying9, dif_pos ⟨by omega, by omega⟩, hx]
              rfl
            clear hm hm2 hx hik hi4 hi8 hj hje hmm hx2
            go_wp2_with fail
            go_roundg (4 - (k + 1))
            case measure => omega
            case rel => exact ⟨k + 1, m2, hlk, rfl, by go_num, rfl, HM2, rfl⟩
          · obtain rfl : k = 4 := by omega
            have hme : (m : Int) = (xi : Int) := by rw [HM.out, HXE.out]
            go_wp2_with fail
            go_meet
            exact ⟨congrArg (Value.int .i64) hme, rfl⟩
      case rest =>
      obtain ⟨rfl, rfl⟩ := hcut
      have hcl := heap_alloc_new wc (.cells #[.int .i64 (xi : Int)] 3)
      have hbl : Below wc.heap.size wc (wc.alloc (.cells #[.int .i64 (xi : Int)] 3)) := (Below.refl _ _).alloc (Nat.le_refl _) _
      have HCL := Lib.hid hcl
      have HV2 := Lib.hid (HV.out.kept hbl)
      have HK2 : Hid (Below B0 w1 (wc.alloc (.cells #[.int .i64 (xi : Int)] 3))) := HK.out.trans (hbl.mono (Nat.le_trans (Nat.le_of_eq HBB.out) HK.out.size))
      have hBx := Nat.le_trans (Nat.le_of_eq HBB.out) HK2.out.size
      clear hcl hbl
      go_wp2_with (at_builtin; refine wpList_appendK (K := IntK) Try.underlying52 intinfo rfl (by decide) (by decide) rfl (.tmp 33) (.tmp 35) rfl B0 A i cc (L.take i) rfl HTL.out HV2.out wc.heap.size 1 xi rfl HCL.out hm1 hBx ?_; intro A5 c5 w5 hd'; have HVN := hd'.out.vo; have HKN : Hid (Below B0 w1 w5) := HK2.out.trans hd'.out.below; rw [HNX.out] at HVN; have HVN2 := Lib.hid HVN; clear HVN hd')
      go_roundg (10 - (i + 1))
      case measure => omega
      case rel => exact ⟨i + 1, A5, c5, hlt, rfl, by go_num, rfl, HVN2, HKN⟩
    · obtain rfl : i = 10 := by omega
      have htk : L.take 10 = L := by rw [← HLL.out, List.take_length]
      rw [htk] at HV
      obtain ⟨rg, rfl, hc⟩ := VK.int HV.out (by rw [HLL.out]; decide)
      obtain ⟨l0, l1, l2, l3, l4, l5, l6, l7, l8, l9⟩ := HL10.out
      have c0 := hc 0 x0 l0
      have c1 := hc 1 x1 l1
      have c2 := hc 2 x2 l2
      have c3 := hc 3 x3 l3
      have c4 := hc 4 x4 l4
      have c5 := hc 5 x5 l5
      have c6 := hc 6 x6 l6
      have c7 := hc 7 x7 l7
      have c8 := hc 8 x8 l8
      have c9 := hc 9 x9 l9
      have tc0 := fun td : Drift.Tide [] wr [] => Drift.Tide.cell c0 (by simp) td
      have tc1 := fun td : Drift.Tide [] wr [] => Drift.Tide.cell c1 (by simp) td
      have tc2 := fun td : Drift.Tide [] wr [] => Drift.Tide.cell c2 (by simp) td
      have tc3 := fun td : Drift.Tide [] wr [] => Drift.Tide.cell c3 (by simp) td
      have tc4 := fun td : Drift.Tide [] wr [] => Drift.Tide.cell c4 (by simp) td
      have tc5 := fun td : Drift.Tide [] wr [] => Drift.Tide.cell c5 (by simp) td
      have tc6 := fun td : Drift.Tide [] wr [] => Drift.Tide.cell c6 (by simp) td
      have tc7 := fun td : Drift.Tide [] wr [] => Drift.Tide.cell c7 (by simp) td
      have tc8 := fun td : Drift.Tide [] wr [] => Drift.Tide.cell c8 (by simp) td
      have tc9 := fun td : Drift.Tide [] wr [] => Drift.Tide.cell c9 (by simp) td
      have HZ2 : Hid (wr.heap[g]? = some (.cells #[.int .i64 0, .int .i64 0, .int .i64 0, .int .i64 0, .int .i64 0, .int .i64 0, .int .i64 0, .int .i64 0, .int .u32 0, .int .i64 0] 32 (0, 0))) := (HK.out.block g (Nat.lt_of_lt_of_le HGL.out (Nat.le_refl _))).trans HZ.out
      have HB3 : Hid (Below W.heap.size W wr) := HB.out.trans (HK.out.mono (Nat.le_trans HB.out.size (Nat.le_of_eq HBB.out.symm)))
      have HGR : Hid (g < wr.heap.size) := (Array.getElem?_eq_some_iff.1 HZ2.out).1
      clear hc l0 l1 l2 l3 l4 l5 l6 l7 l8 l9 c0 c1 c2 c3 c4 c5 c6 c7 c8 c9 htk HV HK HL10 HLK HLL HZ HB HL0 HB2 hlt hi hdec
      go_upto_region 13 with fail
      refine Drift.wp_region_drift [] [(0,[]),(1,[]),(2,[]),(3,[]),(4,[]),(5,[]),(6,[]),(7,[]),(8,[]),(9,[]),(10,[]),(11,[]),(12,[]),(13,[]),(14,[]),(15,[]),(16,[]),(17,[]),(18,[]),(19,[]),(20,[]),(21,[]),(22,[]),(23,[]),(24,[]),(25,[]),(26,[]),(27,[]),(28,[]),(29,[]),(30,[]),(31,[]),(32,[]),(33,[])] [] [33] (by kernel_rfl) (by kernel_rfl) (by simp) ?_
      simp only [Drift.pick, Drift.opsAt, List.getElem?_toArray, List.getElem?_cons_zero, List.getElem?_cons_succ, List.cons_append, List.nil_append, List.filterMap_nil]
      repeat (refine Drift.walk_step (fun K hK => ?_); go_simp; first | (refine hK _ ?_; clear hK K) | (refine ⟨_, fun _ => rfl, hK _ ?_⟩; clear hK K))
      refine Drift.walk_make rfl Drift.mkwalk_nil (fun b => .pointer (some ⟨b, 0, none⟩)) (.cells #[.int .i64 0, .int .i64 0, .int .i64 0, .int .i64 0, .int .i64 0, .int .i64 0, .int .i64 0, .int .i64 0, .int .u32 0, .int .i64 0] 32) (fun W => by go_simp) (fun q hq9 hT1 => ?_)
      refine Drift.walk_nil ?_
      intro w7 hb7 hl7
      have hx7 := hl7 (q, .cells #[.int .i64 0, .int .i64 0, .int .i64 0, .int .i64 0, .int .i64 0, .int .i64 0, .int .i64 0, .int .i64 0, .int .u32 0, .int .i64 0] 32) (by simp)
      have HGQ : Hid (g < q) := Nat.lt_of_lt_of_le HGR.out hq9
      replace HZ2 := Lib.hid (kept3 HZ2.out hb7)
      replace HB3 := Lib.hid (HB3.out.trans (hb7.mono HB3.out.size))
      clear hb7 hl7 hT1 hq9 tc0 tc1 tc2 tc3 tc4 tc5 tc6 tc7 tc8 tc9
      obtain ⟨y0, y1, y2, y3, y4, y5, y6, y7, y8, y9⟩ := box10 hx7
      have fz := free10 hx7
      have hu := set10_at hx7 (.int .i64 (x0 : Int)) (.int .i64 (x1 : Int)) (.int .i64 (x2 : Int)) (.int .i64 (x3 : Int)) (.int .i64 (x4 : Int)) (.int .i64 (x5 : Int)) (.int .i64 (x6 : Int)) (.int .i64 (x7 : Int)) (.int .u32 (x8 : Int)) (.int .i64 (x9 : Int))
      have HWQ : Hid (W.heap.size ≤ q) := Nat.le_trans HWG.out (Nat.le_of_lt HGQ.out)
      have hbw := below_set10 HB3.out HWQ.out (.int .i64 (x0 : Int)) (.int .i64 (x1 : Int)) (.int .i64 (x2 : Int)) (.int .i64 (x3 : Int)) (.int .i64 (x4 : Int)) (.int .i64 (x5 : Int)) (.int .i64 (x6 : Int)) (.int .i64 (x7 : Int)) (.int .u32 (x8 : Int)) (.int .i64 (x9 : Int))
      have hz8 : (set10 w7 q (.int .i64 (x0 : Int)) (.int .i64 (x1 : Int)) (.int .i64 (x2 : Int)) (.int .i64 (x3 : Int)) (.int .i64 (x4 : Int)) (.int .i64 (x5 : Int)) (.int .i64 (x6 : Int)) (.int .i64 (x7 : Int)) (.int .u32 (x8 : Int)) (.int .i64 (x9 : Int))).heap[g]? = some (.cells #[.int .i64 0, .int .i64 0, .int .i64 0, .int .i64 0, .int .i64 0, .int .i64 0, .int .i64 0, .int .i64 0, .int .u32 0, .int .i64 0] 32 (0, 0)) := ((below_set10 (Below.refl q w7) (Nat.le_refl _) (.int .i64 (x0 : Int)) (.int .i64 (x1 : Int)) (.int .i64 (x2 : Int)) (.int .i64 (x3 : Int)) (.int .i64 (x4 : Int)) (.int .i64 (x5 : Int)) (.int .i64 (x6 : Int)) (.int .i64 (x7 : Int)) (.int .u32 (x8 : Int)) (.int .i64 (x9 : Int))).block g HGQ.out).trans HZ2.out
      have HU := Lib.hid hu
      have HBW := Lib.hid hbw
      replace HZ2 := Lib.hid hz8
      unfold set10 at HU HBW HZ2
      clear hu hbw hz8 hx7 HB3
      simp only [List.length_cons, List.length_nil, List.drop_succ_cons, List.drop_zero, Nat.zero_add, Nat.reduceAdd]
      go_upto_region 14 with fail
      generalize (((((((((w7.setCell ⟨q, 0, none⟩ (.int .i64 (x0 : Int))).setCell ⟨q, 1, none⟩ (.int .i64 (x1 : Int))).setCell ⟨q, 2, none⟩ (.int .i64 (x2 : Int))).setCell ⟨q, 3, none⟩ (.int .i64 (x3 : Int))).setCell ⟨q, 4, none⟩ (.int .i64 (x4 : Int))).setCell ⟨q, 5, none⟩ (.int .i64 (x5 : Int))).setCell ⟨q, 6, none⟩ (.int .i64 (x6 : Int))).setCell ⟨q, 7, none⟩ (.int .i64 (x7 : Int))).setCell ⟨q, 8, none⟩ (.int .u32 (x8 : Int))).setCell ⟨q, 9, none⟩ (.int .i64 (x9 : Int)) = w8 at *
      clear y0 y1 y2 y3 y4 y5 y6 y7 y8 y9 fz
      have HX := HU
      have HZ := HZ2
      have HB := HBW
      clear HU HZ2 HBW HGR
      obtain ⟨d0, d1, d2, d3, d4, d5, d6, d7, d8, d9⟩ := box10 HX.out
      cases t with
      | false =>
        obtain ⟨rfl, rfl⟩ := HNO.out (.inl rfl)
        clear HYES HNO cBk
        go_upto_region 15 with (go_at_call 7; refine (cR _).out.mono ?_; rintro e w9 ⟨rfl, hb⟩; replace HX := Lib.hid (kept3 HX.out hb); replace HZ := Lib.hid (kept3 HZ.out hb); replace HB := Lib.hid (HB.out.trans (hb.mono HB.out.size)); clear hb cR d0 d1 d2 d3 d4 d5 d6 d7 d8 d9; obtain ⟨d0, d1, d2, d3, d4, d5, d6, d7, d8, d9⟩ := box10 HX.out)
        clear d0 d1 d2 d3 d4 d5 d6 d7 d8 d9
        obtain ⟨y0, y1, y2, y3, y4, y5, y6, y7, y8, y9⟩ := box10 HZ.out
        have fz := free10 HZ.out
        have HU := Lib.hid (set10_at HZ.out (.int .i64 0) (.int .i64 0) (.int .i64 0) (.int .i64 0) (.int .i64 0) (.int .i64 0) (.int .i64 0) (.int .i64 0) (.int .u32 0) (.int .i64 0))
        have HBW := Lib.hid (below_set10 HB.out HWG.out (.int .i64 0) (.int .i64 0) (.int .i64 0) (.int .i64 0) (.int .i64 0) (.int .i64 0) (.int .i64 0) (.int .i64 0) (.int .u32 0) (.int .i64 0))
        unfold set10 at HU HBW
        go_wp2_with fail
        generalize (((((((((w9.setCell ⟨g, 0, none⟩ (.int .i64 0)).setCell ⟨g, 1, none⟩ (.int .i64 0)).setCell ⟨g, 2, none⟩ (.int .i64 0)).setCell ⟨g, 3, none⟩ (.int .i64 0)).setCell ⟨g, 4, none⟩ (.int .i64 0)).setCell ⟨g, 5, none⟩ (.int .i64 0)).setCell ⟨g, 6, none⟩ (.int .i64 0)).setCell ⟨g, 7, none⟩ (.int .i64 0)).setCell ⟨g, 8, none⟩ (.int .u32 0)).setCell ⟨g, 9, none⟩ (.int .i64 0) = w91 at *
        clear y0 y1 y2 y3 y4 y5 y6 y7 y8 y9 fz
        obtain ⟨y0, y1, y2, y3, y4, y5, y6, y7, y8, y9⟩ := box10 HU.out
        exact bodyPost_ret (v := .tuple #[.agg #[.int .i64 0, .int .i64 0, .int .i64 0, .int .i64 0, .int .i64 0, .int .i64 0, .int .i64 0, .int .i64 0, .int .u32 0, .int .i64 0], .bool false]) (by simp [results, Try.results13, go_sem, y0, y1, y2, y3, y4, y5, y6, y7, y8, y9]) rfl ⟨rfl, HBW.out⟩
      | true =>
        replace cBk := cBk rfl
        by_cases hbb : bl = b
        · obtain ⟨rfl, rfl⟩ := HYES.out rfl hbb
          have hne : (!(bl.toList == b.toList)) = false := by rw [ba_toList, decide_eq_true hbb]; rfl
          have hne2 : (bl.toList == b.toList) = true := by rw [ba_toList, decide_eq_true hbb]
          clear HYES HNO hbb
          go_upto_region 16 with (first
            | (go_at_call 7; refine (cR _).out.mono ?_; rintro e w9 ⟨rfl, hb⟩; replace HX := Lib.hid (kept3 HX.out hb); replace HZ := Lib.hid (kept3 HZ.out hb); replace HB := Lib.hid (HB.out.trans (hb.mono HB.out.size)); clear hb cR d0 d1 d2 d3 d4 d5 d6 d7 d8 d9; obtain ⟨d0, d1, d2, d3, d4, d5, d6, d7, d8, d9⟩ := box10 HX.out)
            | (go_at_call 11; refine (cBk _).out.mono ?_; rintro e w10 ⟨rfl, hb⟩; replace HX := Lib.hid (kept3 HX.out hb); replace HZ := Lib.hid (kept3 HZ.out hb); replace HB := Lib.hid (HB.out.trans (hb.mono HB.out.size)); clear hb cBk d0 d1 d2 d3 d4 d5 d6 d7 d8 d9; obtain ⟨d0, d1, d2, d3, d4, d5, d6, d7, d8, d9⟩ := box10 HX.out))
          clear hne hne2
          obtain ⟨y0, y1, y2, y3, y4, y5, y6, y7, y8, y9⟩ := box10 HZ.out
          have fz := free10 HZ.out
          have hgq : g < q := HGQ.out
          have HU := Lib.hid (set10_at HZ.out (.int .i64 (x0 : Int)) (.int .i64 (x1 : Int)) (.int .i64 (x2 : Int)) (.int .i64 (x3 : Int)) (.int .i64 (x4 : Int)) (.int .i64 (x5 : Int)) (.int .i64 (x6 : Int)) (.int .i64 (x7 : Int)) (.int .u32 (x8 : Int)) (.int .i64 (x9 : Int)))
          have HBW := Lib.hid (below_set10 HB.out HWG.out (.int .i64 (x0 : Int)) (.int .i64 (x1 : Int)) (.int .i64 (x2 : Int)) (.int .i64 (x3 : Int)) (.int .i64 (x4 : Int)) (.int .i64 (x5 : Int)) (.int .i64 (x6 : Int)) (.int .i64 (x7 : Int)) (.int .u32 (x8 : Int)) (.int .i64 (x9 : Int)))
          unfold set10 at HU HBW
          go_wp2_with fail
          generalize (((((((((w10.setCell ⟨g, 0, none⟩ (.int .i64 (x0 : Int))).setCell ⟨g, 1, none⟩ (.int .i64 (x1 : Int))).setCell ⟨g, 2, none⟩ (.int .i64 (x2 : Int))).setCell ⟨g, 3, none⟩ (.int .i64 (x3 : Int))).setCell ⟨g, 4, none⟩ (.int .i64 (x4 : Int))).setCell ⟨g, 5, none⟩ (.int .i64 (x5 : Int))).setCell ⟨g, 6, none⟩ (.int .i64 (x6 : Int))).setCell ⟨g, 7, none⟩ (.int .i64 (x7 : Int))).setCell ⟨g, 8, none⟩ (.int .u32 (x8 : Int))).setCell ⟨g, 9, none⟩ (.int .i64 (x9 : Int)) = w91 at *
          clear y0 y1 y2 y3 y4 y5 y6 y7 y8 y9 fz d0 d1 d2 d3 d4 d5 d6 d7 d8 d9
          obtain ⟨y0, y1, y2, y3, y4, y5, y6, y7, y8, y9⟩ := box10 HU.out
          exact bodyPost_ret (v := .tuple #[.agg #[.int .i64 (x0 : Int), .int .i64 (x1 : Int), .int .i64 (x2 : Int), .int .i64 (x3 : Int), .int .i64 (x4 : Int), .int .i64 (x5 : Int), .int .i64 (x6 : Int), .int .i64 (x7 : Int), .int .u32 (x8 : Int), .int .i64 (x9 : Int)], .bool true]) (by simp [results, Try.results13, go_sem, y0, y1, y2, y3, y4, y5, y6, y7, y8, y9]) rfl ⟨rfl, HBW.out⟩
        · obtain ⟨rfl, rfl⟩ := HNO.out (.inr hbb)
          have hne2 : (bl.toList == b.toList) = false := by rw [ba_toList, decide_eq_false hbb]
          clear HYES HNO hbb
          go_upto_region 15 with (first
            | (go_at_call 7; refine (cR _).out.mono ?_; rintro e w9 ⟨rfl, hb⟩; replace HX := Lib.hid (kept3 HX.out hb); replace HZ := Lib.hid (kept3 HZ.out hb); replace HB := Lib.hid (HB.out.trans (hb.mono HB.out.size)); clear hb cR d0 d1 d2 d3 d4 d5 d6 d7 d8 d9; obtain ⟨d0, d1, d2, d3, d4, d5, d6, d7, d8, d9⟩ := box10 HX.out)
            | (go_at_call 11; refine (cBk _).out.mono ?_; rintro e w10 ⟨rfl, hb⟩; replace HX := Lib.hid (kept3 HX.out hb); replace HZ := Lib.hid (kept3 HZ.out hb); replace HB := Lib.hid (HB.out.trans (hb.mono HB.out.size)); clear hb cBk d0 d1 d2 d3 d4 d5 d6 d7 d8 d9; obtain ⟨d0, d1, d2, d3, d4, d5, d6, d7, d8, d9⟩ := box10 HX.out))
          clear d0 d1 d2 d3 d4 d5 d6 d7 d8 d9 hne2
          obtain ⟨y0, y1, y2, y3, y4, y5, y6, y7, y8, y9⟩ := box10 HZ.out
          have fz := free10 HZ.out
          have HU := Lib.hid (set10_at HZ.out (.int .i64 0) (.int .i64 0) (.int .i64 0) (.int .i64 0) (.int .i64 0) (.int .i64 0) (.int .i64 0) (.int .i64 0) (.int .u32 0) (.int .i64 0))
          have HBW := Lib.hid (below_set10 HB.out HWG.out (.int .i64 0) (.int .i64 0) (.int .i64 0) (.int .i64 0) (.int .i64 0) (.int .i64 0) (.int .i64 0) (.int .i64 0) (.int .u32 0) (.int .i64 0))
          unfold set10 at HU HBW
          go_wp2_with fail
          generalize (((((((((w10.setCell ⟨g, 0, none⟩ (.int .i64 0)).setCell ⟨g, 1, none⟩ (.int .i64 0)).setCell ⟨g, 2, none⟩ (.int .i64 0)).setCell ⟨g, 3, none⟩ (.int .i64 0)).setCell ⟨g, 4, none⟩ (.int .i64 0)).setCell ⟨g, 5, none⟩ (.int .i64 0)).setCell ⟨g, 6, none⟩ (.int .i64 0)).setCell ⟨g, 7, none⟩ (.int .i64 0)).setCell ⟨g, 8, none⟩ (.int .u32 0)).setCell ⟨g, 9, none⟩ (.int .i64 0) = w91 at *
          clear y0 y1 y2 y3 y4 y5 y6 y7 y8 y9 fz
          obtain ⟨y0, y1, y2, y3, y4, y5, y6, y7, y8, y9⟩ := box10 HU.out
          exact bodyPost_ret (v := .tuple #[.agg #[.int .i64 0, .int .i64 0, .int .i64 0, .int .i64 0, .int .i64 0, .int .i64 0, .int .i64 0, .int .i64 0, .int .u32 0, .int .i64 0], .bool false]) (by simp [results, Try.results13, go_sem, y0, y1, y2, y3, y4, y5, y6, y7, y8, y9]) rfl ⟨rfl, HBW.out⟩
end No
end Go.Proofs.Yteefkhgmcknbaaa
