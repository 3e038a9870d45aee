/-
  Bytes: noughts, texts with noughts behind them, lists of chunks, numbers read at a place (no memory).
-/
import Derived.Test.YteefkhgmcknbaaaWordPlain
import Derived.Test.YteefkhgmcknbaaaBytes
namespace Go.Proofs.Yteefkhgmcknbaaa
open Go.RowKit
namespace No
open Mem
open Wd (be val be_length val_be val_snoc val_lt)
/-- bytes 0 -/
def zs (n : Int) : List UInt8 := List.replicate n.toNat 0
theorem zs_len (n : Int) : (zs n).length = n.toNat := List.length_replicate
/-- a text's bytes -/
def txt (s : ByteArray) : List UInt8 := s.data.toList
theorem txt_len (s : ByteArray) : (txt s).length = s.size := rfl
theorem strOf_txt (s : ByteArray) : strOf (txt s) = s := rfl
theorem txt_strOf (l : List UInt8) : txt (strOf l) = l := rfl
/-- bytes, and noughts up to so many -/
def slotL (l : List UInt8) (most : Int) : List UInt8 := l ++ zs (most - l.length)
theorem slotL_len {l : List UInt8} {most : Int} (h : (l.length : Int) ≤ most) : (slotL l most).length = most.toNat := by
  unfold slotL
  rw [List.length_append, zs_len]
  omega
/-! ### lists of chunks -/
section
variable {α : Type} {f : α → List UInt8} {S : Nat} {L : List α}
theorem chunk_len (hS : ∀ x ∈ L, (f x).length = S) : (L.flatMap f).length = L.length * S := by
  induction L with
  | nil => simp
  | cons x xs ih =>
    rw [List.flatMap_cons, List.length_append, ih (fun y hy => hS y (List.mem_cons_of_mem _ hy)), hS x List.mem_cons_self, List.length_cons, Nat.succ_mul, Nat.add_comm]
theorem chunk_drop (hS : ∀ x ∈ L, (f x).length = S) : ∀ {k : Nat} {x : α}, L[k]? = some x → ∃ R, (L.flatMap f).drop (k * S) = f x ++ R := by
  induction L with
  | nil => intro k x h; simp at h
  | cons y ys ih =>
    intro k x h
    cases k with
    | zero =>
      obtain rfl : y = x := by simpa using h
      exact ⟨ys.flatMap f, by simp⟩
    | succ k =>
      obtain ⟨R, hR⟩ := ih (fun z hz => hS z (List.mem_cons_of_mem _ hz)) (k := k) (x := x) (by simpa using h)
      refine ⟨R, ?_⟩
      rw [List.flatMap_cons, Nat.succ_mul, Nat.add_comm, ← List.drop_drop, List.drop_left' (hS y List.mem_cons_self), hR]
/-- what lies at a chunk's place -/
theorem chunk_at (hS : ∀ x ∈ L, (f x).length = S) (A R : List UInt8) {a k : Nat} {x : α} (ha : A.length = a) (hx : L[k]? = some x) : ∃ R', (A ++ (L.flatMap f ++ R)).drop (a + k * S) = f x ++ R' := by
  obtain ⟨R', h⟩ := chunk_drop hS hx
  refine ⟨R' ++ R, ?_⟩
  have hk : k < L.length := (List.getElem?_eq_some_iff.1 hx).1
  have hl := chunk_len hS
  have hm : k * S ≤ L.length * S := Nat.mul_le_mul_right _ (Nat.le_of_lt hk)
  rw [← List.drop_drop, List.drop_left' ha, List.drop_append_of_le_length (by omega), h, List.append_assoc]
end
/-! ### bytes read -/
def atL (b : List UInt8) (i w : Nat) : Nat := val ((b.drop i).take w)
def subL (b : List UInt8) (i n : Nat) : List UInt8 := (b.drop i).take n
theorem at_be {b R : List UInt8} {i w v : Nat} (h : b.drop i = be w v ++ R) (hv : v < 256 ^ w) : atL b i w = v := by
  unfold atL
  rw [h, List.take_left' (be_length w v), val_be, Nat.mod_eq_of_lt hv]
theorem drop_more {b X R : List UInt8} {i j : Nat} (h : b.drop i = X ++ R) (hj : X.length = j) : b.drop (i + j) = R := by
  rw [← List.drop_drop, h, List.drop_left' hj]
theorem sub_slot {b R : List UInt8} {i : Nat} {s : ByteArray} {most : Int} (h : b.drop i = slotL (txt s) most ++ R) : strOf (subL b i s.size) = s := by
  unfold subL slotL at *
  rw [h, List.append_assoc, List.take_left' (txt_len s)]
  exact strOf_txt s
theorem at_succ {b : ByteArray} {i k : Nat} (h : i + k < b.size) : atL (txt b) i (k + 1) = 256 * atL (txt b) i k + b[i + k].toNat := by
  unfold atL
  have hk : k < ((txt b).drop i).length := by
    rw [List.length_drop, txt_len]
    omega
  rw [List.take_succ_eq_append_getElem hk, val_snoc]
  congr 2
  rw [List.getElem_drop]
  rfl
theorem at_lt (b : List UInt8) (i : Nat) {k : Nat} (hk : k ≤ 3) : atL b i k < 16777216 := by
  have h1 := val_lt ((b.drop i).take k)
  have h2 : ((b.drop i).take k).length ≤ 3 := Nat.le_trans (List.length_take_le _ _) hk
  have h3 : 256 ^ ((b.drop i).take k).length ≤ 256 ^ 3 := Nat.pow_le_pow_right (by decide) h2
  unfold atL
  omega
end No
end Go.Proofs.Yteefkhgmcknbaaa
