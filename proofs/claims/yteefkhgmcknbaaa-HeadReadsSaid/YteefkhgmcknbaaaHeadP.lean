/-
  A head's block as bytes, what bytes could be, and that one byte turned shows (no memory).
-/
import Derived.Test.YteefkhgmcknbaaaCodeB
import Derived.Test.YteefkhgmcknbaaaSetD
import Derived.Test.YteefkhgmcknbaaaCheckPlain
namespace Go.Proofs.Yteefkhgmcknbaaa
open Go.RowKit
namespace No
open Mem
open Wd (be val be_length val_be)
open Ck (more more_lt shows_set)
/-- a head: its settings, the Root, the Height -/
structure Hdr where
  c : Cfg
  root : Nat
  ht : Int
def HdOk (h : Hdr) : Prop := Cf.Right h.c.blocks h.c.bytes h.c.frames h.c.fan h.c.buffer h.c.leaf h.c.key h.c.val ∧ 0 < h.root ∧ (h.root : Int) < h.c.blocks ∧ 0 < h.ht ∧ h.ht < 42
/-- its ten numbers -/
def hNums (h : Hdr) : List Nat := [h.c.blocks.toNat, h.c.bytes.toNat, h.c.frames.toNat, h.c.fan.toNat, h.c.buffer.toNat, h.c.leaf.toNat, h.c.key.toNat, h.c.val.toNat, h.root, h.ht.toNat]
/-- the eight letters -/
def magicL : List UInt8 := [83, 76, 85, 73, 67, 69, 48, 49]
def frontL (h : Hdr) : List UInt8 := magicL ++ ((hNums h).flatMap (be 4) ++ zs 12)
def headL (h : Hdr) : List UInt8 := frontL h ++ (be 4 (more 1 (frontL h)) ++ zs (h.c.bytes - 64))
/-- the only head that bytes could be a block of -/
def hCand (b : List UInt8) : Hdr := ⟨⟨atL b 8 4, atL b 12 4, atL b 16 4, atL b 20 4, atL b 24 4, atL b 28 4, atL b 32 4, atL b 36 4⟩, atL b 40 4, atL b 44 4⟩
theorem front_len (h : Hdr) : (frontL h).length = 60 := by
  unfold frontL
  rw [List.length_append, List.length_append, chunk_len (S := 4) (fun x _ => be_length 4 x)]
  rfl
theorem nums_small {h : Hdr} (ho : HdOk h) : ∀ x ∈ hNums h, x < 4294967296 := by
  obtain ⟨hc, h1, h2, h3, h4⟩ := ho
  obtain ⟨hs, ⟨hb1, hb2⟩, hf, hy1, hy2⟩ := hc
  unfold Cf.Shape at hs
  obtain ⟨⟨f1, f2⟩, ⟨u1, u2⟩, ⟨l1, l2⟩, ⟨k1, k2⟩, ⟨v1, v2⟩⟩ := hs
  intro x hx
  simp only [hNums, List.mem_cons, List.not_mem_nil, or_false] at hx
  rcases hx with rfl | rfl | rfl | rfl | rfl | rfl | rfl | rfl | rfl | rfl <;> omega
theorem hd_nums {h : Hdr} (ho : HdOk h) : ((h.c.blocks.toNat : Int) = h.c.blocks ∧ (h.c.bytes.toNat : Int) = h.c.bytes ∧ (h.c.frames.toNat : Int) = h.c.frames ∧ (h.c.fan.toNat : Int) = h.c.fan ∧ (h.c.buffer.toNat : Int) = h.c.buffer ∧ (h.c.leaf.toNat : Int) = h.c.leaf ∧ (h.c.key.toNat : Int) = h.c.key ∧ (h.c.val.toNat : Int) = h.c.val) ∧ (h.ht.toNat : Int) = h.ht := by
  obtain ⟨hc, h1, h2, h3, h4⟩ := ho
  obtain ⟨hs, ⟨hb1, hb2⟩, hf, hy1, hy2⟩ := hc
  unfold Cf.Shape at hs
  obtain ⟨⟨f1, f2⟩, ⟨u1, u2⟩, ⟨l1, l2⟩, ⟨k1, k2⟩, ⟨v1, v2⟩⟩ := hs
  unfold Cf.few at hy1
  omega
theorem hd_bytes {h : Hdr} (ho : HdOk h) : 64 ≤ h.c.bytes ∧ h.c.bytes ≤ 65536 := by
  obtain ⟨F, B, L, K, V, hs⟩ := set_ok ho.1
  exact hs.bytes
/-- what bytes that begin as a head's front could be -/
theorem cand_of {h : Hdr} (ho : HdOk h) {b R : List UInt8} (hb : b = frontL h ++ R) : hCand b = h := by
  have hn := nums_small ho
  have hi := hd_nums ho
  have hat : ∀ (k x : Nat), (hNums h)[k]? = some x → atL b (8 + k * 4) 4 = x := fun k x hx => by
    obtain ⟨R', hR⟩ := chunk_at (S := 4) (f := be 4) (fun x _ => be_length 4 x) magicL (zs 12 ++ R) (a := 8) rfl hx
    refine at_be (R := R') ?_ (by have := hn x (List.mem_of_getElem? hx); omega)
    rw [hb]
    unfold frontL
    rw [List.append_assoc, List.append_assoc]
    exact hR
  obtain ⟨⟨cB, cY, cF, cN, cU, cL, cKy, cV⟩, r, t⟩ := h
  unfold hCand
  rw [hat 0 _ rfl, hat 1 _ rfl, hat 2 _ rfl, hat 3 _ rfl, hat 4 _ rfl, hat 5 _ rfl, hat 6 _ rfl, hat 7 _ rfl, hat 8 _ rfl, hat 9 _ rfl]
  obtain ⟨⟨e0, e1, e2, e3, e4, e5, e6, e7⟩, e9⟩ := hi
  simp only at e0 e1 e2 e3 e4 e5 e6 e7 e9
  rw [e0, e1, e2, e3, e4, e5, e6, e7, e9]
theorem head_len {h : Hdr} (ho : HdOk h) : (headL h).length = h.c.bytes.toNat := by
  have := hd_bytes ho
  unfold headL
  rw [List.length_append, List.length_append, front_len, be_length, zs_len]
  omega
theorem head_cand {h : Hdr} (ho : HdOk h) : hCand (headL h) = h := cand_of ho rfl
theorem head_inj {h k : Hdr} (ho : HdOk h) (ko : HdOk k) (e : headL h = headL k) : h = k := by
  rw [← head_cand ho, ← head_cand ko, e]
/-- one byte turned is no head's block -/
theorem head_shows {h k : Hdr} (ho : HdOk h) (ko : HdOk k) {i : Nat} (hi : i < (headL h).length) (z : UInt8) (e : headL k = (headL h).set i z) : z = (headL h)[i] := by
  have e1 : headL h = frontL h ++ (be 4 (more 1 (frontL h)) ++ zs (h.c.bytes - 64)) := rfl
  have e2 : headL k = frontL k ++ (be 4 (more 1 (frontL k)) ++ zs (k.c.bytes - 64)) := rfl
  have l1 := front_len h
  have l2 := front_len k
  by_cases h6 : i < 60
  · have h7 : (headL h).set i z = (frontL h).set i z ++ (be 4 (more 1 (frontL h)) ++ zs (h.c.bytes - 64)) := by
      rw [e1, List.set_append_left _ _ (by omega)]
    rw [h7, e2] at e
    have h8 := List.append_inj_left e (by rw [List.length_set]; omega)
    have h9 := List.append_inj_right e (by rw [List.length_set]; omega)
    have h10 := List.append_inj_left h9 (by rw [be_length, be_length])
    have h11 : more 1 (frontL k) = more 1 (frontL h) := by
      have := congrArg val h10
      rw [val_be, val_be, Nat.mod_eq_of_lt (more_lt _ _), Nat.mod_eq_of_lt (more_lt _ _)] at this
      exact this
    rw [h8] at h11
    have h12 := (shows_set (frontL h) (by omega) z).1 h11
    rw [h12]
    simp only [e1]
    rw [List.getElem_append_left (by omega)]
  · have h7 : (headL h).set i z = frontL h ++ (be 4 (more 1 (frontL h)) ++ zs (h.c.bytes - 64)).set (i - 60) z := by
      rw [e1, List.set_append_right _ _ (by omega), l1]
    rw [h7, e2] at e
    have h8 := List.append_inj_left e (by omega)
    have h9 : k = h := by
      rw [← head_cand ko, ← head_cand ho]
      exact (cand_of ho (b := headL k) (R := be 4 (more 1 (frontL k)) ++ zs (k.c.bytes - 64)) (by rw [e2, h8])).trans (head_cand ho).symm
    subst h9
    rw [← h7] at e
    have h10 := congrArg (fun l => l[i]?) (e2.symm.trans e |>.symm ▸ rfl : headL k = (headL k).set i z)
    simp only [List.getElem?_set, hi, if_true, List.getElem?_eq_getElem hi, Option.some.injEq] at h10
    exact h10.symm
end No
end Go.Proofs.Yteefkhgmcknbaaa
