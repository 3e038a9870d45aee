/-
  What the code reads of a head's block, forth and back (no memory).
-/
import Derived.Test.YteefkhgmcknbaaaHeadC2
namespace Go.Proofs.Yteefkhgmcknbaaa
open Go.RowKit
namespace No
open Mem
open Wd (be val be_length val_be isW St takeS numS zerosS textS endS spoilS)
open Ck (more more_lt)
/-- what the reader reads: the letters, the numbers, noughts, the sum, noughts -/
structure HRead (b : List UInt8) (bg : List UInt8) (L : List Nat) (sm : Nat) (s1 s2 s3 s4 s5 : St) : Prop where
  h1 : textS ⟨b, 0⟩ 8 8 = (s1, bg)
  h2 : rdS rdN 10 s1 = (s2, L)
  h3 : zerosS s2 12 = s3
  h4 : numS s3 (4 : Nat) = (s4, sm)
  h5 : zerosS s4 ((L.getD 1 0 : Int) - 64) = s5
section
variable {b bg : List UInt8} {L : List Nat} {sm : Nat} {s1 s2 s3 s4 s5 : St}
theorem HRead.oks (h : HRead b bg L sm s1 s2 s3 s4 s5) : s1.ok ∧ s2.ok ∧ s3.ok ∧ s4.ok ∧ s5.ok := by
  obtain ⟨h1, h2, h3, h4, h5⟩ := h
  have k0 : St.ok ⟨b, 0⟩ := fun h => absurd rfl h
  have k1 := text_ok k0 8 8
  rw [h1] at k1
  have k2 := rdS_ok (f := rdN) (fun s hs => num_ok hs _) k1 10
  rw [h2] at k2
  have k3 := zeros_ok k2 12
  rw [h3] at k3
  have k4 := num_ok k3 (4 : Nat)
  rw [h4] at k4
  have k5 := zeros_ok k4 ((L.getD 1 0 : Int) - 64)
  rw [h5] at k5
  exact ⟨k1, k2, k3, k4, k5⟩
theorem HRead.len (h : HRead b bg L sm s1 s2 s3 s4 s5) : L.length = 10 := by
  have := rdS_len (f := rdN) 10 s1
  rw [h.h2] at this
  exact this
theorem HRead.small (h : HRead b bg L sm s1 s2 s3 s4 s5) : (∀ x ∈ L, x < 4294967296) ∧ sm < 4294967296 := by
  refine ⟨?_, ?_⟩
  · have h9 : ∀ k s, ∀ x ∈ (rdS rdN k s).2, x < 4294967296 := fun k => by
      induction k with
      | zero => intro s x hx; exact absurd hx (by simp [rdS])
      | succ k ih =>
        intro s x hx
        rcases List.mem_append.1 (show x ∈ (rdS rdN k s).2 ++ [(rdN (rdS rdN k s).1).2] from hx) with hx | hx
        · exact ih s x hx
        · obtain rfl := List.mem_singleton.1 hx
          exact num_lt _ rfl (Nat.le_refl _)
    have := h9 10 s1
    rw [h.h2] at this
    exact this
  · have := num_lt s3 (w := 4) rfl (Nat.le_refl _)
    rw [h.h4] at this
    exact this
theorem hNums_of {L : List Nat} (hL : L.length = 10) : hNums (hdOf L) = L := by
  obtain ⟨x0, x1, x2, x3, x4, x5, x6, x7, x8, x9, rfl⟩ := ten_of hL
  simp [hNums, hdOf]
theorem hdOf_nums {k : Hdr} (ho : HdOk k) : hdOf (hNums k) = k := by
  obtain ⟨⟨e0, e1, e2, e3, e4, e5, e6, e7⟩, e9⟩ := hd_nums ho
  obtain ⟨⟨cB, cY, cF, cN, cU, cL, cKy, cV⟩, r, t⟩ := k
  simp only at e0 e1 e2 e3 e4 e5 e6 e7 e9
  unfold hdOf hNums
  simp only [List.getD_cons_zero, List.getD_cons_succ]
  rw [e0, e1, e2, e3, e4, e5, e6, e7, e9]
theorem HRead.sound (h : HRead b bg L sm s1 s2 s3 s4 s5) (he : endS s5 = 0) : 64 ≤ b.length ∧ (bg = magicL → more 1 (b.take 60) = sm → headL (hdOf L) = b) := by
  have hL := h.len
  obtain ⟨k1, k2, k3, k4, k5⟩ := h.oks
  obtain ⟨h1, h2, h3, h4, h5⟩ := h
  have e5 : s5.e = 0 := by
    unfold endS at he
    split at he
    · cases he
    · exact he
  have b5 : s5.b = [] := by
    unfold endS at he
    split at he
    · cases he
    · rename_i hn
      cases hb : s5.b with
      | nil => rfl
      | cons x l => exact absurd ⟨e5, by rw [hb]; simp⟩ hn
  have hy : 0 ≤ (L.getD 1 0 : Int) - 64 := by
    rcases Int.lt_or_le ((L.getD 1 0 : Int) - 64) 0 with hn | hn
    · exfalso
      have h9 : s5.e ≠ 0 := by
        rw [← h5]
        unfold zerosS
        rw [Wd.take_neg s4 hn]
        simp only
        rw [if_pos (by rfl)]
        unfold spoilS
        split
        · intro h; cases h
        · rename_i hn
          exact hn
      exact h9 e5
    · exact hn
  obtain ⟨e4, b4⟩ := zeros_inv k4 hy (by rw [h5]; exact e5)
  rw [h5, b5] at b4
  obtain ⟨e3, b3, -⟩ := num_inv k3 (w := 4) rfl (by rw [h4]; exact e4)
  rw [h4] at b3
  obtain ⟨e2, b2⟩ := zeros_inv k2 (n := 12) (by decide) (by rw [h3]; exact e3)
  rw [h3] at b2
  obtain ⟨e1, b1, -⟩ := rdS_inv (f := rdN) (g := be 4) (P := fun _ => True) (fun s hs => num_ok hs _) (fun s hs he => by
    obtain ⟨a1, a2, -⟩ := num_inv hs (w := 4) rfl he
    exact ⟨a1, a2, trivial⟩) k1 (k := 10) (by rw [h2]; exact e2)
  rw [h2] at b1
  obtain ⟨-, -, -, l0, b0⟩ := text_inv (s := ⟨b, 0⟩) (fun h => absurd rfl h) (n := 8) (m := 8) (by rw [h1]; exact e1)
  rw [h1] at b0 l0
  simp only at b0 b1 b2 b3 b4 l0
  have z0 : slotL bg 8 = bg := by
    unfold slotL zs
    have : (bg.length : Int) = 8 := by rw [l0]; rfl
    rw [this]
    simp
  have hlen : (L.flatMap (be 4)).length = 40 := by rw [hflat_len, hL]
  rw [z0, b1, b2, b3, b4] at b0
  have h60 : (bg ++ (L.flatMap (be 4) ++ zs 12)).length = 60 := by
    rw [List.length_append, List.length_append, hlen, zs_len, l0]
    rfl
  have hb : b = (bg ++ (L.flatMap (be 4) ++ zs 12)) ++ (be 4 sm ++ (zs ((L.getD 1 0 : Int) - 64) ++ [])) := by
    rw [b0]
    simp only [List.append_assoc]
  refine ⟨?_, fun hm hs => ?_⟩
  · rw [hb, List.length_append, h60, List.length_append, be_length]
    omega
  · have hf : frontL (hdOf L) = bg ++ (L.flatMap (be 4) ++ zs 12) := by
      unfold frontL
      rw [hNums_of hL, hm]
    have ht : b.take 60 = bg ++ (L.flatMap (be 4) ++ zs 12) := by
      rw [hb]
      exact List.take_left' h60
    rw [ht] at hs
    unfold headL
    rw [hf, hs, hb]
    simp only [List.append_nil]
    rfl
theorem HRead.complete (h : HRead b bg L sm s1 s2 s3 s4 s5) {k : Hdr} (ho : HdOk k) (hk : headL k = b) : endS s5 = 0 ∧ bg = magicL ∧ more 1 (b.take 60) = sm ∧ hdOf L = k := by
  obtain ⟨h1, h2, h3, h4, h5⟩ := h
  have hsm := nums_small ho
  have hby := hd_bytes ho
  have hfl := front_len k
  have hml := more_lt 1 (frontL k)
  have ht : b.take 60 = frontL k := by
    rw [← hk]
    unfold headL
    exact List.take_left' hfl
  have hb : b = slotL magicL 8 ++ ((hNums k).flatMap (be 4) ++ (zs 12 ++ (be 4 (more 1 (frontL k)) ++ (zs (k.c.bytes - 64) ++ [])))) := by
    have z0 : slotL magicL 8 = magicL := rfl
    rw [← hk, z0]
    unfold headL
    generalize more 1 (frontL k) = m
    unfold frontL
    simp only [List.append_assoc, List.append_nil]
  rw [hb, text_fwd (n := 8) (m := 8) rfl (by decide)] at h1
  obtain ⟨rfl, rfl⟩ := Prod.mk.inj h1
  have f2 := rdS_fwd (f := rdN) (g := be 4) (L := hNums k) (R := zs 12 ++ (be 4 (more 1 (frontL k)) ++ (zs (k.c.bytes - 64) ++ []))) (fun x hx R => num_fwd (w := 4) rfl (hsm x hx))
  rw [show (hNums k).length = 10 from rfl, h2] at f2
  obtain ⟨rfl, rfl⟩ := Prod.mk.inj f2
  rw [zeros_fwd (by decide)] at h3
  subst h3
  rw [num_fwd (w := 4) rfl (by omega)] at h4
  obtain ⟨rfl, rfl⟩ := Prod.mk.inj h4
  have hy : (((hNums k).getD 1 0 : Nat) : Int) = k.c.bytes := (hd_nums ho).1.2.1
  rw [hy, zeros_fwd (by omega)] at h5
  subst h5
  exact ⟨rfl, rfl, by rw [ht], hdOf_nums ho⟩
end
end No
end Go.Proofs.Yteefkhgmcknbaaa
