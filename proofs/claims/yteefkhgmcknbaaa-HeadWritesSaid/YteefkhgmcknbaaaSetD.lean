/-
  What right settings say, as numbers (no memory).
-/
import Derived.Test.YteefkhgmcknbaaaCfgD
import Derived.Test.YteefkhgmcknbaaaConfD2
namespace Go.Proofs.Yteefkhgmcknbaaa
open Go.RowKit
namespace No
variable {c : Cfg}
/-- what settings say, as numbers -/
structure SetOk (c : Cfg) (F B L K V : Nat) : Prop where
  fan : c.fan = F
  buffer : c.buffer = B
  leaf : c.leaf = L
  key : c.key = K
  val : c.val = V
  f : 8 ≤ F ∧ F ≤ 64
  b : B ≤ 512
  l : L ≤ 1024
  k : 1 ≤ K ∧ K ≤ 64
  v : V ≤ 256
  inn : ((8 + 4 * F + (1 + K) * (F - 1) + B * (4 + K + V) : Nat) : Int) ≤ c.bytes
  out : ((8 + L * (3 + K + V) : Nat) : Int) ≤ c.bytes
  bytes : 64 ≤ c.bytes ∧ c.bytes ≤ 65536
  blocks : c.blocks ≤ 65536
theorem set_ok (h : Cf.Right c.blocks c.bytes c.frames c.fan c.buffer c.leaf c.key c.val) : ∃ F B L K V, SetOk c F B L K V := by
  obtain ⟨hs, ⟨hb1, hb2⟩, hf, hy1, hy2⟩ := h
  have hs' := hs
  unfold Cf.Shape at hs'
  obtain ⟨⟨f1, f2⟩, ⟨u1, u2⟩, ⟨l1, l2⟩, ⟨k1, k2⟩, ⟨v1, v2⟩⟩ := hs'
  obtain ⟨F, hF⟩ : ∃ F : Nat, c.fan = F := ⟨c.fan.toNat, by omega⟩
  obtain ⟨B, hB⟩ : ∃ B : Nat, c.buffer = B := ⟨c.buffer.toNat, by omega⟩
  obtain ⟨L, hL⟩ : ∃ L : Nat, c.leaf = L := ⟨c.leaf.toNat, by omega⟩
  obtain ⟨K, hK⟩ : ∃ K : Nat, c.key = K := ⟨c.key.toNat, by omega⟩
  obtain ⟨V, hV⟩ : ∃ V : Nat, c.val = V := ⟨c.val.toNat, by omega⟩
  refine ⟨F, B, L, K, V, hF, hB, hL, hK, hV, by omega, by omega, by omega, by omega, by omega, ?_, ?_, ?_, hb2⟩
  · have h1 : Cf.inn c.fan c.buffer c.key c.val ≤ c.bytes := by
      unfold Cf.few at hy1
      omega
    unfold Cf.inn at h1
    rw [hF, hB, hK, hV] at h1
    obtain ⟨G, rfl⟩ : ∃ G, F = G + 1 := ⟨F - 1, by omega⟩
    have e1 : (G + 1 : Nat) - 1 = G := rfl
    have e2 : ((G + 1 : Nat) : Int) - 1 = G := by omega
    rw [e2] at h1
    rw [e1]
    have e3 : ((1 + K) * G : Nat) = G * (1 + K) := Nat.mul_comm _ _
    rw [e3]
    push_cast at h1 ⊢
    omega
  · have h1 : Cf.out c.leaf c.key c.val ≤ c.bytes := by
      unfold Cf.few at hy1
      omega
    unfold Cf.out at h1
    rw [hL, hK, hV] at h1
    push_cast at h1 ⊢
    omega
  · unfold Cf.few at hy1
    omega
end No
end Go.Proofs.Yteefkhgmcknbaaa
