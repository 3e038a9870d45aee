/-
  A device beside the document's; what becomes of both.
-/
import Derived.Test.YtlkakknelkeegaaDevBoth
namespace Go.Proofs.Ytlkakknelkeegaa
open Go.RowKit
namespace Dv
open Mem

/-- a device whose blocks are ls beside the document's one, in a box, whose texts are lr -/
structure Pe (W w : World) (S : List Nat) (g bw h c m n : Nat) (ls : List (List UInt8)) (r s : Nat) (lr : List (List UInt8)) (rr sr : Nat) : Prop where
  dw : Dw W w S g m ls r s
  rf : Rf w h c n lr
  bx : Box w bw (.int .i64 (m : Int)) (.slice (some ⟨h, 0, none⟩) n c) (.int .i64 (rr : Int)) (.int .i64 (sr : Int))
  hS : h ∉ S
  bS : bw ∉ S
  bh : bw ≠ h
  hW : W.heap.size ≤ h
  bW : W.heap.size ≤ bw
section
variable {W w w' : World} {S : List Nat} {g bw h c m n : Nat} {ls lr : List (List UInt8)} {r s rr sr : Nat}
theorem Pe.kept (H : Pe W w S g bw h c m n ls r s lr rr sr) (hb : Below w.heap.size w w') : Pe W w' S g bw h c m n ls r s lr rr sr :=
  ⟨H.dw.kept hb, H.rf.kept hb, H.bx.kept hb, H.hS, H.bS, H.bh, H.hW, H.bW⟩
theorem Box.into {T : List Nat} {b : Nat} {v0 v1 v2 v3 : Value} (H : Box w b v0 v1 v2 v3) (hi : Flow.Into T w w') (hb : b ∉ T) : Box w' b v0 v1 v2 v3 := (hi.block b H.lt hb).trans H
theorem Dw.into {T : List Nat} (H : Dw W w S g m ls r s) (hi : Flow.Into T w w') (hn : ∀ k, k ∈ T → k ∉ S ∧ W.heap.size ≤ k) : Dw W w' S g m ls r s :=
  ⟨H.dv.into hi fun k hk ht => (hn k ht).1 hk, below_more H.bel hi (fun k hk => (hn k hk).2) H.bel.size, H.lo⟩
/-- the document's device is another one, and laid into the box -/
theorem Pe.turn (H : Pe W w S g bw h c m n ls r s lr rr sr) {w6 : World} {h' c' : Nat} {lr' : List (List UInt8)} (hb : Below w.heap.size w w6) (hR : Rf w6 h' c' n lr') (hh : h' = h ∨ w.heap.size ≤ h') (rr' sr' : Nat) :
    Pe W ((((w6.setCell ⟨bw, 0, none⟩ (.int .i64 (m : Int))).setCell ⟨bw, 1, none⟩ (.slice (some ⟨h', 0, none⟩) n c')).setCell ⟨bw, 2, none⟩ (.int .i64 (rr' : Int))).setCell ⟨bw, 3, none⟩ (.int .i64 (sr' : Int))) S g bw h' c' m n ls r s lr' rr' sr' ∧
      Flow.Into [bw] w6 ((((w6.setCell ⟨bw, 0, none⟩ (.int .i64 (m : Int))).setCell ⟨bw, 1, none⟩ (.slice (some ⟨h', 0, none⟩) n c')).setCell ⟨bw, 2, none⟩ (.int .i64 (rr' : Int))).setCell ⟨bw, 3, none⟩ (.int .i64 (sr' : Int))) := by
  have H6 := H.kept hb
  have hi := into_set4 (b := bw) w6 (.int .i64 (m : Int)) (.slice (some ⟨h', 0, none⟩) n c') (.int .i64 (rr' : Int)) (.int .i64 (sr' : Int))
  have hbl := H.bx.lt
  have hne : bw ≠ h' := by
    rcases hh with e | e
    · rw [e]; exact H.bh
    · omega
  refine ⟨⟨H6.dw.into hi fun k hk => ?_, hR.into hi (by simpa using hne.symm), H6.bx.all _ _ _ _, ?_, H.bS, hne, ?_, H.bW⟩, hi⟩
  · obtain rfl : k = bw := by simpa using hk
    exact ⟨H.bS, H.bW⟩
  · rcases hh with e | e
    · rw [e]; exact H.hS
    · intro hk
      have := H.dw.dv.lt _ hk
      omega
  · rcases hh with e | e
    · rw [e]; exact H.hW
    · exact Nat.le_trans H.dw.size e
/-- the device was written -/
theorem Pe.put (H : Pe W w S g bw h c m n ls r s lr rr sr) {S' : List Nat} {ls' : List (List UInt8)} {r' s' : Nat} (hd : Dw W w' S' g m ls' r' s') (hg : Grew w S S') (hi : Flow.Into S w w') : Pe W w' S' g bw h c m n ls' r' s' lr rr sr := by
  have hn : ∀ k, k < w.heap.size → k ∉ S → k ∉ S' := fun k hk hs hs' => by
    rcases hg k hs' with e | e
    · exact hs e
    · omega
  exact ⟨hd, H.rf.into hi H.hS, H.bx.into hi H.bS, hn h H.rf.lt H.hS, hn bw H.bx.lt H.bS, H.bh, H.hW, H.bW⟩
/-- the device was read -/
theorem Pe.get (H : Pe W w S g bw h c m n ls r s lr rr sr) {r' s' : Nat} (hd : Dw W w' S g m ls r' s') (hi : Flow.Into [g] w w') : Pe W w' S g bw h c m n ls r' s' lr rr sr := by
  have hg := H.dw.dv.g_in
  have hn : ∀ k, k ∉ S → k ∉ [g] := fun k hk hk' => by
    obtain rfl : k = g := by simpa using hk'
    exact hk hg
  exact ⟨hd, H.rf.into hi (hn h H.hS), H.bx.into hi (hn bw H.bS), H.hS, H.bS, H.bh, H.hW, H.bW⟩
/-- the device is another one -/
theorem Pe.swap (H : Pe W w S g bw h c m n ls r s lr rr sr) {S' : List Nat} {g' : Nat} {ls' : List (List UInt8)} {r' s' : Nat} (hb : Below w.heap.size w w') (hd : Dw W w' S' g' m ls' r' s') (hS : ∀ k, k ∈ S' → w.heap.size ≤ k) : Pe W w' S' g' bw h c m n ls' r' s' lr rr sr := by
  have hn : ∀ k, k < w.heap.size → k ∉ S' := fun k hk hs' => by have := hS k hs'; omega
  exact ⟨hd, H.rf.kept hb, H.bx.kept hb, hn h H.rf.lt, hn bw H.bx.lt, H.bh, H.hW, H.bW⟩
/-- the document's counts are noughts -/
theorem Pe.zero (H : Pe W w S g bw h c m n ls r s lr rr sr) : Pe W ((w.setCell ⟨bw, 2, none⟩ (.int .i64 0)).setCell ⟨bw, 3, none⟩ (.int .i64 0)) S g bw h c m n ls r s lr 0 0 := by
  have hi : Flow.Into [bw] w ((w.setCell ⟨bw, 2, none⟩ (.int .i64 0)).setCell ⟨bw, 3, none⟩ (.int .i64 0)) := (into_setCell w ⟨bw, 2, none⟩ _).trans (into_setCell _ ⟨bw, 3, none⟩ _)
  refine ⟨H.dw.into hi fun k hk => ?_, H.rf.into hi (by simpa using H.bh.symm), (H.bx.set2 _).set3 _, H.hS, H.bS, H.bh, H.hW, H.bW⟩
  obtain rfl : k = bw := by simpa using hk
  exact ⟨H.bS, H.bW⟩
end
/-- a call in a box of its own -/
def ABox (w : World) (b : Nat) (kd : Int) (I : Nat) (B : Option Addr) (l c : Nat) : Prop := w.heap[b]? = some (.cells #[.int .i64 kd, .int .u32 (I : Int), .slice B l c] 36 (0, 0))
section
variable {w w' : World} {b : Nat} {kd : Int} {I : Nat} {B : Option Addr} {l c : Nat}
theorem ABox.lt (h : ABox w b kd I B l c) : b < w.heap.size := (Array.getElem?_eq_some_iff.1 h).1
theorem ABox.kept (h : ABox w b kd I B l c) (hb : Below w.heap.size w w') : ABox w' b kd I B l c := (hb.block b h.lt).trans h
theorem ABox.into {T : List Nat} (h : ABox w b kd I B l c) (hi : Flow.Into T w w') (hn : b ∉ T) : ABox w' b kd I B l c := (hi.block b h.lt hn).trans h
theorem ABox.facts (h : ABox w b kd I B l c) : w.cell? ⟨b, 0, none⟩ = some (.int .i64 kd) ∧ w.cell? ⟨b, 1, none⟩ = some (.int .u32 (I : Int)) ∧ w.cell? ⟨b, 2, none⟩ = some (.slice B l c) := by
  unfold ABox at h
  simp [World.cell?, h]
theorem ABox.new (w : World) (kd : Int) (I : Nat) (B : Option Addr) (l c : Nat) : ABox (w.alloc (.cells #[.int .i64 kd, .int .u32 (I : Int), .slice B l c] 36)) w.heap.size kd I B l c := heap_alloc_new w _
end
/-- the blocks of an image that is all blocks, one behind the other -/
theorem chunks_of {m : Nat} : ∀ {ls : List (List UInt8)}, (∀ l, l ∈ ls → l.length = m) → chunks ls.flatten m ls.length = ls := fun {ls} h => by
  apply List.ext_getElem?
  intro i
  by_cases hi : i < ls.length
  · rw [chunks_at hi, List.getElem?_eq_getElem hi]
    congr 1
    have h1 : ls = ls.take i ++ (ls[i] :: ls.drop (i + 1)) := by rw [← List.drop_eq_getElem_cons hi, List.take_append_drop]
    have h2 : (ls.take i ++ (ls[i] :: ls.drop (i + 1))).flatten = (ls.take i).flatten ++ (ls[i] ++ (ls.drop (i + 1)).flatten) := by rw [List.flatten_append, List.flatten_cons]
    rw [← h1] at h2
    have h3 : (ls.take i).flatten.length = i * m := take_flat_len h (by omega)
    have h4 : ls[i].length = m := h _ (List.getElem_mem hi)
    unfold win
    rw [h2, ← h3, List.drop_left]
    rw [← h4, List.take_left]
  · rw [List.getElem?_eq_none (by rw [chunks_len]; omega), List.getElem?_eq_none (by omega)]
theorem light_yes (n m : Int) (w : World) (h1 : n ≤ 60) (h2 : m ≤ 200) : Calls Try.prog 8 #[.int .i64 n, .int .i64 m] w fun e w' => e = .returned (.bool true) ∧ w = w' := by
  go_enter Try.func8, Try.ntmps8
  go_wp2
  go_ret
  exact ⟨rfl, rfl⟩
theorem light_no (n m : Int) (w : World) (h : ¬ (n ≤ 60 ∧ m ≤ 200)) : Calls Try.prog 8 #[.int .i64 n, .int .i64 m] w fun e w' => e = .returned (.bool false) ∧ w = w' := by
  by_cases h1 : n ≤ 60
  · have h2 : decide (m ≤ 200) = false := by simp; omega
    clear h
    go_enter Try.func8, Try.ntmps8
    go_wp2
    go_ret
    exact ⟨rfl, rfl⟩
  · have h2 : decide (n ≤ 60) = false := by simp; omega
    clear h h1
    go_enter Try.func8, Try.ntmps8
    go_wp2
    go_ret
    exact ⟨rfl, rfl⟩
end Dv
end Go.Proofs.Ytlkakknelkeegaa
