/-
  CleaveR2. Put together by pack.py.
-/
import Derived.Test.YtohnllclkpflaaaPqCleaveR1

namespace Go.Proofs.Ytohnllclkpflaaa
open Go.RowKit
namespace No
open Mem Lx Bu Lf Fa
/-- five boxes: three laid first, two wherever -/
structure B5 (W : World) (g : Nat) (X Y Z : Obj) (ga gb : Nat) (M N : Obj) (w : World) : Prop where
  b3 : B3 W g X Y Z w
  a : w.heap[ga]? = some M
  b : w.heap[gb]? = some N
  ne : ga ≠ gb
  la : g + 1 + 1 < ga
  lb : g + 1 + 1 < gb
section
variable {W w w' : World} {g ga gb : Nat} {X Y Z M N : Obj}
theorem B5.kept (h : B5 W g X Y Z ga gb M N w) (hb : Below w.heap.size w w') : B5 W g X Y Z ga gb M N w' := ⟨h.b3.kept hb, kept3 h.a hb, kept3 h.b hb, h.ne, h.la, h.lb⟩
theorem B5.grow {b : Nat} (h : B5 W g X Y Z ga gb M N w) (hb : Below b w w') (ha : ga < b) (hbb : gb < b) : B5 W g X Y Z ga gb M N w' := by
  have hl := h.la
  have h0 := h.b3.at_
  exact ⟨⟨h.b3.below.trans (hb.mono (by omega)), h0, (hb.block g (by omega)).trans h.b3.x, (hb.block (g + 1) (by omega)).trans h.b3.y, (hb.block (g + 1 + 1) (by omega)).trans h.b3.z⟩, (hb.block ga ha).trans h.a, (hb.block gb hbb).trans h.b, h.ne, h.la, h.lb⟩
theorem B5.seta (h : B5 W g X Y Z ga gb M N w) {i : Nat} (v : Value) (M' : Obj) (hn : (w.setCell ⟨ga, i, none⟩ v).heap[ga]? = some M') : B5 W g X Y Z ga gb M' N (w.setCell ⟨ga, i, none⟩ v) := by
  have hl := h.la
  have h0 := h.b3.at_
  exact ⟨⟨h.b3.below.setCell (show W.heap.size ≤ ga by omega) _, h0, (set_other _ (show g ≠ ga by omega)).trans h.b3.x, (set_other _ (show g + 1 ≠ ga by omega)).trans h.b3.y, (set_other _ (show g + 1 + 1 ≠ ga by omega)).trans h.b3.z⟩, hn, (set_other _ (Ne.symm h.ne)).trans h.b, h.ne, h.la, h.lb⟩
theorem B5.setb (h : B5 W g X Y Z ga gb M N w) {i : Nat} (v : Value) (N' : Obj) (hn : (w.setCell ⟨gb, i, none⟩ v).heap[gb]? = some N') : B5 W g X Y Z ga gb M N' (w.setCell ⟨gb, i, none⟩ v) := by
  have hl := h.lb
  have h0 := h.b3.at_
  exact ⟨⟨h.b3.below.setCell (show W.heap.size ≤ gb by omega) _, h0, (set_other _ (show g ≠ gb by omega)).trans h.b3.x, (set_other _ (show g + 1 ≠ gb by omega)).trans h.b3.y, (set_other _ (show g + 1 + 1 ≠ gb by omega)).trans h.b3.z⟩, (set_other _ h.ne).trans h.a, hn, h.ne, h.la, h.lb⟩
end
/-- two rows that grow, since w0 -/
structure Lp {α : Type} (K : Kind α) (W w0 : World) (g : Nat) (X Y Z : Obj) (ga gb : Nat) (M N : Obj) (A1 : Option Addr) (c1 : Nat) (L1 : List α) (A2 : Option Addr) (c2 : Nat) (L2 : List α) (w : World) : Prop where
  b5 : B5 W g X Y Z ga gb M N w
  into : Flow.Into [ga, gb] w0 w
  v1 : VK K w w0.heap.size A1 c1 L1
  v2 : VK K w w0.heap.size A2 c2 L2
  ap : ∀ x y, A1 = some x → A2 = some y → x.block ≠ y.block
  ha : ga < w0.heap.size
  hb : gb < w0.heap.size
section
variable {α : Type} {K : Kind α} {W w0 w w6 : World} {g ga gb c1 c2 c' : Nat} {X Y Z M N : Obj} {A1 A2 A' : Option Addr} {L1 L2 L' : List α}
theorem Lp.size (h : Lp K W w0 g X Y Z ga gb M N A1 c1 L1 A2 c2 L2 w) : w0.heap.size ≤ w.heap.size := h.into.size
theorem vk_cell {B b i : Nat} {A : Option Addr} {c : Nat} {L : List α} (h : VK K w B A c L) (v : Value) (hb : b < B) : VK K (w.setCell ⟨b, i, none⟩ v) B A c L := vkset h v hb
theorem Lp.app1 (h : Lp K W w0 g X Y Z ga gb M N A1 c1 L1 A2 c2 L2 w) (hd : AppW K w0.heap.size w w6 A1 A' c' L') {i : Nat} (v : Value) (M' : Obj) (hM : ∀ w : World, w.heap[ga]? = some M → (w.setCell ⟨ga, i, none⟩ v).heap[ga]? = some M') : Lp K W w0 g X Y Z ga gb M' N A' c' L' A2 c2 L2 (w6.setCell ⟨ga, i, none⟩ v) := by
  have h5 := h.b5.grow hd.below h.ha h.hb
  have hi6 : Flow.Into [ga, gb] w0 w6 := ⟨hd.below.os.trans h.into.os, hd.below.tape.trans h.into.tape, hd.below.output.trans h.into.output, Nat.le_trans h.into.size hd.below.size, fun k hk hn => (hd.below.block k hk).trans (h.into.block k hk hn)⟩
  have hv2 : VK K w6 w0.heap.size A2 c2 L2 := h.v2.keep fun a ha => hd.block _ (h.v2.at_ a ha).2 fun x hx => h.ap x a hx ha
  refine ⟨h5.seta v M' (hM _ h5.a), ⟨hi6.os, hi6.tape, hi6.output, Nat.le_trans hi6.size (Nat.le_of_eq (by simp)), fun k hk hn => (set_other _ (by simp at hn; exact hn.1)).trans (hi6.block k hk hn)⟩, vkset hd.vo v h.ha, vkset hv2 v h.ha, fun x y hx hy => ?_, h.ha, h.hb⟩
  have hy2 := (h.v2.at_ y hy).2
  rcases hd.row x hx with ⟨a, e, hb⟩ | hb
  · rw [hb]
    exact h.ap a y e hy
  · omega
theorem Lp.app2 (h : Lp K W w0 g X Y Z ga gb M N A1 c1 L1 A2 c2 L2 w) (hd : AppW K w0.heap.size w w6 A2 A' c' L') {i : Nat} (v : Value) (N' : Obj) (hN : ∀ w : World, w.heap[gb]? = some N → (w.setCell ⟨gb, i, none⟩ v).heap[gb]? = some N') : Lp K W w0 g X Y Z ga gb M N' A1 c1 L1 A' c' L' (w6.setCell ⟨gb, i, none⟩ v) := by
  have h5 := h.b5.grow hd.below h.ha h.hb
  have hi6 : Flow.Into [ga, gb] w0 w6 := ⟨hd.below.os.trans h.into.os, hd.below.tape.trans h.into.tape, hd.below.output.trans h.into.output, Nat.le_trans h.into.size hd.below.size, fun k hk hn => (hd.below.block k hk).trans (h.into.block k hk hn)⟩
  have hv1 : VK K w6 w0.heap.size A1 c1 L1 := h.v1.keep fun a ha => hd.block _ (h.v1.at_ a ha).2 fun x hx => (h.ap a x ha hx).symm
  refine ⟨h5.setb v N' (hN _ h5.b), ⟨hi6.os, hi6.tape, hi6.output, Nat.le_trans hi6.size (Nat.le_of_eq (by simp)), fun k hk hn => (set_other _ (by simp at hn; exact hn.2)).trans (hi6.block k hk hn)⟩, vkset hv1 v h.hb, vkset hd.vo v h.hb, fun x y hx hy => ?_, h.ha, h.hb⟩
  have hx2 := (h.v1.at_ x hx).2
  rcases hd.row y hy with ⟨a, e, hb⟩ | hb
  · rw [hb]
    exact h.ap x a hx e
  · omega
theorem Lp.kept (h : Lp K W w0 g X Y Z ga gb M N A1 c1 L1 A2 c2 L2 w) (hb : Below w.heap.size w w6) : Lp K W w0 g X Y Z ga gb M N A1 c1 L1 A2 c2 L2 w6 :=
  ⟨h.b5.kept hb, h.into.trans (Flow.Into.of_below hb), h.v1.kept hb, h.v2.kept hb, h.ap, h.ha, h.hb⟩
theorem Lp.start (h : B5 W g X Y Z ga gb M N w) : Lp K W w g X Y Z ga gb M N none 0 [] none 0 [] w :=
  ⟨h, Flow.Into.refl _ _, VK.nil _ _, VK.nil _ _, (fun x y hx => by cases hx), (Array.getElem?_eq_some_iff.1 h.a).1, (Array.getElem?_eq_some_iff.1 h.b).1⟩
end
/-! ### a list parted at a place -/
theorem part_lo {α : Type} {L : List α} {k h : Nat} {x : α} (hx : L[k]? = some x) (hk : k < h) : (L.take (k + 1)).take h = (L.take k).take h ++ [x] ∧ (L.take (k + 1)).drop h = (L.take k).drop h := by
  have hl := (List.getElem?_eq_some_iff.1 hx).1
  have e : L[k] = x := (List.getElem?_eq_some_iff.1 hx).2
  rw [List.take_succ_eq_append_getElem hl, e]
  have hlen : (L.take k).length = k := by rw [List.length_take]; omega
  constructor
  · rw [List.take_append, hlen, (show List.take (h - k) [x] = [x] from List.take_of_length_le (by simp; omega))]
  · rw [List.drop_append, hlen, (show List.drop (h - k) [x] = [] from List.drop_eq_nil_of_le (by simp; omega)), List.append_nil]
theorem part_hi {α : Type} {L : List α} {k h : Nat} {x : α} (hx : L[k]? = some x) (hk : h ≤ k) : (L.take (k + 1)).take h = (L.take k).take h ∧ (L.take (k + 1)).drop h = (L.take k).drop h ++ [x] := by
  have hl := (List.getElem?_eq_some_iff.1 hx).1
  have e : L[k] = x := (List.getElem?_eq_some_iff.1 hx).2
  rw [List.take_succ_eq_append_getElem hl, e]
  have hlen : (L.take k).length = k := by rw [List.length_take]; omega
  have h0 : h - k = 0 := by omega
  constructor
  · rw [List.take_append, hlen, h0, List.take_zero, List.append_nil]
  · rw [List.drop_append, hlen, h0, List.drop_zero]
theorem part_mid {α : Type} {L : List α} {k h : Nat} {x : α} (hx : L[k]? = some x) (hk : k + 1 = h) : (L.take (k + 1)).take (h - 1) = (L.take k).take (h - 1) ∧ (L.take (k + 1)).drop h = (L.take k).drop h := by
  have hl := (List.getElem?_eq_some_iff.1 hx).1
  have hlen : (L.take k).length = k := by rw [List.length_take]; omega
  subst hk
  constructor
  · rw [List.take_take, List.take_take]
    congr 1
    omega
  · rw [List.drop_eq_nil_of_le (by rw [List.length_take]; omega), List.drop_eq_nil_of_le (by rw [hlen]; omega)]
theorem belowM_next {p : ByteArray} {L : List Mg} {k : Nat} {x : Mg} (hx : L[k]? = some x) : belowM p (L.take (k + 1)) = belowM p (L.take k) ++ (if cmpB x.1 p < 0 then [x] else []) ∧ restM p (L.take (k + 1)) = restM p (L.take k) ++ (if cmpB x.1 p < 0 then [] else [x]) := by
  have hl := (List.getElem?_eq_some_iff.1 hx).1
  have e : L[k] = x := (List.getElem?_eq_some_iff.1 hx).2
  rw [List.take_succ_eq_append_getElem hl, e]
  unfold belowM restM
  rw [List.filter_append, List.filter_append]
  by_cases h : cmpB x.1 p < 0
  · simp [h]
  · simp [h]
end No
end Go.Proofs.Ytohnllclkpflaaa
