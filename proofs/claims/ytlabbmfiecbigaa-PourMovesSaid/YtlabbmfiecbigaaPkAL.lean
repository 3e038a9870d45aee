/-
  LeafCode3, PourB, FanR, RowB, StrS, NodeK3, CleaveD, CleaveC1, BufCut. Put together by pack.py.
-/
import Derived.Test.YtlabbmfiecbigaaPkAK
import Derived.Test.YtlabbmfiecbigaaPkAE
import Derived.Test.YtlabbmfiecbigaaPkAH
import Derived.Test.YtlabbmfiecbigaaPkAI
import Derived.Test.YtlabbmfiecbigaaPkAG
import Derived.Test.YtlabbmfiecbigaaPkAC
import Derived.Deep.RegionWith
import Derived.Test.YtlabbmfiecbigaaPkAJ

namespace Go.Proofs.Ytlabbmfiecbigaa
open Go.RowKit
namespace Lf
open Mem Lx Bu
theorem Lb.lacks {L : List Pr} {key : ByteArray} {p : Nat} (h : Lb L key p) (hr : PRi L) (hn : ¬ ∃ m, L[p]? = some m ∧ m.1 = key) : getP L key = none :=
  getP_none fun i m _ hm e => by
    rcases Nat.lt_or_ge i p with hi | hi
    · have := h.lo i m hi hm
      rw [e, cmpB_self] at this
      omega
    · rcases Nat.eq_or_lt_of_le hi with rfl | hi
      · exact hn ⟨m, hm, e⟩
      · have hl := (List.getElem?_eq_some_iff.1 hm).1
        have hp : L[p]? = some (L[p]'(by omega)) := List.getElem?_eq_getElem _
        generalize L[p]'(by omega) = z at hp
        have h1 := h.hi p z (Nat.le_refl _) hp
        have h2 := PRi.at_ hr hp hm hi
        rw [e] at h2
        omega
theorem Lb.found {L : List Pr} {key : ByteArray} {p : Nat} {x : Pr} (hr : PRi L) (hx : L[p]? = some x) (hk : x.1 = key) : getP L key = some x.2 := by
  rw [hr.get, ← hk]
  exact List.mem_of_getElem? hx
set_option maxRecDepth 100000 in
set_option maxHeartbeats 2000000 in
theorem Get_any {W : World} {A : Option Addr} {c : Nat} {L : List Pr} (h : PC W A c L) (key : ByteArray) (_ : ∀ x, x ∈ L → x.1.size ≤ 1000) (hr : PRi L) (hl : L.length ≤ 1000) : Calls Try.prog 39 #[.slice A L.length c, .string key] W fun e w' => e = .returned (.tuple #[.string ((getP L key).getD ⟨#[]⟩), .bool (getP L key).isSome]) ∧ Below W.heap.size W w' := by
  have cS := Lib.hid (place_any (c := c) h.1 key hr (by omega))
  have HH := Lib.hid h
  clear h
  generalize hn : L.length = n at *
  have HN := Lib.hid hn
  clear hn
  go_enter Try.func39, Try.ntmps39
  go_upto_region 2 with (go_at_call 58; refine cS.out.mono ?_; rintro e w2 ⟨⟨p, b, rfl, h1, h2⟩, hb⟩)
  have HP := Lib.hid h1
  have HF := Lib.hid h2
  have HB := Lib.hid hb
  have hpn : p ≤ n := by rw [← HN.out]; exact h1.le
  clear h1 h2 hb cS
  cases b with
  | false =>
    have HE : Hid (getP L key = none) := HP.out.lacks hr (by have := HF.out; simpa using this)
    go_wp2_with fail
    refine bodyPost_ret (v := .tuple #[.string ⟨#[]⟩, .bool false]) (by simp [results, Try.results39, go_sem]) rfl ⟨?_, HB.out⟩
    rw [HE.out]
    rfl
  | true =>
    obtain ⟨x, hx, hk⟩ := HF.out.1 rfl
    have HE : Hid (getP L key = some x.2) := Lb.found hr hx hk
    have hpn2 : p < n := by rw [← HN.out]; exact (List.getElem?_eq_some_iff.1 hx).1
    obtain ⟨b, o, e, -, c0, c1⟩ := RdK.pair (HH.out.1.kept HB.out) hx
    subst e
    clear hx hk
    go_wp2_with fail
    refine bodyPost_ret (v := .tuple #[.string x.2, .bool true]) (by simp [results, Try.results39, go_sem]) rfl ⟨?_, HB.out⟩
    rw [HE.out]
    rfl
/-- the first of a span's, by the places -/
theorem Cut.part {P : Pr → Bool} {L : List Pr} {p q j : Nat} (h : Cut P L p q) (most : Int) (hj : j = min (q - p) most.toNat) : partP P most L = (L.take (p + j)).drop p := by
  have hf : L.filter P = (L.take q).drop p := by
    have e : L = L.take p ++ ((L.take q).drop p ++ L.drop q) := by
      have h1 : (L.take q).drop p ++ L.drop q = L.drop p := by
        have h2 := List.drop_append_of_le_length (l₁ := L.take q) (l₂ := L.drop q) (i := p) (by rw [List.length_take]; have := h.pq; have := h.le; omega)
        rw [List.take_append_drop] at h2
        exact h2.symm
      rw [h1, List.take_append_drop]
    have f1 : (L.take p).filter P = [] := by
      rw [List.filter_eq_nil_iff]
      intro x hx
      obtain ⟨i, hi⟩ := List.getElem?_of_mem hx
      have hip : i < p := by
        have := (List.getElem?_eq_some_iff.1 hi).1
        rw [List.length_take] at this
        omega
      rw [List.getElem?_take_of_lt hip] at hi
      rw [h.ahead i x hip hi]
      simp
    have f2 : ((L.take q).drop p).filter P = (L.take q).drop p := by
      rw [List.filter_eq_self]
      intro x hx
      obtain ⟨i, hi⟩ := List.getElem?_of_mem hx
      rw [List.getElem?_drop] at hi
      have hiq : p + i < q := by
        have := (List.getElem?_eq_some_iff.1 hi).1
        rw [List.length_take] at this
        omega
      rw [List.getElem?_take_of_lt hiq] at hi
      exact h.inn (p + i) x (by omega) hiq hi
    have f3 : (L.drop q).filter P = [] := by
      rw [List.filter_eq_nil_iff]
      intro x hx
      obtain ⟨i, hi⟩ := List.getElem?_of_mem hx
      rw [List.getElem?_drop] at hi
      rw [h.behind (q + i) x (by omega) hi]
      simp
    calc L.filter P = (L.take p ++ ((L.take q).drop p ++ L.drop q)).filter P := by rw [← e]
      _ = (L.take q).drop p := by rw [List.filter_append, List.filter_append, f1, f2, f3]; simp
  unfold partP
  rw [hf, List.take_drop, List.take_take]
  have h1 := h.pq
  have h2 := h.le
  rcases Nat.le_total (q - p) most.toNat with h3 | h3
  · rw [Nat.min_eq_left h3] at hj
    rw [show min (p + most.toNat) q = q by omega, show p + j = q by omega]
  · rw [Nat.min_eq_right h3] at hj
    rw [show min (p + most.toNat) q = p + most.toNat by omega, hj]
theorem run_midP (A : Option Addr) (n c p q : Nat) (hp : p ≤ q) (hq : q ≤ c) (w : World) :
    (Instr.slice 27 (.slice A n c) (some (.int .i64 (p : Int))) (some (.int .i64 (q : Int))) none).run Try.prog w = .ok (.slice (cutK 2 A c p) (q - p) (c - p)) w := run_midK Try.underlying27 prinfo A n c p q hp hq w
end Lf
end Go.Proofs.Ytlabbmfiecbigaa

namespace Go.Proofs.Ytlabbmfiecbigaa
open Go.RowKit
namespace No
open Mem Lx Bu Lf Fa
structure Q5 (W : World) (g : Nat) (X Y Z M N : Obj) (w : World) : Prop where
  b3 : B3 W g X Y Z w
  m : w.heap[g + 1 + 1 + 1]? = some M
  n : w.heap[g + 1 + 1 + 1 + 1]? = some N
section
variable {W w w' : World} {g : Nat} {X Y Z M N : Obj}
theorem Q5.kept (h : Q5 W g X Y Z M N w) (hb : Below w.heap.size w w') : Q5 W g X Y Z M N w' := ⟨h.b3.kept hb, kept3 h.m hb, kept3 h.n hb⟩
theorem Q5.new (W : World) (X Y Z M N : Obj) : Q5 W W.heap.size X Y Z M N (((((W.alloc X).alloc Y).alloc Z).alloc M).alloc N) := by
  have h3 := B3.new W X Y Z
  have hs : (((W.alloc X).alloc Y).alloc Z).heap.size = W.heap.size + 1 + 1 + 1 := by simp
  have h2 := two_new (((W.alloc X).alloc Y).alloc Z) M N
  rw [hs] at h2
  exact ⟨h3.kept (by rw [hs]; exact h2.2.2), h2.1, h2.2.1⟩
theorem Q5.size (h : Q5 W g X Y Z M N w) : g + 1 + 1 + 1 + 1 < w.heap.size := (Array.getElem?_eq_some_iff.1 h.n).1
theorem Q5.grow {b : Nat} (h : Q5 W g X Y Z M N w) (hb : Below b w w') (hl : g + 1 + 1 + 1 + 1 < b) : Q5 W g X Y Z M N w' := by
  have h0 := h.b3.at_
  exact ⟨⟨h.b3.below.trans (hb.mono (by omega)), h0, (hb.block g (by omega)).trans h.b3.x, (hb.block (g + 1) (by omega)).trans h.b3.y, (hb.block (g + 1 + 1) (by omega)).trans h.b3.z⟩, (hb.block _ (by omega)).trans h.m, (hb.block _ hl).trans h.n⟩
theorem Q5.sety (h : Q5 W g X Y Z M N w) {i : Nat} (v : Value) (Y' : Obj) (hn : (w.setCell ⟨g + 1, i, none⟩ v).heap[g + 1]? = some Y') : Q5 W g X Y' Z M N (w.setCell ⟨g + 1, i, none⟩ v) := by
  have h0 := h.b3.at_
  exact ⟨⟨h.b3.below.setCell (show W.heap.size ≤ g + 1 by omega) _, h0, (set_other _ (show g ≠ g + 1 by omega)).trans h.b3.x, hn, (set_other _ (show g + 1 + 1 ≠ g + 1 by omega)).trans h.b3.z⟩, (set_other _ (show g + 1 + 1 + 1 ≠ g + 1 by omega)).trans h.m, (set_other _ (show g + 1 + 1 + 1 + 1 ≠ g + 1 by omega)).trans h.n⟩
theorem Q5.setz (h : Q5 W g X Y Z M N w) {i : Nat} (v : Value) (Z' : Obj) (hn : (w.setCell ⟨g + 1 + 1, i, none⟩ v).heap[g + 1 + 1]? = some Z') : Q5 W g X Y Z' M N (w.setCell ⟨g + 1 + 1, i, none⟩ v) := by
  have h0 := h.b3.at_
  exact ⟨⟨h.b3.below.setCell (show W.heap.size ≤ g + 1 + 1 by omega) _, h0, (set_other _ (show g ≠ g + 1 + 1 by omega)).trans h.b3.x, (set_other _ (show g + 1 ≠ g + 1 + 1 by omega)).trans h.b3.y, hn⟩, (set_other _ (show g + 1 + 1 + 1 ≠ g + 1 + 1 by omega)).trans h.m, (set_other _ (show g + 1 + 1 + 1 + 1 ≠ g + 1 + 1 by omega)).trans h.n⟩
variable {u0 u1 u2 u3 u4 : Value} {U : TypeId}
theorem Q5.y3 (h : Q5 W g X (.cells #[u0, u1, u2, u3, u4] U (0, 0)) Z M N w) (v : Value) : Q5 W g X (.cells #[u0, u1, u2, v, u4] U (0, 0)) Z M N (w.setCell ⟨g + 1, 3, none⟩ v) := h.sety v _ (by simp [World.setCell, Array.getElem?_modify, h.b3.y])
theorem Q5.z3 (h : Q5 W g X Y (.cells #[u0, u1, u2, u3, u4] U (0, 0)) M N w) (v : Value) : Q5 W g X Y (.cells #[u0, u1, u2, v, u4] U (0, 0)) M N (w.setCell ⟨g + 1 + 1, 3, none⟩ v) := h.setz v _ (by simp [World.setCell, Array.getElem?_modify, h.b3.z])
theorem Q5.z4 (h : Q5 W g X Y (.cells #[u0, u1, u2, u3, u4] U (0, 0)) M N w) (v : Value) : Q5 W g X Y (.cells #[u0, u1, u2, u3, v] U (0, 0)) M N (w.setCell ⟨g + 1 + 1, 4, none⟩ v) := h.setz v _ (by simp [World.setCell, Array.getElem?_modify, h.b3.z])
end
/-- a result's box filled -/
def EvFill (w0 : World) (b : Nat) (C : Array Value) (v : Value) (w : World) : Prop := v = undef ∧ w.heap[b]? = some (.cells C 29 (0, 0)) ∧ Flow.Into [b] w0 w
theorem below_fill {W w w' : World} {b : Nat} {S : List Nat} (h : Below b W w) (hi : Flow.Into S w w') (hS : ∀ k ∈ S, b ≤ k) (hb : b ≤ w.heap.size) : Below b W w' :=
  ⟨hi.os.trans h.os, hi.tape.trans h.tape, hi.output.trans h.output, Nat.le_trans h.size hi.size, fun k hk => (hi.block k (Nat.lt_of_lt_of_le hk hb) (fun hm => by have := hS k hm; omega)).trans (h.block k hk)⟩
theorem into_wide {w w' : World} {S T : List Nat} (h : Flow.Into S w w') (hs : ∀ k ∈ S, k ∈ T) : Flow.Into T w w' := ⟨h.os, h.tape, h.output, h.size, fun k hk hn => h.block k hk fun hm => hn (hs k hm)⟩
end No
end Go.Proofs.Ytlabbmfiecbigaa

namespace Go.Proofs.Ytlabbmfiecbigaa
open Go.RowKit
namespace Fa
open Mem Lx Bu
set_option maxRecDepth 100000 in
set_option maxHeartbeats 2000000 in
theorem RWay_any {W : World} {A : Option Addr} {c : Nat} {L : List ByteArray} (h : SL W A L) (key : ByteArray) (hk : ∀ m, m ∈ L → m.size ≤ maxLen) (hl : L.length ≤ 1048576) : Calls Try.prog 22 #[.slice A L.length c, .string key] W fun e w' => e = .returned (.int .i64 (wayS L key : Int)) ∧ Below W.heap.size W w' := by
  have HT : Hid (wayS (L.take L.length) key = wayS L key) := by unfold Hid; rw [List.take_length]
  generalize hn : L.length = n at *
  have HN := Lib.hid hn
  have HH := Lib.hid h
  have HK := Lib.hid hk
  clear h hk hn
  go_enter Try.func22, Try.ntmps22
  go_wp2_with fail
  go_loopg [5, 6] n (fun gk nv iv wr => ∃ k j : Nat, k ≤ n ∧ gk = n - k ∧ iv = .int .i64 (k : Int) ∧ nv = .int .i64 (j : Int) ∧ j ≤ k ∧ Hid (wayS (L.take k) key = j) ∧ Hid (Below W.heap.size W wr))
  case atStart => exact ⟨0, 0, Nat.zero_le _, rfl, rfl, rfl, Nat.le_refl _, rfl, Below.refl _ _⟩
  case round =>
    obtain ⟨k, j, hk, rfl, rfl, rfl, hj, HJ, HB⟩ := hrel
    by_cases hlt : k < n
    · have hkL : k < L.length := by rw [HN.out]; exact hlt
      obtain ⟨x, hxx⟩ : ∃ x, x = L[k] := ⟨_, rfl⟩
      have hx' := nat_lenS hkL
      rw [← hxx] at hx'
      obtain ⟨b, o, e, -, c0⟩ := RdK.str (HH.out.kept HB.out) hx'
      subst e
      have HS := Lib.hid (wayS_next (key := key) hx')
      have cX := fun w => Lib.hid (RCmp x key (HK.out x (List.mem_of_getElem? hx')) w)
      have hw2 : IntKind.i64.wrap ((k : Int) + 1) = ((k + 1 : Nat) : Int) := by rw [IntKind.wrap_i64]; omega
      have hw3 : IntKind.i64.wrap ((j : Int) + 1) = ((j + 1 : Nat) : Int) := by rw [IntKind.wrap_i64]; omega
      clear hxx hx' hkL
      by_cases hz : cmpB x key ≤ 0
      · have HJ2 : Hid (wayS (L.take (k + 1)) key = j + 1) := by
          unfold Hid
          rw [HS.out, HJ.out, if_pos hz]
        clear HS
        generalize cmpB x key = z at *
        go_wp2_with (go_at_call 29; refine (cX _).out.mono ?_; rintro e w' ⟨rfl, hb⟩)
        have HB2 := Lib.hid (HB.out.trans (hb.mono HB.out.size))
        go_roundg (n - (k + 1))
        case measure => omega
        case rel => exact ⟨k + 1, j + 1, hlt, rfl, by go_num, by go_num, by omega, HJ2, HB2⟩
      · have HJ2 : Hid (wayS (L.take (k + 1)) key = j) := by
          unfold Hid
          rw [HS.out, HJ.out, if_neg hz]
          rfl
        have hd : decide (cmpB x key ≤ 0) = false := by simpa using hz
        clear HS
        generalize cmpB x key = z at *
        go_wp2_with (go_at_call 29; refine (cX _).out.mono ?_; rintro e w' ⟨rfl, hb⟩)
        have HB2 := Lib.hid (HB.out.trans (hb.mono HB.out.size))
        go_roundg (n - (k + 1))
        case measure => omega
        case rel => exact ⟨k + 1, j, hlt, rfl, by go_num, rfl, by omega, HJ2, HB2⟩
    · obtain rfl : k = n := by omega
      have HE : Hid (wayS L key = j) := by rw [← HT.out]; exact HJ.out
      clear hlt
      go_wp2_with fail
      go_ret
      exact ⟨by rw [HE.out]; rfl, HB.out⟩
end Fa
end Go.Proofs.Ytlabbmfiecbigaa

namespace Go.Proofs.Ytlabbmfiecbigaa
open Go.RowKit
namespace No
open Mem Lx Bu Lf Fa
theorem four_new (W : World) (X Y Z V : Obj) : ((((W.alloc X).alloc Y).alloc Z).alloc V).heap[W.heap.size]? = some X ∧ ((((W.alloc X).alloc Y).alloc Z).alloc V).heap[W.heap.size + 1]? = some Y ∧ ((((W.alloc X).alloc Y).alloc Z).alloc V).heap[W.heap.size + 1 + 1]? = some Z ∧ ((((W.alloc X).alloc Y).alloc Z).alloc V).heap[W.heap.size + 1 + 1 + 1]? = some V ∧ Below W.heap.size W ((((W.alloc X).alloc Y).alloc Z).alloc V) := by
  have h3 := B3.new W X Y Z
  have hb : Below (((W.alloc X).alloc Y).alloc Z).heap.size (((W.alloc X).alloc Y).alloc Z) ((((W.alloc X).alloc Y).alloc Z).alloc V) := (Below.refl _ _).alloc (Nat.le_refl _) _
  have h4 := h3.kept hb
  refine ⟨h4.x, h4.y, h4.z, ?_, h4.below⟩
  have := heap_alloc_new (((W.alloc X).alloc Y).alloc Z) V
  simpa using this
theorem rd_block {α : Type} {K : Kind α} {w : World} {g : Nat} {L : List α} {f : Nat × Nat} (h : w.heap[g]? = some (.cells (L.flatMap K.cs).toArray K.T f)) : RdK K w (some ⟨g, 0, none⟩) L := fun _ => by
  refine ⟨g, 0, rfl, (Array.getElem?_eq_some_iff.1 h).1, fun i x hx j u hu => ?_⟩
  have hj : j < K.k := by
    have := (List.getElem?_eq_some_iff.1 hu).1
    rw [K.len] at this
    exact this
  have := K.at_ hx hj
  simp only [World.cell?, h, Nat.zero_add]
  simpa [this] using hu
end No
end Go.Proofs.Ytlabbmfiecbigaa

namespace Go.Proofs.Ytlabbmfiecbigaa
open Go.RowKit
namespace Fa
open Mem Lx Bu
set_option maxRecDepth 100000 in
set_option maxHeartbeats 2000000 in
theorem RSameS_any {W : World} {A A' : Option Addr} {c c' : Nat} {L L' : List ByteArray} (h : SL W A L) (h' : SL W A' L') (hl : L.length ≤ 1048576) (_ : L'.length ≤ 1048576) : Calls Try.prog 26 #[.slice A L.length c, .slice A' L'.length c'] W fun e w' => (∃ v : Bool, e = .returned (.bool v) ∧ (v = true ↔ L = L')) ∧ Below W.heap.size W w' := by
  obtain ⟨n, hn⟩ : ∃ n, n = L.length := ⟨_, rfl⟩
  by_cases hnn : L.length = L'.length
  case neg =>
    have HR : Hid (¬ L = L') := fun e => hnn (by rw [e])
    have hd : ((L.length : Int) != (L'.length : Int)) = true := by simp; omega
    clear h h' hn hl
    generalize L.length = n at *
    generalize L'.length = n' at *
    clear hnn
    go_enter Try.func26, Try.ntmps26
    go_wp2
    go_ret
    exact ⟨⟨false, rfl, by simpa using HR.out⟩, Below.refl _ _⟩
  rw [← hnn, ← hn]
  rw [← hn] at hl
  have HN := Lib.hid hn
  have HN' : Hid (n = L'.length) := hn.trans hnn
  have HH := Lib.hid h
  have HH' := Lib.hid h'
  clear h h' hn hnn
  go_enter Try.func26, Try.ntmps26
  go_wp2_with fail
  go_loopg [5] n (fun gk iv wr => ∃ k : Nat, k ≤ n ∧ gk = n - k ∧ iv = .int .i64 (k : Int) ∧ Hid (∀ i, i < k → L[i]? = L'[i]?) ∧ Hid (Below W.heap.size W wr))
  case atStart => exact ⟨0, Nat.zero_le _, rfl, rfl, fun i hi => by omega, Below.refl _ _⟩
  case round =>
    obtain ⟨k, hk, rfl, rfl, HE, HB⟩ := hrel
    by_cases hlt : k < n
    · have hj : k < L.length := by rw [← HN.out]; exact hlt
      have hj' : k < L'.length := by rw [← HN'.out]; exact hlt
      obtain ⟨x, hx⟩ : ∃ x, x = L[k] := ⟨_, rfl⟩
      obtain ⟨y, hy⟩ : ∃ y, y = L'[k] := ⟨_, rfl⟩
      have hx' := nat_lenS hj
      have hy' := nat_lenS hj'
      rw [← hx] at hx'
      rw [← hy] at hy'
      obtain ⟨b, o, e, -, c0⟩ := RdK.str (HH.out.kept HB.out) hx'
      subst e
      obtain ⟨b', o', e', -, d0⟩ := RdK.str (HH'.out.kept HB.out) hy'
      subst e'
      have HX := Lib.hid hx'
      have HY := Lib.hid hy'
      by_cases hxy : x = y
      · have hne : (x.toList == y.toList) = true := by rw [ba_toList]; simpa using hxy
        have HE2 : Hid (∀ i, i < k + 1 → L[i]? = L'[i]?) := fun i hi => by
          by_cases e : i = k
          · subst e
            rw [HX.out, HY.out, hxy]
          · exact HE.out i (by omega)
        clear hxy
        have z0 := fun q : Drift.Tide [] wr [] => Drift.Tide.cell c0 (by simp) q
        have x0 := fun q : Drift.Tide [] wr [] => Drift.Tide.cell d0 (by simp) q
        have hw2 : IntKind.i64.wrap ((k : Int) + 1) = ((k + 1 : Nat) : Int) := by rw [IntKind.wrap_i64]; omega
        clear c0 d0 hx hy hx' hy' hj hj'
        go_upto_region 6 with fail
        refine Drift.wp_region_drift [] [(0,[]),(1,[]),(2,[]),(3,[]),(4,[]),(5,[]),(6,[]),(7,[]),(8,[])] [] [] (by kernel_rfl) (by kernel_rfl) (by simp) ?_
        simp only [Drift.pick, Drift.opsAt, List.getElem?_toArray, List.getElem?_cons_zero, List.getElem?_cons_succ, List.cons_append, List.nil_append, List.filterMap_nil]
        repeat (refine Drift.walk_step (fun K hK => ?_); go_simp; (refine hK _ ?_; clear hK K))
        refine Drift.walk_nil ?_
        intro w2 hb _
        have HB2 := Lib.hid (HB.out.trans (hb.mono HB.out.size))
        clear z0 x0 hb HB
        simp only [List.length_cons, List.length_nil, List.drop_succ_cons, List.drop_nil, Nat.zero_add, Nat.reduceAdd]
        go_wp2_with fail
        go_roundg (n - (k + 1))
        case measure => omega
        case rel => exact ⟨k + 1, hlt, rfl, by go_num, HE2, HB2⟩
      · have hne : (x.toList == y.toList) = false := by rw [ba_toList]; simpa using hxy
        have HN2 : Hid (¬ L = L') := fun e => hxy (by
          have h1 := HX.out
          rw [e, HY.out] at h1
          exact (Option.some.inj h1).symm)
        clear hxy
        have z0 := fun q : Drift.Tide [] wr [] => Drift.Tide.cell c0 (by simp) q
        have x0 := fun q : Drift.Tide [] wr [] => Drift.Tide.cell d0 (by simp) q
        have hw2 : IntKind.i64.wrap ((k : Int) + 1) = ((k + 1 : Nat) : Int) := by rw [IntKind.wrap_i64]; omega
        clear c0 d0 hx hy hx' hy' hj hj'
        go_upto_region 6 with fail
        refine Drift.wp_region_drift [] [(0,[]),(1,[]),(2,[]),(3,[]),(4,[]),(5,[]),(6,[]),(7,[]),(8,[])] [] [] (by kernel_rfl) (by kernel_rfl) (by simp) ?_
        simp only [Drift.pick, Drift.opsAt, List.getElem?_toArray, List.getElem?_cons_zero, List.getElem?_cons_succ, List.cons_append, List.nil_append, List.filterMap_nil]
        repeat (refine Drift.walk_step (fun K hK => ?_); go_simp; (refine hK _ ?_; clear hK K))
        refine Drift.walk_nil ?_
        intro w2 hb _
        have HB2 := Lib.hid (HB.out.trans (hb.mono HB.out.size))
        clear z0 x0 hb HB
        simp only [List.length_cons, List.length_nil, List.drop_succ_cons, List.drop_nil, Nat.zero_add, Nat.reduceAdd]
        go_wp2_with fail
        go_ret
        exact ⟨⟨false, rfl, by simpa using HN2.out⟩, HB2.out⟩
    · have HR : Hid (L = L') := by
        refine List.ext_getElem? fun i => ?_
        by_cases hi : i < k
        · exact HE.out i hi
        · rw [List.getElem?_eq_none (by rw [← HN.out]; omega), List.getElem?_eq_none (by rw [← HN'.out]; omega)]
      obtain rfl : k = n := by omega
      clear hlt
      go_wp2_with fail
      go_ret
      exact ⟨⟨true, rfl, by simpa using HR.out⟩, HB.out⟩
end Fa
end Go.Proofs.Ytlabbmfiecbigaa

namespace Go.Proofs.Ytlabbmfiecbigaa
open Go.RowKit
namespace No
open Mem Lx Bu
open Lf (Pr PrK PL P3 PC)
open Fa (StK SL SC wayS SRise RightS)
theorem nd_eq {n n' : Nd} : n = n' ↔ n.lv = n'.lv ∧ n.kids = n'.kids ∧ n.piv = n'.piv ∧ n.buf = n'.buf ∧ n.prs = n'.prs := by
  obtain ⟨a, b, c, d, e⟩ := n
  obtain ⟨a', b', c', d', e'⟩ := n'
  simp
set_option maxRecDepth 100000 in
set_option maxHeartbeats 4000000 in
theorem RSame_any {W : World} {n n' : Nd} {a a' : At} (h : NdIn W n a) (h' : NdIn W n' a') (hs : Sz n) (hs' : Sz n') : Calls Try.prog 9 #[.agg (ndCs n a), .agg (ndCs n' a')] W fun e w' => (∃ v : Bool, e = .returned (.bool v) ∧ (v = true ↔ n = n')) ∧ Below W.heap.size W w' := by
  obtain ⟨b1, hb1⟩ := bool_of (n.kids = n'.kids)
  obtain ⟨b2, hb2⟩ := bool_of (n.piv = n'.piv)
  obtain ⟨b3, hb3⟩ := bool_of (n.buf = n'.buf)
  obtain ⟨b4, hb4⟩ := bool_of (n.prs = n'.prs)
  have c1 : ∀ (W1 : World), Below W.heap.size W W1 → Hid (Calls Try.prog 25 #[.slice a.kA n.kids.length a.kc, .slice a'.kA n'.kids.length a'.kc] W1 fun e w' => e = .returned (.bool b1) ∧ Below W1.heap.size W1 w') := fun W1 hb => (RBlocks_any (c := a.kc) (c' := a'.kc) (h.kept hb).kids.1 (h'.kept hb).kids.1 (Nat.le_trans hs.kl (by decide)) (Nat.le_trans hs'.kl (by decide))).mono fun e w' ⟨⟨v, he, hv⟩, hb⟩ => ⟨by rw [he, bool_one hv hb1], hb⟩
  have c2 : ∀ (W1 : World), Below W.heap.size W W1 → Hid (Calls Try.prog 26 #[.slice a.pA n.piv.length a.pc, .slice a'.pA n'.piv.length a'.pc] W1 fun e w' => e = .returned (.bool b2) ∧ Below W1.heap.size W1 w') := fun W1 hb => (Fa.RSameS_any (c := a.pc) (c' := a'.pc) (h.kept hb).piv.1 (h'.kept hb).piv.1 (Nat.le_trans hs.pl (by decide)) (Nat.le_trans hs'.pl (by decide))).mono fun e w' ⟨⟨v, he, hv⟩, hb⟩ => ⟨by rw [he, bool_one hv hb2], hb⟩
  have c3 : ∀ (W1 : World), Below W.heap.size W W1 → Hid (Calls Try.prog 27 #[.slice a.bA n.buf.length a.bc, .slice a'.bA n'.buf.length a'.bc] W1 fun e w' => e = .returned (.bool b3) ∧ Below W1.heap.size W1 w') := fun W1 hb => (Bu.RSame_any (c := a.bc) (c' := a'.bc) (h.kept hb).buf.1 (h'.kept hb).buf.1 (Nat.le_trans hs.bl (by decide)) (Nat.le_trans hs'.bl (by decide))).mono fun e w' ⟨⟨v, he, hv⟩, hb⟩ => ⟨by rw [he, bool_one hv hb3], hb⟩
  have c4 : ∀ (W1 : World), Below W.heap.size W W1 → Hid (Calls Try.prog 28 #[.slice a.qA n.prs.length a.qc, .slice a'.qA n'.prs.length a'.qc] W1 fun e w' => e = .returned (.bool b4) ∧ Below W1.heap.size W1 w') := fun W1 hb => (Lf.RSame_any (c := a.qc) (c' := a'.qc) (h.kept hb).prs.1 (h'.kept hb).prs.1 (Nat.le_trans hs.ql (by decide)) (Nat.le_trans hs'.ql (by decide))).mono fun e w' ⟨⟨v, he, hv⟩, hb⟩ => ⟨by rw [he, bool_one hv hb4], hb⟩
  have HP : Hid (∀ v : Bool, v = (decide (n.lv = n'.lv) && b1 && b2 && b3 && b4) → (v = true ↔ n = n')) := fun v hv => by
    subst hv
    rw [nd_eq, Bool.and_eq_true, Bool.and_eq_true, Bool.and_eq_true, Bool.and_eq_true, hb1, hb2, hb3, hb4, decide_eq_true_iff, and_assoc, and_assoc, and_assoc]
  generalize hPP : (n = n') = PP at *
  clear hPP h h' hs hs' hb1 hb2 hb3 hb4
  obtain ⟨lv, K, P, B, Q⟩ := n
  obtain ⟨kA, kc, pA, pc, bA, bc, qA, qc⟩ := a
  obtain ⟨lv', K', P', B', Q'⟩ := n'
  obtain ⟨kA', kc', pA', pc', bA', bc', qA', qc'⟩ := a'
  unfold ndCs at *
  simp only at *
  generalize K.length = kn at *
  generalize P.length = pn at *
  generalize B.length = bn at *
  generalize Q.length = qn at *
  generalize K'.length = kn' at *
  generalize P'.length = pn' at *
  generalize B'.length = bn' at *
  generalize Q'.length = qn' at *
  go_enter Try.func9, Try.ntmps9
  go_upto_region 1 with fail
  have h3 := two_new W (.cells #[.int .i64 lv, .slice kA kn kc, .slice pA pn pc, .slice bA bn bc, .slice qA qn qc] 29) (.cells #[.int .i64 lv', .slice kA' kn' kc', .slice pA' pn' pc', .slice bA' bn' bc', .slice qA' qn' qc'] 29)
  generalize (W.alloc (.cells #[.int .i64 lv, .slice kA kn kc, .slice pA pn pc, .slice bA bn bc, .slice qA qn qc] 29)).alloc (.cells #[.int .i64 lv', .slice kA' kn' kc', .slice pA' pn' pc', .slice bA' bn' bc', .slice qA' qn' qc'] 29) = w1 at *
  have HB := Lib.hid h3.2.2
  obtain ⟨g, hg⟩ : ∃ g, g = W.heap.size := ⟨_, rfl⟩
  simp only [← hg]
  have HX : Hid (w1.heap[g]? = some (.cells #[.int .i64 lv, .slice kA kn kc, .slice pA pn pc, .slice bA bn bc, .slice qA qn qc] 29 (0, 0))) := by rw [hg]; exact h3.1
  have HY : Hid (w1.heap[g + 1]? = some (.cells #[.int .i64 lv', .slice kA' kn' kc', .slice pA' pn' pc', .slice bA' bn' bc', .slice qA' qn' qc'] 29 (0, 0))) := by rw [hg]; exact h3.2.1
  clear h3 hg
  obtain ⟨d0, d1, d2, d3, d4⟩ := box5 HX.out
  obtain ⟨e0, e1, e2, e3, e4⟩ := box5 HY.out
  by_cases hlv : lv = lv'
  case neg =>
    have hne : ¬ (lv = lv') := hlv
    go_wp2_with (first
      | (go_at_call 25; refine (c1 _ HB.out).out.mono ?_; rintro e w2 ⟨rfl, hb⟩; replace HB := Lib.hid (HB.out.trans (hb.mono HB.out.size)); replace HX := Lib.hid (kept3 HX.out hb); replace HY := Lib.hid (kept3 HY.out hb); replace d1 := (box5 HX.out).2.1; replace d2 := (box5 HX.out).2.2.1; replace d3 := (box5 HX.out).2.2.2.1; replace d4 := (box5 HX.out).2.2.2.2; replace e1 := (box5 HY.out).2.1; replace e2 := (box5 HY.out).2.2.1; replace e3 := (box5 HY.out).2.2.2.1; replace e4 := (box5 HY.out).2.2.2.2; clear hb)
      | (go_at_call 26; refine (c2 _ HB.out).out.mono ?_; rintro e w2 ⟨rfl, hb⟩; replace HB := Lib.hid (HB.out.trans (hb.mono HB.out.size)); replace HX := Lib.hid (kept3 HX.out hb); replace HY := Lib.hid (kept3 HY.out hb); replace d1 := (box5 HX.out).2.1; replace d2 := (box5 HX.out).2.2.1; replace d3 := (box5 HX.out).2.2.2.1; replace d4 := (box5 HX.out).2.2.2.2; replace e1 := (box5 HY.out).2.1; replace e2 := (box5 HY.out).2.2.1; replace e3 := (box5 HY.out).2.2.2.1; replace e4 := (box5 HY.out).2.2.2.2; clear hb)
      | (go_at_call 27; refine (c3 _ HB.out).out.mono ?_; rintro e w2 ⟨rfl, hb⟩; replace HB := Lib.hid (HB.out.trans (hb.mono HB.out.size)); replace HX := Lib.hid (kept3 HX.out hb); replace HY := Lib.hid (kept3 HY.out hb); replace d1 := (box5 HX.out).2.1; replace d2 := (box5 HX.out).2.2.1; replace d3 := (box5 HX.out).2.2.2.1; replace d4 := (box5 HX.out).2.2.2.2; replace e1 := (box5 HY.out).2.1; replace e2 := (box5 HY.out).2.2.1; replace e3 := (box5 HY.out).2.2.2.1; replace e4 := (box5 HY.out).2.2.2.2; clear hb)
      | (go_at_call 28; refine (c4 _ HB.out).out.mono ?_; rintro e w2 ⟨rfl, hb⟩; replace HB := Lib.hid (HB.out.trans (hb.mono HB.out.size)); replace HX := Lib.hid (kept3 HX.out hb); replace HY := Lib.hid (kept3 HY.out hb); replace d1 := (box5 HX.out).2.1; replace d2 := (box5 HX.out).2.2.1; replace d3 := (box5 HX.out).2.2.2.1; replace d4 := (box5 HX.out).2.2.2.2; replace e1 := (box5 HY.out).2.1; replace e2 := (box5 HY.out).2.2.1; replace e3 := (box5 HY.out).2.2.2.1; replace e4 := (box5 HY.out).2.2.2.2; clear hb))
    go_ret
    exact ⟨⟨false, rfl, HP.out false (by simp [hlv])⟩, HB.out⟩
  subst hlv
  cases b1 with
  | false =>
    go_wp2_with (first
      | (go_at_call 25; refine (c1 _ HB.out).out.mono ?_; rintro e w2 ⟨rfl, hb⟩; replace HB := Lib.hid (HB.out.trans (hb.mono HB.out.size)); replace HX := Lib.hid (kept3 HX.out hb); replace HY := Lib.hid (kept3 HY.out hb); replace d1 := (box5 HX.out).2.1; replace d2 := (box5 HX.out).2.2.1; replace d3 := (box5 HX.out).2.2.2.1; replace d4 := (box5 HX.out).2.2.2.2; replace e1 := (box5 HY.out).2.1; replace e2 := (box5 HY.out).2.2.1; replace e3 := (box5 HY.out).2.2.2.1; replace e4 := (box5 HY.out).2.2.2.2; clear hb)
      | (go_at_call 26; refine (c2 _ HB.out).out.mono ?_; rintro e w2 ⟨rfl, hb⟩; replace HB := Lib.hid (HB.out.trans (hb.mono HB.out.size)); replace HX := Lib.hid (kept3 HX.out hb); replace HY := Lib.hid (kept3 HY.out hb); replace d1 := (box5 HX.out).2.1; replace d2 := (box5 HX.out).2.2.1; replace d3 := (box5 HX.out).2.2.2.1; replace d4 := (box5 HX.out).2.2.2.2; replace e1 := (box5 HY.out).2.1; replace e2 := (box5 HY.out).2.2.1; replace e3 := (box5 HY.out).2.2.2.1; replace e4 := (box5 HY.out).2.2.2.2; clear hb)
      | (go_at_call 27; refine (c3 _ HB.out).out.mono ?_; rintro e w2 ⟨rfl, hb⟩; replace HB := Lib.hid (HB.out.trans (hb.mono HB.out.size)); replace HX := Lib.hid (kept3 HX.out hb); replace HY := Lib.hid (kept3 HY.out hb); replace d1 := (box5 HX.out).2.1; replace d2 := (box5 HX.out).2.2.1; replace d3 := (box5 HX.out).2.2.2.1; replace d4 := (box5 HX.out).2.2.2.2; replace e1 := (box5 HY.out).2.1; replace e2 := (box5 HY.out).2.2.1; replace e3 := (box5 HY.out).2.2.2.1; replace e4 := (box5 HY.out).2.2.2.2; clear hb)
      | (go_at_call 28; refine (c4 _ HB.out).out.mono ?_; rintro e w2 ⟨rfl, hb⟩; replace HB := Lib.hid (HB.out.trans (hb.mono HB.out.size)); replace HX := Lib.hid (kept3 HX.out hb); replace HY := Lib.hid (kept3 HY.out hb); replace d1 := (box5 HX.out).2.1; replace d2 := (box5 HX.out).2.2.1; replace d3 := (box5 HX.out).2.2.2.1; replace d4 := (box5 HX.out).2.2.2.2; replace e1 := (box5 HY.out).2.1; replace e2 := (box5 HY.out).2.2.1; replace e3 := (box5 HY.out).2.2.2.1; replace e4 := (box5 HY.out).2.2.2.2; clear hb))
    go_ret
    exact ⟨⟨false, rfl, HP.out false (by simp)⟩, HB.out⟩
  | true =>
    cases b2 with
    | false =>
      go_wp2_with (first
        | (go_at_call 25; refine (c1 _ HB.out).out.mono ?_; rintro e w2 ⟨rfl, hb⟩; replace HB := Lib.hid (HB.out.trans (hb.mono HB.out.size)); replace HX := Lib.hid (kept3 HX.out hb); replace HY := Lib.hid (kept3 HY.out hb); replace d1 := (box5 HX.out).2.1; replace d2 := (box5 HX.out).2.2.1; replace d3 := (box5 HX.out).2.2.2.1; replace d4 := (box5 HX.out).2.2.2.2; replace e1 := (box5 HY.out).2.1; replace e2 := (box5 HY.out).2.2.1; replace e3 := (box5 HY.out).2.2.2.1; replace e4 := (box5 HY.out).2.2.2.2; clear hb)
        | (go_at_call 26; refine (c2 _ HB.out).out.mono ?_; rintro e w2 ⟨rfl, hb⟩; replace HB := Lib.hid (HB.out.trans (hb.mono HB.out.size)); replace HX := Lib.hid (kept3 HX.out hb); replace HY := Lib.hid (kept3 HY.out hb); replace d1 := (box5 HX.out).2.1; replace d2 := (box5 HX.out).2.2.1; replace d3 := (box5 HX.out).2.2.2.1; replace d4 := (box5 HX.out).2.2.2.2; replace e1 := (box5 HY.out).2.1; replace e2 := (box5 HY.out).2.2.1; replace e3 := (box5 HY.out).2.2.2.1; replace e4 := (box5 HY.out).2.2.2.2; clear hb)
        | (go_at_call 27; refine (c3 _ HB.out).out.mono ?_; rintro e w2 ⟨rfl, hb⟩; replace HB := Lib.hid (HB.out.trans (hb.mono HB.out.size)); replace HX := Lib.hid (kept3 HX.out hb); replace HY := Lib.hid (kept3 HY.out hb); replace d1 := (box5 HX.out).2.1; replace d2 := (box5 HX.out).2.2.1; replace d3 := (box5 HX.out).2.2.2.1; replace d4 := (box5 HX.out).2.2.2.2; replace e1 := (box5 HY.out).2.1; replace e2 := (box5 HY.out).2.2.1; replace e3 := (box5 HY.out).2.2.2.1; replace e4 := (box5 HY.out).2.2.2.2; clear hb)
        | (go_at_call 28; refine (c4 _ HB.out).out.mono ?_; rintro e w2 ⟨rfl, hb⟩; replace HB := Lib.hid (HB.out.trans (hb.mono HB.out.size)); replace HX := Lib.hid (kept3 HX.out hb); replace HY := Lib.hid (kept3 HY.out hb); replace d1 := (box5 HX.out).2.1; replace d2 := (box5 HX.out).2.2.1; replace d3 := (box5 HX.out).2.2.2.1; replace d4 := (box5 HX.out).2.2.2.2; replace e1 := (box5 HY.out).2.1; replace e2 := (box5 HY.out).2.2.1; replace e3 := (box5 HY.out).2.2.2.1; replace e4 := (box5 HY.out).2.2.2.2; clear hb))
      go_ret
      exact ⟨⟨false, rfl, HP.out false (by simp)⟩, HB.out⟩
    | true =>
      cases b3 with
      | false =>
        go_wp2_with (first
          | (go_at_call 25; refine (c1 _ HB.out).out.mono ?_; rintro e w2 ⟨rfl, hb⟩; replace HB := Lib.hid (HB.out.trans (hb.mono HB.out.size)); replace HX := Lib.hid (kept3 HX.out hb); replace HY := Lib.hid (kept3 HY.out hb); replace d1 := (box5 HX.out).2.1; replace d2 := (box5 HX.out).2.2.1; replace d3 := (box5 HX.out).2.2.2.1; replace d4 := (box5 HX.out).2.2.2.2; replace e1 := (box5 HY.out).2.1; replace e2 := (box5 HY.out).2.2.1; replace e3 := (box5 HY.out).2.2.2.1; replace e4 := (box5 HY.out).2.2.2.2; clear hb)
          | (go_at_call 26; refine (c2 _ HB.out).out.mono ?_; rintro e w2 ⟨rfl, hb⟩; replace HB := Lib.hid (HB.out.trans (hb.mono HB.out.size)); replace HX := Lib.hid (kept3 HX.out hb); replace HY := Lib.hid (kept3 HY.out hb); replace d1 := (box5 HX.out).2.1; replace d2 := (box5 HX.out).2.2.1; replace d3 := (box5 HX.out).2.2.2.1; replace d4 := (box5 HX.out).2.2.2.2; replace e1 := (box5 HY.out).2.1; replace e2 := (box5 HY.out).2.2.1; replace e3 := (box5 HY.out).2.2.2.1; replace e4 := (box5 HY.out).2.2.2.2; clear hb)
          | (go_at_call 27; refine (c3 _ HB.out).out.mono ?_; rintro e w2 ⟨rfl, hb⟩; replace HB := Lib.hid (HB.out.trans (hb.mono HB.out.size)); replace HX := Lib.hid (kept3 HX.out hb); replace HY := Lib.hid (kept3 HY.out hb); replace d1 := (box5 HX.out).2.1; replace d2 := (box5 HX.out).2.2.1; replace d3 := (box5 HX.out).2.2.2.1; replace d4 := (box5 HX.out).2.2.2.2; replace e1 := (box5 HY.out).2.1; replace e2 := (box5 HY.out).2.2.1; replace e3 := (box5 HY.out).2.2.2.1; replace e4 := (box5 HY.out).2.2.2.2; clear hb)
          | (go_at_call 28; refine (c4 _ HB.out).out.mono ?_; rintro e w2 ⟨rfl, hb⟩; replace HB := Lib.hid (HB.out.trans (hb.mono HB.out.size)); replace HX := Lib.hid (kept3 HX.out hb); replace HY := Lib.hid (kept3 HY.out hb); replace d1 := (box5 HX.out).2.1; replace d2 := (box5 HX.out).2.2.1; replace d3 := (box5 HX.out).2.2.2.1; replace d4 := (box5 HX.out).2.2.2.2; replace e1 := (box5 HY.out).2.1; replace e2 := (box5 HY.out).2.2.1; replace e3 := (box5 HY.out).2.2.2.1; replace e4 := (box5 HY.out).2.2.2.2; clear hb))
        go_ret
        exact ⟨⟨false, rfl, HP.out false (by simp)⟩, HB.out⟩
      | true =>
        go_wp2_with (first
          | (go_at_call 25; refine (c1 _ HB.out).out.mono ?_; rintro e w2 ⟨rfl, hb⟩; replace HB := Lib.hid (HB.out.trans (hb.mono HB.out.size)); replace HX := Lib.hid (kept3 HX.out hb); replace HY := Lib.hid (kept3 HY.out hb); replace d1 := (box5 HX.out).2.1; replace d2 := (box5 HX.out).2.2.1; replace d3 := (box5 HX.out).2.2.2.1; replace d4 := (box5 HX.out).2.2.2.2; replace e1 := (box5 HY.out).2.1; replace e2 := (box5 HY.out).2.2.1; replace e3 := (box5 HY.out).2.2.2.1; replace e4 := (box5 HY.out).2.2.2.2; clear hb)
          | (go_at_call 26; refine (c2 _ HB.out).out.mono ?_; rintro e w2 ⟨rfl, hb⟩; replace HB := Lib.hid (HB.out.trans (hb.mono HB.out.size)); replace HX := Lib.hid (kept3 HX.out hb); replace HY := Lib.hid (kept3 HY.out hb); replace d1 := (box5 HX.out).2.1; replace d2 := (box5 HX.out).2.2.1; replace d3 := (box5 HX.out).2.2.2.1; replace d4 := (box5 HX.out).2.2.2.2; replace e1 := (box5 HY.out).2.1; replace e2 := (box5 HY.out).2.2.1; replace e3 := (box5 HY.out).2.2.2.1; replace e4 := (box5 HY.out).2.2.2.2; clear hb)
          | (go_at_call 27; refine (c3 _ HB.out).out.mono ?_; rintro e w2 ⟨rfl, hb⟩; replace HB := Lib.hid (HB.out.trans (hb.mono HB.out.size)); replace HX := Lib.hid (kept3 HX.out hb); replace HY := Lib.hid (kept3 HY.out hb); replace d1 := (box5 HX.out).2.1; replace d2 := (box5 HX.out).2.2.1; replace d3 := (box5 HX.out).2.2.2.1; replace d4 := (box5 HX.out).2.2.2.2; replace e1 := (box5 HY.out).2.1; replace e2 := (box5 HY.out).2.2.1; replace e3 := (box5 HY.out).2.2.2.1; replace e4 := (box5 HY.out).2.2.2.2; clear hb)
          | (go_at_call 28; refine (c4 _ HB.out).out.mono ?_; rintro e w2 ⟨rfl, hb⟩; replace HB := Lib.hid (HB.out.trans (hb.mono HB.out.size)); replace HX := Lib.hid (kept3 HX.out hb); replace HY := Lib.hid (kept3 HY.out hb); replace d1 := (box5 HX.out).2.1; replace d2 := (box5 HX.out).2.2.1; replace d3 := (box5 HX.out).2.2.2.1; replace d4 := (box5 HX.out).2.2.2.2; replace e1 := (box5 HY.out).2.1; replace e2 := (box5 HY.out).2.2.1; replace e3 := (box5 HY.out).2.2.2.1; replace e4 := (box5 HY.out).2.2.2.2; clear hb))
        go_ret
        exact ⟨⟨b4, rfl, HP.out b4 (by simp)⟩, HB.out⟩
end No
end Go.Proofs.Ytlabbmfiecbigaa

namespace Go.Proofs.Ytlabbmfiecbigaa
open Go.RowKit
namespace No
open Mem Lx Bu Lf Fa
def zeroN : Nd := ⟨0, [], [], [], []⟩
/-- messages ahead of a key -/
def belowM (p : ByteArray) (B : List Mg) : List Mg := B.filter fun m => decide (cmpB m.1 p < 0)
/-- the others -/
def restM (p : ByteArray) (B : List Mg) : List Mg := B.filter fun m => !decide (cmpB m.1 p < 0)
/-- its halves, the pivot between them, and whether there are any -/
def halfN (n : Nd) : Nd × Nd × ByteArray × Bool :=
  if n.lv = 0 then (⟨0, [], [], [], (halfP n.prs).1⟩, ⟨0, [], [], [], (halfP n.prs).2.1⟩, (halfP n.prs).2.2.1, (halfP n.prs).2.2.2)
  else if n.kids.length < 2 then (zeroN, zeroN, ⟨#[]⟩, false)
  else (⟨n.lv, n.kids.take ((n.kids.length + 1) / 2), n.piv.take ((n.kids.length + 1) / 2 - 1), belowM (n.piv.getD ((n.kids.length + 1) / 2 - 1) ⟨#[]⟩) n.buf, []⟩,
    ⟨n.lv, n.kids.drop ((n.kids.length + 1) / 2), n.piv.drop ((n.kids.length + 1) / 2), restM (n.piv.getD ((n.kids.length + 1) / 2 - 1) ⟨#[]⟩) n.buf, []⟩,
    n.piv.getD ((n.kids.length + 1) / 2 - 1) ⟨#[]⟩, true)
/-- two joined -/
def joinN (a : Nd) (p : ByteArray) (b : Nd) : Nd × Bool :=
  if a.lv ≠ b.lv then (zeroN, false)
  else (⟨a.lv, a.kids ++ b.kids, if 0 < a.lv then a.piv ++ [p] ++ b.piv else [], a.buf ++ b.buf, a.prs ++ b.prs⟩, true)
def fitsN (c : Cfg) (a b : Nd) : Bool :=
  decide (a.lv = b.lv) && (if a.lv = 0 then decide (2 * ((a.prs.length : Int) + b.prs.length) ≤ c.leaf) else decide (2 * ((a.kids.length : Int) + b.kids.length) ≤ c.fan) && decide ((a.buf.length : Int) + b.buf.length ≤ c.buffer))
/-- what a node has by its Level -/
structure Form (n : Nd) : Prop where
  leaf : n.lv = 0 → n.kids = [] ∧ n.piv = [] ∧ n.buf = []
  inner : n.lv ≠ 0 → 0 < n.lv ∧ n.prs = []
theorem nil_of {α : Type} {l : List α} (h : l.length = 0) : l = [] := List.length_eq_zero_iff.1 h
theorem RightN.form {c : Cfg} {lo hi : ByteArray} {top : Bool} {n : Nd} (h : RightN c lo hi top n) : Form n := ⟨fun e => ⟨nil_of (h.1 e).kids, nil_of (h.1 e).piv, nil_of (h.1 e).buf⟩, fun e => ⟨(h.2 e).1, nil_of (h.2 e).2.prs⟩⟩
/-! ### messages about a key -/
theorem below_rest {p : ByteArray} : ∀ {B : List Mg}, Ri B → belowM p B ++ restM p B = B
  | [], _ => rfl
  | m :: B, h => by
    obtain ⟨h1, h2⟩ := List.pairwise_cons.1 h
    by_cases hm : cmpB m.1 p < 0
    · have := below_rest (p := p) h2
      unfold belowM restM at this ⊢
      rw [List.filter_cons_of_pos (by simpa using hm), List.filter_cons_of_neg (by simpa using hm), List.cons_append, this]
    · have e : belowM p B = [] := List.filter_eq_nil_iff.2 fun x hx => by
        have h3 := h1 x hx
        simp only [decide_eq_true_eq]
        intro h4
        exact hm (cmpB_trans h3 h4)
      have := below_rest (p := p) h2
      rw [e, List.nil_append] at this
      have e2 : belowM p (m :: B) = [] := by
        unfold belowM at e ⊢
        rw [List.filter_cons_of_neg (by simpa using hm), e]
      rw [e2, List.nil_append]
      unfold restM at this ⊢
      rw [List.filter_cons_of_pos (by simpa using hm), this]
theorem below_sub (p : ByteArray) (B : List Mg) : (belowM p B).Sublist B := List.filter_sublist
theorem rest_sub (p : ByteArray) (B : List Mg) : (restM p B).Sublist B := List.filter_sublist
theorem below_at {p : ByteArray} {B : List Mg} {q : Nat} (h1 : ∀ (i : Nat) (m : Mg), i < q → B[i]? = some m → cmpB m.1 p < 0) (h2 : ∀ (i : Nat) (m : Mg), q ≤ i → B[i]? = some m → 0 ≤ cmpB m.1 p) : belowM p B = B.take q ∧ restM p B = B.drop q := by
  have e : B = B.take q ++ B.drop q := (List.take_append_drop q B).symm
  have a1 : ∀ m, m ∈ B.take q → cmpB m.1 p < 0 := fun m hm => by
    obtain ⟨i, hi⟩ := List.getElem?_of_mem hm
    rw [List.getElem?_take] at hi
    split at hi
    · exact h1 i m (by assumption) hi
    · cases hi
  have a2 : ∀ m, m ∈ B.drop q → ¬ cmpB m.1 p < 0 := fun m hm => by
    obtain ⟨i, hi⟩ := List.getElem?_of_mem hm
    rw [List.getElem?_drop] at hi
    have := h2 (q + i) m (by omega) hi
    omega
  constructor
  · have : belowM p B = belowM p (B.take q ++ B.drop q) := by rw [← e]
    rw [this]
    unfold belowM
    rw [List.filter_append, List.filter_eq_self.2 (fun m hm => by simpa using a1 m hm), List.filter_eq_nil_iff.2 (fun m hm => by simpa using a2 m hm), List.append_nil]
  · have : restM p B = restM p (B.take q ++ B.drop q) := by rw [← e]
    rw [this]
    unfold restM
    rw [List.filter_append, List.filter_eq_nil_iff.2 (fun m hm => by simpa using a1 m hm), List.filter_eq_self.2 (fun m hm => by simpa using a2 m hm), List.nil_append]
/-! ### the halves' pivot -/
theorem halfP_at {L : List Pr} (h : 2 ≤ L.length) : ∃ x y, L[(L.length + 1) / 2 - 1]? = some x ∧ L[(L.length + 1) / 2]? = some y ∧ halfP L = (L.take ((L.length + 1) / 2), L.drop ((L.length + 1) / 2), (cutB x.1 y.1).1, true) := by
  have h1 : (L.length + 1) / 2 - 1 < L.length := by omega
  have h2 : (L.length + 1) / 2 < L.length := by omega
  exact ⟨_, _, List.getElem?_eq_getElem h1, List.getElem?_eq_getElem h2, halfP_some (List.getElem?_eq_getElem h1) (List.getElem?_eq_getElem h2)⟩
theorem cutB_size (a b : ByteArray) : (cutB a b).1.size ≤ b.size := by
  by_cases h : 0 ≤ cmpB a b
  · rw [cutB_none h]
    exact Nat.zero_le _
  · rw [cutB_some h]
    simp only [ByteArray.size_extract]
    omega
theorem size_pos {a b : ByteArray} (h : cmpB a b < 0) : 1 ≤ b.size := by
  rcases Nat.eq_zero_or_pos b.size with h0 | h0
  · exfalso
    have hb : b.data.toList = [] := List.length_eq_zero_iff.1 (by rw [len_eq]; exact h0)
    have h1 : cmpB a b = -cmpB b a := cmpB_neg a b
    have h2 : cmpB b a ≤ 0 := by
      unfold cmpB
      rw [hb]
      unfold Lib.compareBytes
      split <;> simp_all
    omega
  · exact h0
theorem cmp_le_lt {a b c : ByteArray} (h : cmpB a b ≤ 0) (k : cmpB b c < 0) : cmpB a c < 0 := cmp_trans_le_lt h k
theorem cmp_lt_le {a b c : ByteArray} (h : cmpB a b < 0) (k : cmpB b c ≤ 0) : cmpB a c < 0 := cmp_trans_lt_le h k
theorem cmp_le_le {a b c : ByteArray} (h : cmpB a b ≤ 0) (k : cmpB b c ≤ 0) : cmpB a c ≤ 0 := cmp_trans_le h k
theorem in_iff {lo hi : ByteArray} {top : Bool} {k : ByteArray} : inB lo hi top k = true ↔ cmpB lo k ≤ 0 ∧ (top = true ∨ cmpB k hi < 0) := by
  unfold inB
  simp
end No
end Go.Proofs.Ytlabbmfiecbigaa

namespace Go.Proofs.Ytlabbmfiecbigaa
open Go.RowKit
namespace No
open Mem Lx Bu Lf Fa
theorem B3.set5y {W : World} {g : Nat} {X Z : Obj} {u0 u1 u2 u3 u4 : Value} {U : TypeId} {w : World} (h : B3 W g X (.cells #[u0, u1, u2, u3, u4] U (0, 0)) Z w) (v0 v1 v2 v3 v4 : Value) : B3 W g X (.cells #[v0, v1, v2, v3, v4] U (0, 0)) Z (set5 w (g + 1) v0 v1 v2 v3 v4) :=
  ⟨set5_below h.below (Nat.le_trans h.at_ (by omega)) _ _ _ _ _, h.at_, (set5_other _ _ _ _ _ (by omega)).trans h.x, set5_at h.y _ _ _ _ _, (set5_other _ _ _ _ _ (by omega)).trans h.z⟩
theorem B3.set5z {W : World} {g : Nat} {X Y : Obj} {u0 u1 u2 u3 u4 : Value} {U : TypeId} {w : World} (h : B3 W g X Y (.cells #[u0, u1, u2, u3, u4] U (0, 0)) w) (v0 v1 v2 v3 v4 : Value) : B3 W g X Y (.cells #[v0, v1, v2, v3, v4] U (0, 0)) (set5 w (g + 1 + 1) v0 v1 v2 v3 v4) :=
  ⟨set5_below h.below (Nat.le_trans h.at_ (by omega)) _ _ _ _ _, h.at_, (set5_other _ _ _ _ _ (by omega)).trans h.x, (set5_other _ _ _ _ _ (by omega)).trans h.y, set5_at h.z _ _ _ _ _⟩
theorem B3.sety4 {W : World} {g : Nat} {X Z : Obj} {u0 u1 u2 u3 u4 : Value} {U : TypeId} {w : World} (h : B3 W g X (.cells #[u0, u1, u2, u3, u4] U (0, 0)) Z w) (v : Value) : B3 W g X (.cells #[u0, u1, u2, u3, v] U (0, 0)) Z (w.setCell ⟨g + 1, 4, none⟩ v) :=
  ⟨h.below.setCell (Nat.le_trans h.at_ (show g ≤ g + 1 by omega)) _, h.at_, (set_other _ (by omega)).trans h.x, by simp [World.setCell, Array.getElem?_modify, h.y], (set_other _ (by omega)).trans h.z⟩
theorem B3.setz4 {W : World} {g : Nat} {X Y : Obj} {u0 u1 u2 u3 u4 : Value} {U : TypeId} {w : World} (h : B3 W g X Y (.cells #[u0, u1, u2, u3, u4] U (0, 0)) w) (v : Value) : B3 W g X Y (.cells #[u0, u1, u2, u3, v] U (0, 0)) (w.setCell ⟨g + 1 + 1, 4, none⟩ v) :=
  ⟨h.below.setCell (Nat.le_trans h.at_ (show g ≤ g + 1 + 1 by omega)) _, h.at_, (set_other _ (by omega)).trans h.x, (set_other _ (by omega)).trans h.y, by simp [World.setCell, Array.getElem?_modify, h.z]⟩
theorem B3.lt {W : World} {g : Nat} {X Y Z : Obj} {w : World} (h : B3 W g X Y Z w) : g + 1 + 1 < w.heap.size := (Array.getElem?_eq_some_iff.1 h.z).1
/-- three boxes of a call that takes settings and two nodes -/
def ndV (lv : Int) (A0 A1 A2 A3 : Option Addr) (n0 c0 n1 c1 n2 c2 n3 c3 : Nat) : Array Value := #[.int .i64 lv, .slice A0 n0 c0, .slice A1 n1 c1, .slice A2 n2 c2, .slice A3 n3 c3]
end No
end Go.Proofs.Ytlabbmfiecbigaa

namespace Go.Proofs.Ytlabbmfiecbigaa
open Go.RowKit
namespace Bu
open Mem Lx
/-- an answer in a row made since B -/
def EvRow (B n : Nat) (X : List Mg) (v : Value) (w : World) : Prop := ∃ A' c', v = .slice A' n c' ∧ M3 w B A' c' X
theorem MM.three {w : World} {g : Nat} {U : TypeId} {L1 L2 L3 : List Mg} {A1 A2 A3 : Option Addr} {n1 n2 n3 c1 c2 c3 : Nat} {fl : Nat × Nat} (h : w.heap[g]? = some (.cells #[.slice A1 n1 c1, .slice A2 n2 c2, .slice A3 n3 c3] U fl)) (e1 : L1.length = n1) (e2 : L2.length = n2) (e3 : L3.length = n3) (h1 : ML w A1 L1) (h2 : ML w A2 L2) (h3 : ML w A3 L3) : MM w g [L1, L2, L3] := fun i M hM => by
  subst e1 e2 e3
  match i, hM with
  | 0, hM =>
    cases hM
    exact ⟨A1, c1, by simp [World.cell?, h], h1⟩
  | 1, hM =>
    cases hM
    exact ⟨A2, c2, by simp [World.cell?, h], h2⟩
  | 2, hM =>
    cases hM
    exact ⟨A3, c3, by simp [World.cell?, h], h3⟩
theorem concat3 {W : World} {g cx : Nat} {U : TypeId} {L1 L2 L3 X : List Mg} {A1 A2 A3 : Option Addr} {n1 n2 n3 c1 c2 c3 N : Nat} {fl : Nat × Nat} (h : W.heap[g]? = some (.cells #[.slice A1 n1 c1, .slice A2 n2 c2, .slice A3 n3 c3] U fl)) (e1 : L1.length = n1) (e2 : L2.length = n2) (e3 : L3.length = n3) (h1 : ML W A1 L1) (h2 : ML W A2 L2) (h3 : ML W A3 L3) (hX : L1 ++ L2 ++ L3 = X) (hN : X.length = N) (hl : N ≤ 1000000) : Calls Try.prog 46 #[.slice (some ⟨g, 0, none⟩) 3 cx] W fun e w' => (∃ v, e = .returned v ∧ EvRow W.heap.size N X v w') ∧ Below W.heap.size W w' := by
  have hf : [L1, L2, L3].flatten = X := by rw [← hX]; simp
  have := Concat_any (cx := cx) (MM.three h e1 e2 e3 h1 h2 h3) (show 3 ≤ 1000 by decide) (by rw [hf, hN]; exact hl)
  rw [hf, hN] at this
  exact this.mono fun e w' ⟨⟨A', c', he, hm⟩, hb⟩ => ⟨⟨_, he, A', c', rfl, hm⟩, hb⟩
theorem concat2 {W : World} {g cx : Nat} {U : TypeId} {L1 L2 X : List Mg} {A1 A2 : Option Addr} {n1 n2 c1 c2 N : Nat} {fl : Nat × Nat} (h : W.heap[g]? = some (.cells #[.slice A1 n1 c1, .slice A2 n2 c2] U fl)) (e1 : L1.length = n1) (e2 : L2.length = n2) (h1 : ML W A1 L1) (h2 : ML W A2 L2) (hX : L1 ++ L2 = X) (hN : X.length = N) (hl : N ≤ 1000000) : Calls Try.prog 46 #[.slice (some ⟨g, 0, none⟩) 2 cx] W fun e w' => (∃ v, e = .returned v ∧ EvRow W.heap.size N X v w') ∧ Below W.heap.size W w' := by
  subst e1 e2
  have hf : [L1, L2].flatten = X := by rw [← hX]; simp
  have := Concat_any (cx := cx) (MM.two h h1 h2) (show 2 ≤ 1000 by decide) (by rw [hf, hN]; exact hl)
  rw [hf, hN] at this
  exact this.mono fun e w' ⟨⟨A', c', he, hm⟩, hb⟩ => ⟨⟨_, he, A', c', rfl, hm⟩, hb⟩
theorem clone1 {W : World} {A : Option Addr} {n c : Nat} {X : List Mg} (h : ML W A X) (hn : X.length = n) (hl : n ≤ 1000000) : Calls Try.prog 42 #[.slice A n c] W fun e w' => (∃ v, e = .returned v ∧ EvRow W.heap.size n X v w') ∧ Below W.heap.size W w' := by
  subst hn
  exact (Clone_any (c := c) h (by omega)).mono fun e w' ⟨⟨A', c', he, hm⟩, hb⟩ => ⟨⟨_, he, A', c', rfl, hm⟩, hb⟩
set_option maxRecDepth 100000 in
set_option maxHeartbeats 4000000 in
theorem Take_row {W : World} {A : Option Addr} {c : Nat} {L : List Mg} (h : MC W A c L) (lo hi : ByteArray) (top : Bool) (most : Int) (hr : Ri L) (hl : L.length ≤ 1000) : Calls Try.prog 19 #[.slice A L.length c, spanV lo hi top, .int .i64 most] W fun e w' => (∃ A1 c1 A2 c2, e = .returned (.tuple #[.slice A1 (takeD (fun m => inB lo hi top m.1) most L).1.length c1, .slice A2 (takeD (fun m => inB lo hi top m.1) most L).2.length c2]) ∧ MC w' A1 c1 (takeD (fun m => inB lo hi top m.1) most L).1 ∧ MC w' A2 c2 (takeD (fun m => inB lo hi top m.1) most L).2 ∧ (0 < (takeD (fun m => inB lo hi top m.1) most L).1.length → M3 w' W.heap.size A1 c1 (takeD (fun m => inB lo hi top m.1) most L).1) ∧ Off A1 A2 (takeD (fun m => inB lo hi top m.1) most L).1) ∧ Below W.heap.size W w' := by
  have cS := fun (W' : World) (hb : Below W.heap.size W W') => Lib.hid (places_any (c := c) (h.1.kept hb) lo hi top hr (by omega))
  have HH := Lib.hid h
  have hc := h.2
  have HT : Hid (∀ p q j, Cut (fun m => inB lo hi top m.1) L p q → j = min (q - p) most.toNat → takeD (fun m => inB lo hi top m.1) most L = ((L.take (p + j)).drop p, L.take p ++ L.drop (p + j))) := fun p q j hp hj => hp.take most hj
  clear h
  generalize hn : L.length = n at *
  generalize takeD (fun m => inB lo hi top m.1) most L = TT at *
  obtain ⟨T1, T2⟩ := TT
  have HN := Lib.hid hn
  clear hn
  simp only
  go_enter Try.func19, Try.ntmps19
  go_upto_region 1 with fail
  have hx := heap_alloc_new W (.cells #[.string lo, .string hi, .bool top] 37)
  have hb0 : Below W.heap.size W (W.alloc (.cells #[.string lo, .string hi, .bool top] 37)) := (Below.refl _ _).alloc (Nat.le_refl _) _
  generalize W.alloc (.cells #[.string lo, .string hi, .bool top] 37) = w1 at *
  obtain ⟨g, hg⟩ : ∃ g, g = W.heap.size := ⟨_, rfl⟩
  rw [← hg] at hx ⊢
  have HB := Lib.hid hb0
  obtain ⟨d0, d1, d2⟩ := box3 hx
  clear hx hb0 hg
  go_upto_region 2 with (go_at_call 45; refine (cS _ HB.out).out.mono ?_; rintro e w2 ⟨⟨p, q, rfl, h1⟩, hb⟩)
  clear d0 d1 d2 cS
  obtain ⟨j, hj⟩ : ∃ j, j = min (q - p) most.toNat := ⟨_, rfl⟩
  obtain ⟨e, he⟩ : ∃ e, e = p + j := ⟨_, rfl⟩
  have e12 := HT.out p q j h1 hj
  rw [← he] at e12
  obtain ⟨rfl, rfl⟩ : T1 = (L.take e).drop p ∧ T2 = L.take p ++ L.drop e := by simpa using e12
  have hpq : p ≤ q := h1.pq
  have hqn : q ≤ n := by rw [← HN.out]; exact h1.le
  replace HB := Lib.hid (HB.out.trans (hb.mono HB.out.size))
  have HMC := Lib.hid (HH.out.kept HB.out)
  have hjq : e ≤ q := by omega
  have hpe : p ≤ e := by omega
  obtain ⟨N2, hN2⟩ : ∃ N2, N2 = p + (n - e) := ⟨_, rfl⟩
  have HL1 : Hid (((L.take e).drop p).length = e - p) := by unfold Hid; rw [List.length_drop, List.length_take, HN.out]; omega
  have HL2 : Hid ((L.take p ++ L.drop e).length = N2) := by unfold Hid; rw [List.length_append, List.length_take, List.length_drop, HN.out]; omega
  clear h1 hb HT e12 hN2
  go_upto_region 2 with fail
  go_cut [9] (fun v wx => v = .int .i64 (e : Int) ∧ wx = w2)
  case first =>
    have hw1 : IntKind.i64.wrap ((q : Int) - (p : Int)) = ((q - p : Nat) : Int) := by rw [IntKind.wrap_i64]; omega
    rcases Int.lt_trichotomy most 0 with hm | hm | hm
    · obtain rfl : j = 0 := by omega
      clear hj HL1 HL2
      go_wp2_with fail
      all_goals (go_meet; exact ⟨congrArg (Value.int .i64) (by omega), rfl⟩)
    · subst hm
      obtain rfl : j = 0 := by omega
      clear hj HL1 HL2
      go_wp2_with fail
      all_goals (go_meet; exact ⟨congrArg (Value.int .i64) (by omega), rfl⟩)
    · obtain ⟨k, hk⟩ : ∃ k : Nat, most = (k : Int) := ⟨most.toNat, by omega⟩
      subst hk
      rcases Nat.lt_trichotomy (q - p) k with hk | hk | hk
      · obtain rfl : j = q - p := by omega
        clear hj HL1 HL2
        go_wp2_with fail
        all_goals (go_meet; exact ⟨congrArg (Value.int .i64) (by omega), rfl⟩)
      · subst hk
        obtain rfl : j = q - p := by omega
        clear hj HL1 HL2
        go_wp2_with fail
        all_goals (go_meet; exact ⟨congrArg (Value.int .i64) (by omega), rfl⟩)
      · obtain rfl : j = k := by omega
        clear hj HL1 HL2
        go_wp2_with fail
        all_goals (go_meet; exact ⟨congrArg (Value.int .i64) (by omega), rfl⟩)
  case rest =>
  clear hj he
  obtain ⟨rfl, rfl⟩ := hcut
  have r1 := fun w => run_midM A n c p e (by omega) (by omega) w
  have r2 := fun w => run_upToM A n c p (by omega) w
  have r3 := fun w => run_cutM A n c e (by omega) w
  go_upto_region 3 with fail
  refine Drift.wp_region_drift [] [(0,[]),(1,[]),(2,[]),(3,[]),(5,[]),(6,[]),(7,[]),(8,[]),(9,[]),(10,[]),(4,[11]),(11,[]),(12,[]),(13,[]),(14,[])] [4, 12] [11] (by kernel_rfl) (by kernel_rfl) (by simp) ?_
  simp only [Drift.pick, Drift.opsAt, List.getElem?_toArray, List.getElem?_cons_zero, List.getElem?_cons_succ, List.cons_append, List.nil_append, List.filterMap_cons, List.filterMap_nil]
  repeat (refine Drift.walk_step (fun K hK => ?_); go_simp; (refine hK _ ?_; clear hK K))
  refine Drift.walk_event rfl (Drift.mkwalk_one rfl (fun b => .slice (some ⟨b, 0, none⟩) 2 2) (.cells #[.slice A p c, .slice (cutM A c e) (n - e) (c - e)] 26) (fun W => by go_simp) fun b hb => Drift.mkwalk_nil) (EvRow wc.heap.size (e - p) ((L.take e).drop p)) (fun W2 hk _ => ?_) (fun v w5 hv hI _ hTd => ?_)
  · go_simp
    go_at_call 42
    refine (clone1 (X := (L.take e).drop p) (((HMC.out.kept hk).upTo e).cut p).1 HL1.out (by omega)).mono ?_
    rintro e w' ⟨⟨v, rfl, A', c', rfl, hv⟩, hb⟩
    exact ⟨_, rfl, ⟨A', c', rfl, hv.mono hk.size⟩, Flow.Into.of_below hb⟩
  obtain ⟨A1, c1, rfl, hv⟩ := hv
  have HV1 := Lib.hid hv
  have HMC5 := Lib.hid (HMC.out.kept hI.below)
  have HB5 : Hid (Below W.heap.size W w5) := HB.out.trans (hI.below.mono HB.out.size)
  clear hI hv HMC
  refine Drift.walk_make rfl Drift.mkwalk_nil (fun b => .slice (some ⟨b, 0, none⟩) 2 2) (.cells #[.slice A p c, .slice (cutM A c e) (n - e) (c - e)] 26) (fun W => by go_simp) (fun b2 hb2 hT2 => ?_)
  refine Drift.walk_event rfl Drift.mkwalk_nil (EvRow w5.heap.size N2 (L.take p ++ L.drop e)) (fun W2 hk hl2 => ?_) (fun v w6 hv hI _ hTd2 => ?_)
  · go_simp
    go_at_call 46
    have hM := HMC5.out.kept hk
    refine (concat2 (L1 := L.take p) (L2 := L.drop e) (hl2 (b2, .cells #[.slice A p c, .slice (cutM A c e) (n - e) (c - e)] 26) (by simp)) (by rw [List.length_take, HN.out]; omega) (by rw [List.length_drop, HN.out]) (hM.upTo p).1 (hM.cut e).1 rfl HL2.out (by rw [← HL2.out, List.length_append, List.length_take, List.length_drop, HN.out]; omega)).mono ?_
    rintro e w' ⟨⟨v, rfl, A', c', rfl, hv⟩, hb⟩
    exact ⟨_, rfl, ⟨A', c', rfl, hv.mono hk.size⟩, Flow.Into.of_below hb⟩
  obtain ⟨A2, c2, rfl, hv⟩ := hv
  have HV2 := Lib.hid hv
  have HV1' := Lib.hid (HV1.out.kept hI.below)
  have HB6 : Hid (Below W.heap.size W w6) := HB5.out.trans (hI.below.mono HB5.out.size)
  have HO : Hid (Off A1 A2 ((L.take e).drop p)) := fun _ x y hx hy => by
    have h1 := (HV1.out.at_ x hx).2
    have h2 := (HV2.out.at_ y hy).1
    omega
  have hs5 := HB.out.size
  clear hI hv HV1 HMC5 HB5
  repeat (refine Drift.walk_step (fun K hK => ?_); go_simp; (refine hK _ ?_; clear hK K))
  refine Drift.walk_nil ?_
  intro w7 hb7 _
  have HB7 : Hid (Below W.heap.size W w7) := HB6.out.trans (hb7.mono HB6.out.size)
  have HV3 := Lib.hid (HV1'.out.kept hb7)
  have HV4 := Lib.hid (HV2.out.kept hb7)
  clear hTd hTd2 hT2 hb7 HV1' HV2 HB6 r1 r2 r3
  simp only [List.length_cons, List.length_nil, List.drop_succ_cons, List.drop_nil, Nat.zero_add, Nat.reduceAdd]
  go_wp2_with fail
  exact bodyPost_ret (v := .tuple #[.slice A1 (e - p) c1, .slice A2 N2 c2]) (by simp [results, Try.results19, go_sem]) rfl ⟨⟨A1, c1, A2, c2, by rw [HL1.out, HL2.out], VK.mc HV3.out, VK.mc HV4.out, fun _ => HV3.out.mono hs5, HO.out⟩, HB7.out⟩
theorem Take_any {W : World} {A : Option Addr} {c : Nat} {L : List Mg} (h : MC W A c L) (lo hi : ByteArray) (top : Bool) (most : Int) (_ : lo.size ≤ 1000) (_ : hi.size ≤ 1000) (_ : ∀ m, m ∈ L → m.1.size ≤ 1000) (hr : Ri L) (hl : L.length ≤ 1000) : Calls Try.prog 19 #[.slice A L.length c, spanV lo hi top, .int .i64 most] W fun e w' => (∃ A1 c1 A2 c2, e = .returned (.tuple #[.slice A1 (takeD (fun m => inB lo hi top m.1) most L).1.length c1, .slice A2 (takeD (fun m => inB lo hi top m.1) most L).2.length c2]) ∧ MC w' A1 c1 (takeD (fun m => inB lo hi top m.1) most L).1 ∧ MC w' A2 c2 (takeD (fun m => inB lo hi top m.1) most L).2 ∧ (0 < (takeD (fun m => inB lo hi top m.1) most L).1.length → M3 w' W.heap.size A1 c1 (takeD (fun m => inB lo hi top m.1) most L).1) ∧ Off A1 A2 (takeD (fun m => inB lo hi top m.1) most L).1) ∧ Below W.heap.size W w' := Take_row h lo hi top most hr hl
end Bu
end Go.Proofs.Ytlabbmfiecbigaa
