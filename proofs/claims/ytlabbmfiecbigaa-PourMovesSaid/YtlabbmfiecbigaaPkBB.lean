/-
  NodeR3, NodeF, HeapN, NodeLd, NodeHv, NodeRk, NodeCalls. Put together by pack.py.
-/
import Derived.Test.YtlabbmfiecbigaaPqNodeR2
import Derived.Test.YtlabbmfiecbigaaPkAL
import Derived.Test.YtlabbmfiecbigaaPkAM
import Derived.Test.YtlabbmfiecbigaaPkAC
import Derived.Test.YtlabbmfiecbigaaPkAA
import Derived.Test.YtlabbmfiecbigaaPkAG
import Derived.Test.YtlabbmfiecbigaaDrift
import Derived.Test.YtlabbmfiecbigaaPkAH
import Derived.Test.YtlabbmfiecbigaaPkAK

namespace Go.Proofs.Ytlabbmfiecbigaa
open Go.RowKit
namespace No
open Mem Lx Bu Lf Fa
set_option maxRecDepth 100000 in
set_option maxHeartbeats 8000000 in
theorem RRight_sz {W : World} (c : Cfg) (lo hi : ByteArray) (top : Bool) {n : Nd} {a : At} (h : NdIn W n a) (hf : Sz n) (hkid : ∀ k, k ∈ n.kids → k < 4294967296) (hlo : lo.size ≤ maxLen) : Calls Try.prog 11 #[.agg (cfCs c), spanV lo hi top, .agg (ndCs n a)] W fun e w' => (∃ v : Bool, e = .returned (.bool v) ∧ (v = true ↔ RightN c lo hi top n)) ∧ Below W.heap.size W w' := by
  obtain ⟨r, hr⟩ := bool_of (OuterP c lo hi top n)
  obtain ⟨s, hs⟩ := bool_of (InnerP c lo hi top n)
  have c1 : ∀ w, Below W.heap.size W w → Hid (Calls Try.prog 31 #[.agg (cfCs c), spanV lo hi top, .agg (ndCs n a)] w fun e w' => e = .returned (.bool r) ∧ Below w.heap.size w w') := fun w hb => (Router_sz c lo hi top (h.kept hb) hf hlo).mono fun e w' ⟨⟨v, he, hv⟩, hb⟩ => ⟨by rw [he, bool_one hv hr], hb⟩
  have c2 : ∀ w, Below W.heap.size W w → Hid (Calls Try.prog 32 #[.agg (cfCs c), spanV lo hi top, .agg (ndCs n a)] w fun e w' => e = .returned (.bool s) ∧ Below w.heap.size w w') := fun w hb => (Rinner_sz c lo hi top (h.kept hb) hf hkid hlo).mono fun e w' ⟨⟨v, he, hv⟩, hb⟩ => ⟨by rw [he, bool_one hv hs], hb⟩
  obtain ⟨P, hP⟩ : ∃ P : Prop, P = RightN c lo hi top n := ⟨_, rfl⟩
  have H0 : Hid (n.lv = 0 → (r = true ↔ P)) := fun e => by
    rw [hP, hr]
    exact ⟨fun h => ⟨fun _ => h, fun h2 => absurd e h2⟩, fun h => h.1 e⟩
  have H1 : Hid (0 < n.lv → (s = true ↔ P)) := fun e => by
    rw [hP, hs]
    exact ⟨fun h => ⟨fun h2 => absurd h2 (by omega), fun _ => ⟨e, h⟩⟩, fun h => (h.2 (by omega)).2⟩
  have H2 : Hid (n.lv < 0 → ¬ P) := fun e h => by
    rw [hP] at h
    have := (h.2 (by omega)).1
    omega
  rw [← hP]
  clear hP hr hs h hf hkid hlo
  obtain ⟨lv, K, L, B, Q⟩ := n
  obtain ⟨kA, kc, pA, pc, bA, bc, qA, qc⟩ := a
  obtain ⟨cB, cY, cF, cN, cU, cL, cKy, cV⟩ := c
  unfold ndCs cfCs at *
  simp only at *
  generalize K.length = kn at *
  generalize L.length = pn at *
  generalize B.length = bn at *
  generalize Q.length = qn at *
  go_enter Try.func11, Try.ntmps11
  go_upto_region 1 with fail
  have HB := Lib.hid (B3.new W (.cells #[.int .i64 cB, .int .i64 cY, .int .i64 cF, .int .i64 cN, .int .i64 cU, .int .i64 cL, .int .i64 cKy, .int .i64 cV] 23) (.cells #[.string lo, .string hi, .bool top] 37) (.cells #[.int .i64 lv, .slice kA kn kc, .slice pA pn pc, .slice bA bn bc, .slice qA qn qc] 29))
  generalize ((W.alloc (.cells #[.int .i64 cB, .int .i64 cY, .int .i64 cF, .int .i64 cN, .int .i64 cU, .int .i64 cL, .int .i64 cKy, .int .i64 cV] 23)).alloc (.cells #[.string lo, .string hi, .bool top] 37)).alloc (.cells #[.int .i64 lv, .slice kA kn kc, .slice pA pn pc, .slice bA bn bc, .slice qA qn qc] 29) = w1 at *
  obtain ⟨g, hg⟩ : ∃ g, g = W.heap.size := ⟨_, rfl⟩
  rw [← hg] at HB
  simp only [← hg]
  clear hg
  obtain ⟨d0, d1, d2, d3, d4⟩ := box5 HB.out.z
  obtain ⟨e0, e1, e2⟩ := box3 HB.out.y
  obtain ⟨g0, g1, g2, g3, g4, g5, g6, g7⟩ := box8 HB.out.x
  have HBW := Lib.hid HB.out.below
  clear HB
  rcases Int.lt_trichotomy lv 0 with hl | hl | hl
  · have HNO := Lib.hid (H2.out hl)
    have t0 : (lv == 0) = false := by simp; omega
    have t1 : decide (0 < lv) = false := by simp; omega
    clear H0 H1 H2 hl
    go_wp2_with fail
    go_ret
    exact ⟨⟨false, rfl, (fun h => by cases h), fun h => absurd h HNO.out⟩, HBW.out⟩
  · have HR := Lib.hid (H0.out hl)
    subst hl
    clear H0 H1 H2
    go_wp2_with (go_at_call 31; refine (c1 _ HBW.out).out.mono ?_; rintro e w3 ⟨rfl, hb⟩)
    go_ret
    exact ⟨⟨r, rfl, HR.out⟩, HBW.out.trans (hb.mono HBW.out.size)⟩
  · have HR := Lib.hid (H1.out hl)
    have t0 : (lv == 0) = false := by simp; omega
    clear H0 H1 H2
    go_wp2_with (go_at_call 32; refine (c2 _ HBW.out).out.mono ?_; rintro e w3 ⟨rfl, hb⟩)
    go_ret
    exact ⟨⟨s, rfl, HR.out⟩, HBW.out.trans (hb.mono HBW.out.size)⟩
theorem RRight_any {W : World} (c : Cfg) (lo hi : ByteArray) (top : Bool) {n : Nd} {a : At} (h : NdIn W n a) (hf : Fit n) (hkid : ∀ k, k ∈ n.kids → k < 4294967296) (hlo : lo.size ≤ maxLen) : Calls Try.prog 11 #[.agg (cfCs c), spanV lo hi top, .agg (ndCs n a)] W fun e w' => (∃ v : Bool, e = .returned (.bool v) ∧ (v = true ↔ RightN c lo hi top n)) ∧ Below W.heap.size W w' := RRight_sz c lo hi top h ⟨fun p hp => Nat.le_trans (hf.pk p hp) (by decide), fun m hm => Nat.le_trans (hf.bk m hm) (by decide), fun m hm => Nat.le_trans (hf.qk m hm) (by decide), Nat.le_trans hf.kids (by decide), Nat.le_trans hf.piv (by decide), Nat.le_trans hf.buf (by decide), Nat.le_trans hf.prs (by decide)⟩ hkid hlo
end No
end Go.Proofs.Ytlabbmfiecbigaa

namespace Go.Proofs.Ytlabbmfiecbigaa
open Go.RowKit
namespace No
open Mem Lx Bu Lf Fa
/-- a slice that reads as L; if there is something in it, it lies in a block of the call's own (from B on) that may be written -/
structure Fr {α : Type} (K : Kind α) (w : World) (B : Nat) (A : Option Addr) (c : Nat) (L : List α) : Prop where
  rc : RC K w A c L
  own : 0 < L.length → ∃ (g o : Nat) (C : Array Value), A = some ⟨g, o, none⟩ ∧ B ≤ g ∧ w.heap[g]? = some (.cells C K.T (0, 0))
theorem Fr.of_vk {α : Type} {K : Kind α} {w : World} {B : Nat} {A : Option Addr} {c : Nat} {L : List α} (h : VK K w B A c L) : Fr K w B A c L := ⟨h.rc, fun h0 => by
  have hl : 0 < K.k ∨ K.k = 0 := by omega
  obtain ⟨h1, h2⟩ := h
  rcases h2 with ⟨h', hz⟩ | ⟨g, cap, cur, he, hB, hh, hr⟩
  · exfalso
    simp only [Value.slice.injEq] at h'
    omega
  · simp only [Value.slice.injEq] at he
    obtain ⟨rfl, -, rfl⟩ := he
    exact ⟨g, 0, cur, rfl, hB, hh⟩⟩
theorem Fr.keep {α : Type} {K : Kind α} {w w' : World} {B : Nat} {A : Option Addr} {c : Nat} {L : List α} (h : Fr K w B A c L) (hs : w.heap.size ≤ w'.heap.size) (hk : ∀ g o, 0 < L.length → A = some ⟨g, o, none⟩ → w'.heap[g]? = w.heap[g]?) : Fr K w' B A c L := by
  refine ⟨⟨fun h0 => ?_, h.rc.2⟩, fun h0 => ?_⟩
  · obtain ⟨b, o, e, hl, hc⟩ := h.rc.1 h0
    refine ⟨b, o, e, Nat.lt_of_lt_of_le hl hs, fun i x hx j u hu => ?_⟩
    rw [← hc i x hx j u hu]
    exact World.cell?_of_block (w := w) (a := ⟨b, o + (i * K.k + j), none⟩) (hk b o h0 e)
  · obtain ⟨g, o, C, e, hB, hh⟩ := h.own h0
    exact ⟨g, o, C, e, hB, by rw [hk g o h0 e]; exact hh⟩
theorem Fr.kept {α : Type} {K : Kind α} {w w' : World} {B : Nat} {A : Option Addr} {c : Nat} {L : List α} (h : Fr K w B A c L) (hb : Below w.heap.size w w') : Fr K w' B A c L := h.keep hb.size fun g o h0 e => by
  obtain ⟨g', o', C, e', _, hh⟩ := h.own h0
  rw [e] at e'
  simp only [Option.some.injEq, Addr.mk.injEq] at e'
  obtain ⟨rfl, -, -⟩ := e'
  exact hb.block g (Array.getElem?_eq_some_iff.1 hh).1
/-- a store ahead of what it has -/
theorem Fr.set {α : Type} {K : Kind α} {w : World} {B : Nat} {A : Option Addr} {c : Nat} {L : List α} (h : Fr K w B A c L) {g i : Nat} (hg : g < B) (v : Value) : Fr K (w.setCell ⟨g, i, none⟩ v) B A c L := h.keep (by simp) fun g' o' h0 e => by
  obtain ⟨g2, o2, C, e2, hB, hh⟩ := h.own h0
  rw [e] at e2
  simp only [Option.some.injEq, Addr.mk.injEq] at e2
  obtain ⟨rfl, -, -⟩ := e2
  exact set_other v (by omega)
structure FrNd (w : World) (B : Nat) (n : Nd) (a : At) : Prop where
  kids : Fr KdK w B a.kA a.kc n.kids
  piv : Fr StK w B a.pA a.pc n.piv
  buf : Fr MgK w B a.bA a.bc n.buf
  prs : Fr PrK w B a.qA a.qc n.prs
theorem FrNd.in_ {w : World} {B : Nat} {n : Nd} {a : At} (h : FrNd w B n a) : NdIn w n a := ⟨h.kids.rc, h.piv.rc, h.buf.rc, h.prs.rc⟩
theorem FrNd.kept {w w' : World} {B : Nat} {n : Nd} {a : At} (h : FrNd w B n a) (hb : Below w.heap.size w w') : FrNd w' B n a := ⟨h.kids.kept hb, h.piv.kept hb, h.buf.kept hb, h.prs.kept hb⟩
theorem FrNd.set {w : World} {B : Nat} {n : Nd} {a : At} (h : FrNd w B n a) {g i : Nat} (hg : g < B) (v : Value) : FrNd (w.setCell ⟨g, i, none⟩ v) B n a := ⟨h.kids.set hg v, h.piv.set hg v, h.buf.set hg v, h.prs.set hg v⟩
/-- each kid's load -/
def loadsN (n : Nd) : List Int := (List.range n.kids.length).map fun i => (ldN n i : Int)
theorem loadsN_len (n : Nd) : (loadsN n).length = n.kids.length := by simp [loadsN]
theorem loadsN_at {n : Nd} {i : Nat} (h : i < (loadsN n).length) : (loadsN n)[i] = (ldN n i : Int) := by simp [loadsN]
/-- the kids by falling loads -/
structure RankN (n : Nd) (r : List Nat) : Prop where
  perm : r.Perm (List.range n.kids.length)
  ahead : r.Pairwise fun i k => aheadN (ldN n) i k = true
theorem RankN.len {n : Nd} {r : List Nat} (h : RankN n r) : r.length = n.kids.length := by rw [h.perm.length_eq, List.length_range]
theorem RankN.lt {n : Nd} {r : List Nat} (h : RankN n r) {i : Nat} (hi : i ∈ r) : i < n.kids.length := by
  have := h.perm.mem_iff.1 hi
  simpa using this
theorem RankN.nodup {n : Nd} {r : List Nat} (h : RankN n r) : r.Nodup := h.perm.nodup_iff.2 List.nodup_range
theorem RankN.first {n : Nd} {r : List Nat} (h : RankN n r) {x : Nat} (hx : r[0]? = some x) : x = heavN (ldN n) n.kids.length := by
  have hx0 : x ∈ r := List.mem_of_getElem? hx
  have hlt := h.lt hx0
  have hm : heavN (ldN n) n.kids.length ∈ r := h.perm.mem_iff.2 (by simpa using heavN_lt (ldN n) (show 0 < n.kids.length by omega))
  obtain ⟨j, hj⟩ := List.mem_iff_getElem?.1 hm
  rcases Nat.eq_zero_or_pos j with rfl | h0
  · rw [hx] at hj
    cases hj
    rfl
  · exfalso
    obtain ⟨hj1, hj2⟩ := List.getElem?_eq_some_iff.1 hj
    obtain ⟨hx1, hx2⟩ := List.getElem?_eq_some_iff.1 hx
    have ha := List.pairwise_iff_getElem.1 h.ahead 0 j hx1 hj1 h0
    rw [hx2, hj2] at ha
    have t1 := heavN_top (ldN n) n.kids.length x hlt
    unfold aheadN at ha
    simp only [Bool.or_eq_true, Bool.and_eq_true, decide_eq_true_eq] at ha
    rcases ha with ha | ⟨ha, hb⟩
    · omega
    · have t2 := heavN_first (ldN n) n.kids.length x hb
      omega
/-- a block's place among the kids -/
def FindP (K : List Nat) (b v : Nat) (ok : Bool) : Prop := (ok = true ∧ K[v]? = some b ∧ ∀ j, j < v → K[j]? ≠ some b) ∨ (ok = false ∧ v = 0 ∧ b ∉ K)
end No
end Go.Proofs.Ytlabbmfiecbigaa

namespace Go.Proofs.Ytlabbmfiecbigaa
namespace No
theorem ahead_iff {f : Nat → Nat} {i k : Nat} : aheadN f i k = true ↔ f k < f i ∨ f i = f k ∧ i < k := by
  unfold aheadN
  simp only [Bool.or_eq_true, Bool.and_eq_true, decide_eq_true_eq]
theorem not_ahead {f : Nat → Nat} {i k : Nat} : aheadN f i k = false ↔ f i < f k ∨ f i = f k ∧ k ≤ i := by
  rw [Bool.eq_false_iff, Ne, ahead_iff]
  omega
theorem ahead_ord (f : Nat → Nat) : Hp.Ord (aheadN f) :=
  ⟨fun a b h => by
    rw [ahead_iff] at h
    rw [not_ahead]
    omega, fun a b c h1 h2 => by
    rw [not_ahead] at h1 h2 ⊢
    omega⟩
theorem ahead_self (f : Nat → Nat) (a : Nat) : aheadN f a a = false := by
  rw [not_ahead]
  omega
/-- some were taken, the others are left -/
structure Popd (f : Nat → Nat) (n : Nat) (out rest : List Nat) : Prop where
  perm : (out ++ rest).Perm (List.range n)
  sorted : out.Pairwise fun i k => aheadN f i k = true
  over : ∀ x, x ∈ out → ∀ y, y ∈ rest → aheadN f x y = true
theorem Popd.none {f : Nat → Nat} {n : Nat} {rest : List Nat} (h : rest.Perm (List.range n)) : Popd f n [] rest := ⟨h, .nil, fun x hx => by cases hx⟩
theorem Popd.step {f : Nat → Nat} {n : Nat} {out rest rest' : List Nat} {x : Nat} (h : Popd f n out rest) (ht : Hp.Took (aheadN f) rest x rest') : Popd f n (out ++ [x]) rest' := by
  have hx : x ∈ rest := ht.perm.mem_iff.2 List.mem_cons_self
  have hp : (out ++ [x] ++ rest').Perm (List.range n) := by
    have h1 : (out ++ [x] ++ rest').Perm (out ++ rest) := by
      rw [List.append_assoc]
      exact List.Perm.append_left out ht.perm.symm
    exact h1.trans h.perm
  refine ⟨hp, ?_, fun z hz y hy => ?_⟩
  · rw [List.pairwise_append]
    refine ⟨h.sorted, by simp, fun a ha b hb => ?_⟩
    obtain rfl : b = x := by simpa using hb
    exact h.over a ha b hx
  · have hyr : y ∈ rest := ht.perm.mem_iff.2 (List.mem_cons_of_mem _ hy)
    rcases List.mem_append.1 hz with hz | hz
    · exact h.over z hz y hyr
    · obtain rfl : z = x := by simpa using hz
      have hl := ht.least y hy
      rw [not_ahead] at hl
      rw [ahead_iff]
      have hne : z ≠ y := fun e => by
        subst e
        have hnd : (out ++ [z] ++ rest').Nodup := hp.nodup_iff.2 List.nodup_range
        rw [List.nodup_append] at hnd
        exact hnd.2.2 z (List.mem_append_right _ (by simp)) z hy rfl
      omega
theorem Popd.rank {nd : Nd} {out : List Nat} (h : Popd (ldN nd) nd.kids.length out []) : RankN nd out := ⟨by
  have := h.perm
  rwa [List.append_nil] at this, h.sorted⟩
end No
end Go.Proofs.Ytlabbmfiecbigaa

namespace Go.Proofs.Ytlabbmfiecbigaa
open Go.RowKit
namespace No
open Mem Lx Bu Lf Fa
def ldV (P : List ByteArray) (B : List Mg) (n : Nat) : List Value := (List.range n).map fun i : Nat => .int .i64 (loadN P B (i : Int) : Int)
theorem ldV_len (P : List ByteArray) (B : List Mg) (n : Nat) : (ldV P B n).length = n := by simp [ldV]
theorem ldV_nil (P : List ByteArray) (n : Nat) : ldV P [] n = List.replicate n (.int .i64 0) := by
  refine List.ext_getElem (by simp [ldV]) fun i h1 h2 => ?_
  simp [ldV, loadN]
theorem ldV_next {P : List ByteArray} {B : List Mg} {n k z : Nat} {m : Mg} (hm : B[k]? = some m) (hz : wayS P m.1 = z) : (ldV P (B.take k) n).set z (.int .i64 ((loadN P (B.take k) (z : Int) + 1 : Nat) : Int)) = ldV P (B.take (k + 1)) n := by
  refine List.ext_getElem (by simp [ldV]) fun i h1 h2 => ?_
  rw [List.getElem_set]
  simp only [ldV, List.getElem_map, List.getElem_range]
  rw [loadN_next hm, hz]
  by_cases e : z = i
  · subst e
    simp
  · have e2 : ¬ ((z : Int) = (i : Int)) := by omega
    simp [e, if_neg e2]
theorem intinfo : (Try.prog.info? 3).map (fun i => (i.zero, i.size, i.bytes)) = some (some (.int .i64 0), 1, 8) := by kernel_rfl
end No
end Go.Proofs.Ytlabbmfiecbigaa

namespace Go.Proofs.Ytlabbmfiecbigaa
open Go.RowKit
namespace No
open Mem Lx Bu Lf Fa Hp
section
variable {f : Nat → Nat} {W w w' : World} {b i j n x : Nat} {S T L : List Nat}
theorem range_perm_next {k : Nat} {L' : List Nat} (h : L'.Perm (List.range k ++ [k])) : L'.Perm (List.range (k + 1)) := by rw [List.range_succ]; exact h
end
end No
end Go.Proofs.Ytlabbmfiecbigaa

namespace Go.Proofs.Ytlabbmfiecbigaa
open Go.RowKit
namespace No
open Mem Lx Bu Lf Fa Hp
def natV (i : Nat) : Value := .int .i64 (i : Int)
section
variable {f : Nat → Nat} {W w w' : World} {b kn c : Nat} {A : Option Addr} {out rest : List Nat}
end
theorem box1i {w : World} {b : Nat} {v : Value} {U : TypeId} (h : w.heap[b]? = some (.cells #[v] U (0, 0))) : w.cell? ⟨b, 0, none⟩ = some v := by simp [World.cell?, h]
theorem heav_of {f : Nat → Nat} {kn x : Nat} (hx : x < kn) (h : ∀ y, y < kn → y ≠ x → aheadN f y x = false) : x = heavN f kn := by
  by_cases e : heavN f kn = x
  · exact e.symm
  · have hm := heavN_lt f (show 0 < kn by omega)
    have h1 := not_ahead.1 (h _ hm e)
    have t1 := heavN_top f kn x hx
    rcases h1 with h1 | ⟨h1, h2⟩
    · omega
    · have t2 := heavN_first f kn x (by omega)
      omega
theorem Took.heav {f : Nat → Nat} {kn x : Nat} {L L' : List Nat} (h : Took (aheadN f) L x L') (hp : L.Perm (List.range kn)) : x = heavN f kn := by
  have hm : ∀ y, y < kn ↔ y = x ∨ y ∈ L' := fun y => by
    have h1 := (h.perm.symm.trans hp).mem_iff (a := y)
    rw [List.mem_cons, List.mem_range] at h1
    exact h1.symm
  refine heav_of ((hm x).2 (.inl rfl)) fun y hy hne => ?_
  rcases (hm y).1 hy with e | e
  · exact absurd e hne
  · exact h.least y e
end No
end Go.Proofs.Ytlabbmfiecbigaa

namespace Go.Proofs.Ytlabbmfiecbigaa
open Go.RowKit
namespace No
open Mem Lx Bu Lf Fa
theorem Fit.toSz {n : Nd} (h : Fit n) : Sz n := ⟨fun p hp => Nat.le_trans (h.pk p hp) (by decide), fun p hp => Nat.le_trans (h.bk p hp) (by decide), fun p hp => Nat.le_trans (h.qk p hp) (by decide), Nat.le_trans h.kids (by decide), Nat.le_trans h.piv (by decide), Nat.le_trans h.buf (by decide), Nat.le_trans h.prs (by decide)⟩
theorem Fr.lower {α : Type} {K : Kind α} {w : World} {B B' : Nat} {A : Option Addr} {c : Nat} {L : List α} (h : Fr K w B A c L) (hb : B' ≤ B) : Fr K w B' A c L := ⟨h.rc, fun h0 => by
  obtain ⟨g, o, C, e, h1, h2⟩ := h.own h0
  exact ⟨g, o, C, e, Nat.le_trans hb h1, h2⟩⟩
theorem FrNd.lower {w : World} {B B' : Nat} {n : Nd} {a : At} (h : FrNd w B n a) (hb : B' ≤ B) : FrNd w B' n a := ⟨h.kids.lower hb, h.piv.lower hb, h.buf.lower hb, h.prs.lower hb⟩
def EvFr {α : Type} (K : Kind α) (B : Nat) (L : List α) (n : Nat) (v : Value) (w : World) : Prop := ∃ A c, v = .slice A n c ∧ Fr K w B A c L
theorem set_five {w : World} {b : Nat} {u0 u1 u2 u3 u4 : Value} {U : TypeId} (h : w.heap[b]? = some (.cells #[u0, u1, u2, u3, u4] U (0, 0))) (v0 v1 v2 v3 v4 : Value) : (((((w.setCell ⟨b, 0, none⟩ v0).setCell ⟨b, 1, none⟩ v1).setCell ⟨b, 2, none⟩ v2).setCell ⟨b, 3, none⟩ v3).setCell ⟨b, 4, none⟩ v4).heap[b]? = some (.cells #[v0, v1, v2, v3, v4] U (0, 0)) := by
  simp [World.setCell, Array.getElem?_modify, h]
set_option maxRecDepth 100000 in
set_option maxHeartbeats 4000000 in
theorem Clone_any {W : World} {n : Nd} {a : At} (h : NdIn W n a) (hf : Fit n) : Calls Try.prog 15 #[.agg (ndCs n a)] W fun e w' => (∃ a', e = .returned (.agg (ndCs n a')) ∧ FrNd w' W.heap.size n a') ∧ Below W.heap.size W w' := by
  have c1 : ∀ W1, Below W.heap.size W W1 → ∀ s, s ≤ W1.heap.size → Hid (Calls Try.prog 40 #[.slice a.kA n.kids.length a.kc] W1 fun e w' => (∃ A c, e = .returned (.slice A n.kids.length c) ∧ Fr KdK w' s A c n.kids) ∧ Below W1.heap.size W1 w') := fun W1 hb s hs => (CloneK_any (c := a.kc) (h.kept hb).kids.1 (Nat.le_trans hf.kids (by decide))).mono fun e w' ⟨⟨A, c, he, hv⟩, hb2⟩ => ⟨⟨A, c, he, Fr.of_vk (hv.mono hs)⟩, hb2⟩
  have c2 : ∀ W1, Below W.heap.size W W1 → ∀ s, s ≤ W1.heap.size → Hid (Calls Try.prog 41 #[.slice a.pA n.piv.length a.pc] W1 fun e w' => (∃ A c, e = .returned (.slice A n.piv.length c) ∧ Fr StK w' s A c n.piv) ∧ Below W1.heap.size W1 w') := fun W1 hb s hs => (CloneS_any (c := a.pc) (h.kept hb).piv.1 (Nat.le_trans hf.piv (by decide))).mono fun e w' ⟨⟨A, c, he, hv⟩, hb2⟩ => ⟨⟨A, c, he, Fr.of_vk (hv.mono hs)⟩, hb2⟩
  have c3 : ∀ W1, Below W.heap.size W W1 → ∀ s, s ≤ W1.heap.size → Hid (Calls Try.prog 42 #[.slice a.bA n.buf.length a.bc] W1 fun e w' => (∃ A c, e = .returned (.slice A n.buf.length c) ∧ Fr MgK w' s A c n.buf) ∧ Below W1.heap.size W1 w') := fun W1 hb s hs => (CloneM_any (c := a.bc) (h.kept hb).buf.1 (Nat.le_trans hf.buf (by decide))).mono fun e w' ⟨⟨A, c, he, hv⟩, hb2⟩ => ⟨⟨A, c, he, Fr.of_vk (VK.mono hv hs)⟩, hb2⟩
  have c4 : ∀ W1, Below W.heap.size W W1 → ∀ s, s ≤ W1.heap.size → Hid (Calls Try.prog 43 #[.slice a.qA n.prs.length a.qc] W1 fun e w' => (∃ A c, e = .returned (.slice A n.prs.length c) ∧ Fr PrK w' s A c n.prs) ∧ Below W1.heap.size W1 w') := fun W1 hb s hs => (CloneP_any (c := a.qc) (h.kept hb).prs.1 (Nat.le_trans hf.prs (by decide))).mono fun e w' ⟨⟨A, c, he, hv⟩, hb2⟩ => ⟨⟨A, c, he, Fr.of_vk (VK.mono hv hs)⟩, hb2⟩
  clear h hf
  obtain ⟨lv, K, P, B, Q⟩ := n
  obtain ⟨kA, kc, pA, pc, bA, bc, qA, qc⟩ := a
  unfold ndCs at *
  simp only at *
  obtain ⟨kn, hkn⟩ : ∃ k, k = K.length := ⟨_, rfl⟩
  obtain ⟨pn, hpn⟩ : ∃ k, k = P.length := ⟨_, rfl⟩
  obtain ⟨bn, hbn⟩ : ∃ k, k = B.length := ⟨_, rfl⟩
  obtain ⟨qn, hqn⟩ : ∃ k, k = Q.length := ⟨_, rfl⟩
  simp only [← hkn, ← hpn, ← hbn, ← hqn] at *
  clear hkn hpn hbn hqn
  go_enter Try.func15, Try.ntmps15
  go_upto_region 1 with fail
  have h3 := two_new W (.cells #[.int .i64 lv, .slice kA kn kc, .slice pA pn pc, .slice bA bn bc, .slice qA qn qc] 29) (.cells #[.int .i64 0, .slice none 0 0, .slice none 0 0, .slice none 0 0, .slice none 0 0] 29)
  generalize (W.alloc (.cells #[.int .i64 lv, .slice kA kn kc, .slice pA pn pc, .slice bA bn bc, .slice qA qn qc] 29)).alloc (.cells #[.int .i64 0, .slice none 0 0, .slice none 0 0, .slice none 0 0, .slice none 0 0] 29) = w1 at *
  have HB := Lib.hid h3.2.2
  obtain ⟨g, hg⟩ : ∃ g, g = W.heap.size := ⟨_, rfl⟩
  obtain ⟨r, hr⟩ : ∃ r, r = g + 1 := ⟨_, rfl⟩
  rw [← hg] at h3
  simp only [← hg]
  rw [← hr] at h3
  simp only [← hr]
  have HX := Lib.hid h3.1
  have HY := Lib.hid h3.2.1
  have HR : Hid (W.heap.size ≤ r) := by unfold Hid; omega
  clear h3 hg hr
  obtain ⟨d0, d1, d2, d3, d4⟩ := box5 HX.out
  obtain ⟨s, hs⟩ : ∃ s, s = w1.heap.size := ⟨_, rfl⟩
  have HS : Hid (s ≤ w1.heap.size) := by rw [hs]; exact Nat.le_refl _
  have HRs : Hid (r < s) := by rw [hs]; exact (Array.getElem?_eq_some_iff.1 HY.out).1
  clear hs
  have z0 := fun q : Drift.Tide [] w1 [] => Drift.Tide.cell d0 (by simp) q
  have z1 := fun q : Drift.Tide [] w1 [] => Drift.Tide.cell d1 (by simp) q
  have z2 := fun q : Drift.Tide [] w1 [] => Drift.Tide.cell d2 (by simp) q
  have z3 := fun q : Drift.Tide [] w1 [] => Drift.Tide.cell d3 (by simp) q
  have z4 := fun q : Drift.Tide [] w1 [] => Drift.Tide.cell d4 (by simp) q
  clear d0 d1 d2 d3 d4
  refine Drift.wp_region_drift [] [(0,[]),(1,[]),(2,[]),(3,[]),(5,[]),(6,[]),(8,[]),(9,[]),(11,[]),(12,[]),(4,[]),(7,[]),(10,[]),(13,[]),(14,[])] [4, 7, 10, 13] [] (by kernel_rfl) (by kernel_rfl) (by simp) ?_
  simp only [Drift.pick, Drift.opsAt, List.getElem?_toArray, List.getElem?_cons_zero, List.getElem?_cons_succ, List.cons_append, List.nil_append, List.filterMap_nil]
  repeat (refine Drift.walk_step (fun K hK => ?_); go_simp; (refine hK _ ?_; clear hK K))
  refine Drift.walk_event rfl Drift.mkwalk_nil (EvFr KdK s K kn) (fun W2 hk _ => ?_) (fun v w2 hv hI _ hTd => ?_)
  · go_simp
    go_at_call 40
    refine (c1 W2 (HB.out.trans (hk.mono HB.out.size)) s (Nat.le_trans HS.out hk.size)).out.mono ?_
    rintro e w' ⟨⟨A, c, rfl, h1⟩, hb⟩
    exact ⟨_, rfl, ⟨A, c, rfl, h1⟩, Flow.Into.of_below hb⟩
  obtain ⟨A1, n1, rfl, h1⟩ := hv
  have HF1 := Lib.hid h1
  have HB1 : Hid (Below W.heap.size W w2) := HB.out.trans (hI.below.mono HB.out.size)
  have HI1 : Hid (Flow.Into [] w1 w2) := hI
  clear h1 hI hTd
  refine Drift.walk_event rfl Drift.mkwalk_nil (EvFr StK s P pn) (fun W2 hk _ => ?_) (fun v w3 hv hI _ hTd => ?_)
  · go_simp
    go_at_call 41
    refine (c2 W2 (HB1.out.trans (hk.mono HB1.out.size)) s (Nat.le_trans HS.out (Nat.le_trans HI1.out.size hk.size))).out.mono ?_
    rintro e w' ⟨⟨A, c, rfl, h1⟩, hb⟩
    exact ⟨_, rfl, ⟨A, c, rfl, h1⟩, Flow.Into.of_below hb⟩
  obtain ⟨A2, n2, rfl, h1⟩ := hv
  have HF2 := Lib.hid h1
  replace HF1 := Lib.hid (HF1.out.kept hI.below)
  have HB2 : Hid (Below W.heap.size W w3) := HB1.out.trans (hI.below.mono HB1.out.size)
  have HI2 : Hid (Flow.Into [] w1 w3) := HI1.out.trans hI
  clear h1 hI hTd
  refine Drift.walk_event rfl Drift.mkwalk_nil (EvFr MgK s B bn) (fun W2 hk _ => ?_) (fun v w4 hv hI _ hTd => ?_)
  · go_simp
    go_at_call 42
    refine (c3 W2 (HB2.out.trans (hk.mono HB2.out.size)) s (Nat.le_trans HS.out (Nat.le_trans HI2.out.size hk.size))).out.mono ?_
    rintro e w' ⟨⟨A, c, rfl, h1⟩, hb⟩
    exact ⟨_, rfl, ⟨A, c, rfl, h1⟩, Flow.Into.of_below hb⟩
  obtain ⟨A3, n3, rfl, h1⟩ := hv
  have HF3 := Lib.hid h1
  replace HF1 := Lib.hid (HF1.out.kept hI.below)
  replace HF2 := Lib.hid (HF2.out.kept hI.below)
  have HB3 : Hid (Below W.heap.size W w4) := HB2.out.trans (hI.below.mono HB2.out.size)
  have HI3 : Hid (Flow.Into [] w1 w4) := HI2.out.trans hI
  clear h1 hI hTd
  refine Drift.walk_event rfl Drift.mkwalk_nil (EvFr PrK s Q qn) (fun W2 hk _ => ?_) (fun v w5 hv hI _ hTd => ?_)
  · go_simp
    go_at_call 43
    refine (c4 W2 (HB3.out.trans (hk.mono HB3.out.size)) s (Nat.le_trans HS.out (Nat.le_trans HI3.out.size hk.size))).out.mono ?_
    rintro e w' ⟨⟨A, c, rfl, h1⟩, hb⟩
    exact ⟨_, rfl, ⟨A, c, rfl, h1⟩, Flow.Into.of_below hb⟩
  obtain ⟨A4, n4, rfl, h1⟩ := hv
  have HF4 := Lib.hid h1
  replace HF1 := Lib.hid (HF1.out.kept hI.below)
  replace HF2 := Lib.hid (HF2.out.kept hI.below)
  replace HF3 := Lib.hid (HF3.out.kept hI.below)
  have HB4 : Hid (Below W.heap.size W w5) := HB3.out.trans (hI.below.mono HB3.out.size)
  have HI4 : Hid (Flow.Into [] w1 w5) := HI3.out.trans hI
  clear h1 hI hTd
  repeat (refine Drift.walk_step (fun K hK => ?_); go_simp; (refine hK _ ?_; clear hK K))
  refine Drift.walk_nil ?_
  intro w6 hb6 _
  have hy6 := kept3 (kept3 HY.out (HI4.out.below)) hb6
  have h6 : FrNd w6 s ⟨lv, K, P, B, Q⟩ ⟨A1, n1, A2, n2, A3, n3, A4, n4⟩ := ⟨HF1.out.kept hb6, HF2.out.kept hb6, HF3.out.kept hb6, HF4.out.kept hb6⟩
  have HB6 := Lib.hid (HB4.out.trans (hb6.mono HB4.out.size))
  have hr := HRs.out
  have hws : W.heap.size ≤ s := by have := HR.out; omega
  have h7 := (((((h6.set hr (i := 0) (.int .i64 lv)).set hr (i := 1) (.slice A1 kn n1)).set hr (i := 2) (.slice A2 pn n2)).set hr (i := 3) (.slice A3 bn n3)).set hr (i := 4) (.slice A4 qn n4)).lower hws
  have hy7 := set_five hy6 (.int .i64 lv) (.slice A1 kn n1) (.slice A2 pn n2) (.slice A3 bn n3) (.slice A4 qn n4)
  have hb7 : Below W.heap.size W (((((w6.setCell ⟨r, 0, none⟩ (.int .i64 lv)).setCell ⟨r, 1, none⟩ (.slice A1 kn n1)).setCell ⟨r, 2, none⟩ (.slice A2 pn n2)).setCell ⟨r, 3, none⟩ (.slice A3 bn n3)).setCell ⟨r, 4, none⟩ (.slice A4 qn n4)) := ((((HB6.out.setCell HR.out _).setCell HR.out _).setCell HR.out _).setCell HR.out _).setCell HR.out _
  have H7 := Lib.hid h7
  have HB7 := Lib.hid hb7
  have HY7 := Lib.hid hy7
  obtain ⟨y0, y1, y2, y3, y4⟩ := box5 hy6
  have yf : ∀ i, w6.frozen? ⟨r, i, none⟩ = false := fun i => by simp [World.frozen?, hy6]
  clear h6 h7 hb7 hy7 hb6 hy6 hr hws HF1 HF2 HF3 HF4 HB1 HB2 HB3 HB4 HI1 HI2 HI3 HI4 c1 c2 c3 c4 z0 z1 z2 z3 z4 HX HY HB6
  simp only [List.length_cons, List.length_nil, List.drop_succ_cons, List.drop_zero, Nat.zero_add, Nat.reduceAdd]
  go_wp2_with fail
  generalize ((((w6.setCell ⟨r, 0, none⟩ (.int .i64 lv)).setCell ⟨r, 1, none⟩ (.slice A1 kn n1)).setCell ⟨r, 2, none⟩ (.slice A2 pn n2)).setCell ⟨r, 3, none⟩ (.slice A3 bn n3)).setCell ⟨r, 4, none⟩ (.slice A4 qn n4) = w7 at *
  obtain ⟨x0, x1, x2, x3, x4⟩ := box5 HY7.out
  exact bodyPost_ret (v := .agg #[.int .i64 lv, .slice A1 kn n1, .slice A2 pn n2, .slice A3 bn n3, .slice A4 qn n4]) (by simp [results, Try.results15, go_sem, x0, x1, x2, x3, x4]) rfl ⟨⟨⟨A1, n1, A2, n2, A3, n3, A4, n4⟩, rfl, H7.out⟩, HB7.out⟩

end No
end Go.Proofs.Ytlabbmfiecbigaa
