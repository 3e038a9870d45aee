/-
  CleaveR3. Put together by pack.py.
-/
import Derived.Test.YtohnllclkpflaaaPqCleaveR2
import Derived.Test.YtohnllclkpflaaaPkAJ
import Derived.Test.YtohnllclkpflaaaDriftW

namespace Go.Proofs.Ytohnllclkpflaaa
open Go.RowKit
namespace No
open Mem Lx Bu Lf Fa
/-- what the document's Halve tells -/
def EvHalf (h : Nd × Nd × ByteArray × Bool) (v : Value) (w : World) : Prop := ∃ z z', v = .tuple #[.agg (ndCs h.1 z), .agg (ndCs h.2.1 z'), .string h.2.2.1, .bool h.2.2.2] ∧ NdIn w h.1 z ∧ NdIn w h.2.1 z'
/-- a box filled -/
def EvBoxed (b : Nat) (C : Array Value) (v : Value) (w : World) : Prop := v = undef ∧ w.heap[b]? = some (.cells C 31 (0, 0))
theorem B5.setb5 {W w : World} {g ga gb : Nat} {X Y Z M : Obj} {u0 u1 u2 u3 u4 : Value} {U : TypeId} (h : B5 W g X Y Z ga gb M (.cells #[u0, u1, u2, u3, u4] U (0, 0)) w) (v0 v1 v2 v3 v4 : Value) : B5 W g X Y Z ga gb M (.cells #[v0, v1, v2, v3, v4] U (0, 0)) (set5 w gb v0 v1 v2 v3 v4) := by
  have hl := h.lb
  have h0 := h.b3.at_
  exact ⟨⟨set5_below h.b3.below (show W.heap.size ≤ gb by omega) _ _ _ _ _, h0, (set5_other _ _ _ _ _ (show g ≠ gb by omega)).trans h.b3.x, (set5_other _ _ _ _ _ (show g + 1 ≠ gb by omega)).trans h.b3.y, (set5_other _ _ _ _ _ (show g + 1 + 1 ≠ gb by omega)).trans h.b3.z⟩, (set5_other _ _ _ _ _ h.ne).trans h.a, set5_at h.b _ _ _ _ _, h.ne, h.la, h.lb⟩
/-- a result's box filled -/
def EvOut (w0 : World) (b : Nat) (C : Array Value) (v : Value) (w : World) : Prop := v = undef ∧ w.heap[b]? = some (.cells C 31 (0, 0)) ∧ Flow.Into [b] w0 w
theorem below_into {W w w' : World} {b : Nat} {S : List Nat} (h : Below b W w) (hi : Flow.Into S w w') (hS : ∀ k ∈ S, b ≤ k) (hb : b ≤ w.heap.size) : Below b W w' :=
  ⟨hi.os.trans h.os, hi.tape.trans h.tape, hi.output.trans h.output, Nat.le_trans h.size hi.size, fun k hk => (hi.block k (Nat.lt_of_lt_of_le hk hb) (fun hm => by have := hS k hm; omega)).trans (h.block k hk)⟩
theorem vk_pair {α : Type} {K : Kind α} {w w' : World} {B c ga gb : Nat} {A : Option Addr} {L : List α} (h : VK K w B A c L) (hi : Flow.Into [ga, gb] w w') (ha : ga < B) (hb : gb < B) : VK K w' B A c L := h.into hi fun a e hm => by
  have h1 := (h.at_ a e).1
  have h2 : a.block = ga ∨ a.block = gb := by simpa using hm
  omega
theorem into_more {w w' : World} {S T : List Nat} (h : Flow.Into S w w') (hs : ∀ k ∈ S, k ∈ T) : Flow.Into T w w' := ⟨h.os, h.tape, h.output, h.size, fun k hk hn => h.block k hk fun hm => hn (hs k hm)⟩
set_option maxRecDepth 100000 in
set_option maxHeartbeats 16000000 in
theorem RHalve_lfew {W : World} {n : Nd} {a : At} (hl : n.lv = 0) (h2 : n.prs.length < 2) : Calls Try.prog 11 #[.agg (ndCs n a)] W fun e w' => (∃ v, e = .returned v ∧ EvHalf (halfN n) v w') ∧ Below W.heap.size W w' := by
  have HE : halfN n = (zeroN, zeroN, ⟨#[]⟩, false) := by rw [halfN_leaf hl, halfP_few h2]; rfl
  rw [HE]
  clear HE
  obtain ⟨lv, K, P, B, Q⟩ := n
  obtain ⟨kA, kc, pA, pc, bA, bc, qA, qc⟩ := a
  simp only at hl
  subst hl
  unfold ndCs
  simp only at *
  generalize K.length = kn at *
  generalize P.length = pn at *
  generalize B.length = bn at *
  generalize Q.length = qn at *
  go_enter Try.func11, Try.ntmps11
  go_upto_region 1 with fail
  have HB := Lib.hid (B3.new W (.cells #[.int .i64 0, .slice kA kn kc, .slice pA pn pc, .slice bA bn bc, .slice qA qn qc] 31) (.cells #[.int .i64 0, .slice none 0 0, .slice none 0 0, .slice none 0 0, .slice none 0 0] 31) (.cells #[.int .i64 0, .slice none 0 0, .slice none 0 0, .slice none 0 0, .slice none 0 0] 31))
  generalize ((W.alloc (.cells #[.int .i64 0, .slice kA kn kc, .slice pA pn pc, .slice bA bn bc, .slice qA qn qc] 31)).alloc (.cells #[.int .i64 0, .slice none 0 0, .slice none 0 0, .slice none 0 0, .slice none 0 0] 31)).alloc (.cells #[.int .i64 0, .slice none 0 0, .slice none 0 0, .slice none 0 0, .slice none 0 0] 31) = w1 at *
  obtain ⟨g, hg⟩ : ∃ g, g = W.heap.size := ⟨_, rfl⟩
  rw [← hg] at HB
  simp only [← hg]
  clear hg
  obtain ⟨d0, d1, d2, d3, d4⟩ := box5 HB.out.x
  have z0 := fun q : Drift.Tide [] w1 [] => Drift.Tide.cell d0 (by simp) q
  clear d0 d1 d2 d3 d4
  refine DriftW.wp_region_drift [] [(0,[]),(1,[]),(2,[]),(3,[]),(4,[]),(5,[]),(6,[7]),(7,[]),(8,[])] [8] [6, 7] (by kernel_rfl) (by kernel_rfl) (by simp) ?_
  simp only [Drift.pick, Drift.opsAt, List.getElem?_toArray, List.getElem?_cons_zero, List.getElem?_cons_succ, List.cons_append, List.nil_append, List.filterMap_cons, List.filterMap_nil]
  repeat (refine DriftW.walk_step (fun K hK => ?_); go_simp; (refine hK _ ?_; clear hK K))
  refine DriftW.walk_make rfl (Drift.mkwalk_one rfl (fun b => .pointer (some ⟨b, 0, none⟩)) (.cells #[.int .i64 0, .slice none 0 0, .slice none 0 0, .slice none 0 0, .slice none 0 0] 31) (fun W => by go_simp) fun _ _ => Drift.mkwalk_nil) (fun b => .pointer (some ⟨b, 0, none⟩)) (.cells #[.int .i64 0, .slice none 0 0, .slice none 0 0, .slice none 0 0, .slice none 0 0] 31) (fun W => by go_simp) (fun ga hga _ => ?_)
  refine DriftW.walk_make_apart rfl Drift.mkwalk_nil (fun b => .pointer (some ⟨b, 0, none⟩)) (.cells #[.int .i64 0, .slice none 0 0, .slice none 0 0, .slice none 0 0, .slice none 0 0] 31) (fun W => by go_simp) (fun gb hgb hne _ => ?_)
  have hne2 : gb ≠ ga := hne (ga, .cells #[.int .i64 0, .slice none 0 0, .slice none 0 0, .slice none 0 0, .slice none 0 0] 31) (by simp)
  refine DriftW.walk_event_at rfl Drift.mkwalk_nil [ga] (fun k hk => ?_) (EvBoxed ga #[.int .i64 0, .slice none 0 0, .slice none 0 0, .slice none 0 0, .slice none 0 0]) (fun W2 hk hl2 => ?_) (fun v w2 hv hI hl2 => ?_)
  · obtain rfl : k = ga := by simpa using hk
    exact ⟨hga, (k, .cells #[.int .i64 0, .slice none 0 0, .slice none 0 0, .slice none 0 0, .slice none 0 0] 31), by simp, rfl⟩
  · have hx2 := hl2 (ga, .cells #[.int .i64 0, .slice none 0 0, .slice none 0 0, .slice none 0 0, .slice none 0 0] 31) (by simp)
    obtain ⟨a0, a1, a2, a3, a4⟩ := box5 hx2
    have fa0 := free5 hx2 0; have fa1 := free5 hx2 1; have fa2 := free5 hx2 2; have fa3 := free5 hx2 3; have fa4 := free5 hx2 4
    have hs5 := set5_at hx2 (.int .i64 0) (.slice none 0 0) (.slice none 0 0) (.slice none 0 0) (.slice none 0 0)
    have hi5 := into_set5 W2 ga (.int .i64 0) (.slice none 0 0) (.slice none 0 0) (.slice none 0 0) (.slice none 0 0)
    unfold set5 at hs5 hi5
    have HS5 := Lib.hid hs5
    have HI5 := Lib.hid hi5
    clear hs5 hi5
    go_simp
    exact ⟨⟨rfl, HS5.out⟩, HI5.out⟩
  obtain ⟨rfl, hv⟩ := hv
  refine DriftW.walk_nil ?_
  intro w3 hb3 hl3
  have hga3 := kept3 hv hb3
  have hgb3 := hl3 (gb, .cells #[.int .i64 0, .slice none 0 0, .slice none 0 0, .slice none 0 0, .slice none 0 0] 31) (DriftW.mem_keepG.2 ⟨by simp, by simpa using hne2⟩)
  have HB5 : Hid (B5 W g (.cells #[.int .i64 0, .slice kA kn kc, .slice pA pn pc, .slice bA bn bc, .slice qA qn qc] 31) (.cells #[.int .i64 0, .slice none 0 0, .slice none 0 0, .slice none 0 0, .slice none 0 0] 31) (.cells #[.int .i64 0, .slice none 0 0, .slice none 0 0, .slice none 0 0, .slice none 0 0] 31) ga gb (.cells #[.int .i64 0, .slice none 0 0, .slice none 0 0, .slice none 0 0, .slice none 0 0] 31) (.cells #[.int .i64 0, .slice none 0 0, .slice none 0 0, .slice none 0 0, .slice none 0 0] 31) w3) := ⟨(HB.out.kept hI.below).kept hb3, hga3, hgb3, Ne.symm hne2, Nat.lt_of_lt_of_le HB.out.lt hga, Nat.lt_of_lt_of_le HB.out.lt hgb⟩
  clear HB hb3 hl3 hl2 hne hne2 hga hgb z0 hI hv hga3 hgb3
  simp only [List.length_cons, List.length_nil, List.drop_succ_cons, List.drop_zero, Nat.zero_add, Nat.reduceAdd]
  obtain ⟨b0, b1, b2, b3, b4⟩ := box5 HB5.out.b
  have fb0 := free5 HB5.out.b 0; have fb1 := free5 HB5.out.b 1; have fb2 := free5 HB5.out.b 2; have fb3 := free5 HB5.out.b 3; have fb4 := free5 HB5.out.b 4
  go_upto_region 2 with fail
  clear b0 b1 b2 b3 b4 fb0 fb1 fb2 fb3 fb4
  replace HB5 := Lib.hid (HB5.out.setb5 (.int .i64 0) (.slice none 0 0) (.slice none 0 0) (.slice none 0 0) (.slice none 0 0))
  unfold set5 at HB5
  generalize ((((w3.setCell ⟨gb, 0, none⟩ (.int .i64 0)).setCell ⟨gb, 1, none⟩ (.slice none 0 0)).setCell ⟨gb, 2, none⟩ (.slice none 0 0)).setCell ⟨gb, 3, none⟩ (.slice none 0 0)).setCell ⟨gb, 4, none⟩ (.slice none 0 0) = w4 at *
  obtain ⟨d0, d1, d2, d3, d4⟩ := box5 HB5.out.b3.x
  obtain ⟨s0, s1, s2, s3, s4⟩ := box5 HB5.out.b3.y
  obtain ⟨u0, u1, u2, u3, u4⟩ := box5 HB5.out.b3.z
  have y0 := free5 HB5.out.b3.y 0; have y1 := free5 HB5.out.b3.y 1; have y2 := free5 HB5.out.b3.y 2; have y3 := free5 HB5.out.b3.y 3; have y4 := free5 HB5.out.b3.y 4
  have x0 := free5 HB5.out.b3.z 0; have x1 := free5 HB5.out.b3.z 1; have x2 := free5 HB5.out.b3.z 2; have x3 := free5 HB5.out.b3.z 3; have x4 := free5 HB5.out.b3.z 4
  go_wp2_with fail
  clear d0 d1 d2 d3 d4 s0 s1 s2 s3 s4 u0 u1 u2 u3 u4 y0 y1 y2 y3 y4 x0 x1 x2 x3 x4
  have HB := Lib.hid ((HB5.out.b3.set5y (.int .i64 0) (.slice none 0 0) (.slice none 0 0) (.slice none 0 0) (.slice none 0 0)).set5z (.int .i64 0) (.slice none 0 0) (.slice none 0 0) (.slice none 0 0) (.slice none 0 0))
  unfold set5 at HB
  generalize (((((((((w4.setCell ⟨g + 1, 0, none⟩ (.int .i64 0)).setCell ⟨g + 1, 1, none⟩ (.slice none 0 0)).setCell ⟨g + 1, 2, none⟩ (.slice none 0 0)).setCell ⟨g + 1, 3, none⟩ (.slice none 0 0)).setCell ⟨g + 1, 4, none⟩ (.slice none 0 0)).setCell ⟨g + 1 + 1, 0, none⟩ (.int .i64 0)).setCell ⟨g + 1 + 1, 1, none⟩ (.slice none 0 0)).setCell ⟨g + 1 + 1, 2, none⟩ (.slice none 0 0)).setCell ⟨g + 1 + 1, 3, none⟩ (.slice none 0 0)).setCell ⟨g + 1 + 1, 4, none⟩ (.slice none 0 0) = w9 at *
  obtain ⟨s0, s1, s2, s3, s4⟩ := box5 HB.out.y
  obtain ⟨u0, u1, u2, u3, u4⟩ := box5 HB.out.z
  exact bodyPost_ret (v := .tuple #[.agg #[.int .i64 0, .slice none 0 0, .slice none 0 0, .slice none 0 0, .slice none 0 0], .agg #[.int .i64 0, .slice none 0 0, .slice none 0 0, .slice none 0 0, .slice none 0 0], .string ⟨#[]⟩, .bool false]) (by simp [results, Try.results11, go_sem, s0, s1, s2, s3, s4, u0, u1, u2, u3, u4]) rfl ⟨⟨_, rfl, ⟨none, 0, none, 0, none, 0, none, 0⟩, ⟨none, 0, none, 0, none, 0, none, 0⟩, rfl, NdIn.zero _, NdIn.zero _⟩, HB.out.below⟩
set_option maxRecDepth 100000 in
set_option maxHeartbeats 16000000 in
theorem RHalve_ifew {W : World} {n : Nd} {a : At} (hl : n.lv ≠ 0) (h2 : n.kids.length < 2) : Calls Try.prog 11 #[.agg (ndCs n a)] W fun e w' => (∃ v, e = .returned v ∧ EvHalf (halfN n) v w') ∧ Below W.heap.size W w' := by
  rw [halfN_few hl h2]
  obtain ⟨lv, K, P, B, Q⟩ := n
  obtain ⟨kA, kc, pA, pc, bA, bc, qA, qc⟩ := a
  unfold ndCs
  simp only at *
  have hdl : (lv == 0) = false := by simpa using hl
  clear hl
  generalize K.length = kn at *
  generalize P.length = pn at *
  generalize B.length = bn at *
  generalize Q.length = qn at *
  go_enter Try.func11, Try.ntmps11
  go_upto_region 1 with fail
  have HB := Lib.hid (B3.new W (.cells #[.int .i64 lv, .slice kA kn kc, .slice pA pn pc, .slice bA bn bc, .slice qA qn qc] 31) (.cells #[.int .i64 0, .slice none 0 0, .slice none 0 0, .slice none 0 0, .slice none 0 0] 31) (.cells #[.int .i64 0, .slice none 0 0, .slice none 0 0, .slice none 0 0, .slice none 0 0] 31))
  generalize ((W.alloc (.cells #[.int .i64 lv, .slice kA kn kc, .slice pA pn pc, .slice bA bn bc, .slice qA qn qc] 31)).alloc (.cells #[.int .i64 0, .slice none 0 0, .slice none 0 0, .slice none 0 0, .slice none 0 0] 31)).alloc (.cells #[.int .i64 0, .slice none 0 0, .slice none 0 0, .slice none 0 0, .slice none 0 0] 31) = w1 at *
  obtain ⟨g, hg⟩ : ∃ g, g = W.heap.size := ⟨_, rfl⟩
  rw [← hg] at HB
  simp only [← hg]
  clear hg
  obtain ⟨d0, d1, d2, d3, d4⟩ := box5 HB.out.x
  have z0 := fun q : Drift.Tide [] w1 [] => Drift.Tide.cell d0 (by simp) q
  clear d0 d1 d2 d3 d4
  refine DriftW.wp_region_drift [] [(0,[]),(1,[]),(2,[]),(3,[]),(4,[]),(5,[]),(6,[7]),(7,[]),(8,[])] [8] [6, 7] (by kernel_rfl) (by kernel_rfl) (by simp) ?_
  simp only [Drift.pick, Drift.opsAt, List.getElem?_toArray, List.getElem?_cons_zero, List.getElem?_cons_succ, List.cons_append, List.nil_append, List.filterMap_cons, List.filterMap_nil]
  repeat (refine DriftW.walk_step (fun K hK => ?_); go_simp; (refine hK _ ?_; clear hK K))
  refine DriftW.walk_make rfl (Drift.mkwalk_one rfl (fun b => .pointer (some ⟨b, 0, none⟩)) (.cells #[.int .i64 0, .slice none 0 0, .slice none 0 0, .slice none 0 0, .slice none 0 0] 31) (fun W => by go_simp) fun _ _ => Drift.mkwalk_nil) (fun b => .pointer (some ⟨b, 0, none⟩)) (.cells #[.int .i64 0, .slice none 0 0, .slice none 0 0, .slice none 0 0, .slice none 0 0] 31) (fun W => by go_simp) (fun ga hga _ => ?_)
  refine DriftW.walk_make_apart rfl Drift.mkwalk_nil (fun b => .pointer (some ⟨b, 0, none⟩)) (.cells #[.int .i64 0, .slice none 0 0, .slice none 0 0, .slice none 0 0, .slice none 0 0] 31) (fun W => by go_simp) (fun gb hgb hne _ => ?_)
  have hne2 : gb ≠ ga := hne (ga, .cells #[.int .i64 0, .slice none 0 0, .slice none 0 0, .slice none 0 0, .slice none 0 0] 31) (by simp)
  refine DriftW.walk_event_at rfl Drift.mkwalk_nil [ga] (fun k hk => ?_) (EvBoxed ga #[.int .i64 lv, .slice none 0 0, .slice none 0 0, .slice none 0 0, .slice none 0 0]) (fun W2 hk hl2 => ?_) (fun v w2 hv hI hl2 => ?_)
  · obtain rfl : k = ga := by simpa using hk
    exact ⟨hga, (k, .cells #[.int .i64 0, .slice none 0 0, .slice none 0 0, .slice none 0 0, .slice none 0 0] 31), by simp, rfl⟩
  · have hx2 := hl2 (ga, .cells #[.int .i64 0, .slice none 0 0, .slice none 0 0, .slice none 0 0, .slice none 0 0] 31) (by simp)
    obtain ⟨a0, a1, a2, a3, a4⟩ := box5 hx2
    have fa0 := free5 hx2 0; have fa1 := free5 hx2 1; have fa2 := free5 hx2 2; have fa3 := free5 hx2 3; have fa4 := free5 hx2 4
    have hs5 := set5_at hx2 (.int .i64 lv) (.slice none 0 0) (.slice none 0 0) (.slice none 0 0) (.slice none 0 0)
    have hi5 := into_set5 W2 ga (.int .i64 lv) (.slice none 0 0) (.slice none 0 0) (.slice none 0 0) (.slice none 0 0)
    unfold set5 at hs5 hi5
    have HS5 := Lib.hid hs5
    have HI5 := Lib.hid hi5
    clear hs5 hi5
    go_simp
    exact ⟨⟨rfl, HS5.out⟩, HI5.out⟩
  obtain ⟨rfl, hv⟩ := hv
  refine DriftW.walk_nil ?_
  intro w3 hb3 hl3
  have hga3 := kept3 hv hb3
  have hgb3 := hl3 (gb, .cells #[.int .i64 0, .slice none 0 0, .slice none 0 0, .slice none 0 0, .slice none 0 0] 31) (DriftW.mem_keepG.2 ⟨by simp, by simpa using hne2⟩)
  have HB5 : Hid (B5 W g (.cells #[.int .i64 lv, .slice kA kn kc, .slice pA pn pc, .slice bA bn bc, .slice qA qn qc] 31) (.cells #[.int .i64 0, .slice none 0 0, .slice none 0 0, .slice none 0 0, .slice none 0 0] 31) (.cells #[.int .i64 0, .slice none 0 0, .slice none 0 0, .slice none 0 0, .slice none 0 0] 31) ga gb (.cells #[.int .i64 lv, .slice none 0 0, .slice none 0 0, .slice none 0 0, .slice none 0 0] 31) (.cells #[.int .i64 0, .slice none 0 0, .slice none 0 0, .slice none 0 0, .slice none 0 0] 31) w3) := ⟨(HB.out.kept hI.below).kept hb3, hga3, hgb3, Ne.symm hne2, Nat.lt_of_lt_of_le HB.out.lt hga, Nat.lt_of_lt_of_le HB.out.lt hgb⟩
  clear HB hb3 hl3 hl2 hne hne2 hga hgb z0 hI hv hga3 hgb3
  simp only [List.length_cons, List.length_nil, List.drop_succ_cons, List.drop_zero, Nat.zero_add, Nat.reduceAdd]
  obtain ⟨b0, b1, b2, b3, b4⟩ := box5 HB5.out.b
  have fb0 := free5 HB5.out.b 0; have fb1 := free5 HB5.out.b 1; have fb2 := free5 HB5.out.b 2; have fb3 := free5 HB5.out.b 3; have fb4 := free5 HB5.out.b 4
  go_upto_region 2 with fail
  clear b0 b1 b2 b3 b4 fb0 fb1 fb2 fb3 fb4
  replace HB5 := Lib.hid (HB5.out.setb5 (.int .i64 lv) (.slice none 0 0) (.slice none 0 0) (.slice none 0 0) (.slice none 0 0))
  unfold set5 at HB5
  generalize ((((w3.setCell ⟨gb, 0, none⟩ (.int .i64 lv)).setCell ⟨gb, 1, none⟩ (.slice none 0 0)).setCell ⟨gb, 2, none⟩ (.slice none 0 0)).setCell ⟨gb, 3, none⟩ (.slice none 0 0)).setCell ⟨gb, 4, none⟩ (.slice none 0 0) = w4 at *
  obtain ⟨d0, d1, d2, d3, d4⟩ := box5 HB5.out.b3.x
  obtain ⟨s0, s1, s2, s3, s4⟩ := box5 HB5.out.b3.y
  obtain ⟨u0, u1, u2, u3, u4⟩ := box5 HB5.out.b3.z
  have y0 := free5 HB5.out.b3.y 0; have y1 := free5 HB5.out.b3.y 1; have y2 := free5 HB5.out.b3.y 2; have y3 := free5 HB5.out.b3.y 3; have y4 := free5 HB5.out.b3.y 4
  have x0 := free5 HB5.out.b3.z 0; have x1 := free5 HB5.out.b3.z 1; have x2 := free5 HB5.out.b3.z 2; have x3 := free5 HB5.out.b3.z 3; have x4 := free5 HB5.out.b3.z 4
  go_wp2_with fail
  clear d0 d1 d2 d3 d4 s0 s1 s2 s3 s4 u0 u1 u2 u3 u4 y0 y1 y2 y3 y4 x0 x1 x2 x3 x4
  have HB := Lib.hid ((HB5.out.b3.set5y (.int .i64 0) (.slice none 0 0) (.slice none 0 0) (.slice none 0 0) (.slice none 0 0)).set5z (.int .i64 0) (.slice none 0 0) (.slice none 0 0) (.slice none 0 0) (.slice none 0 0))
  unfold set5 at HB
  generalize (((((((((w4.setCell ⟨g + 1, 0, none⟩ (.int .i64 0)).setCell ⟨g + 1, 1, none⟩ (.slice none 0 0)).setCell ⟨g + 1, 2, none⟩ (.slice none 0 0)).setCell ⟨g + 1, 3, none⟩ (.slice none 0 0)).setCell ⟨g + 1, 4, none⟩ (.slice none 0 0)).setCell ⟨g + 1 + 1, 0, none⟩ (.int .i64 0)).setCell ⟨g + 1 + 1, 1, none⟩ (.slice none 0 0)).setCell ⟨g + 1 + 1, 2, none⟩ (.slice none 0 0)).setCell ⟨g + 1 + 1, 3, none⟩ (.slice none 0 0)).setCell ⟨g + 1 + 1, 4, none⟩ (.slice none 0 0) = w9 at *
  obtain ⟨s0, s1, s2, s3, s4⟩ := box5 HB.out.y
  obtain ⟨u0, u1, u2, u3, u4⟩ := box5 HB.out.z
  exact bodyPost_ret (v := .tuple #[.agg #[.int .i64 0, .slice none 0 0, .slice none 0 0, .slice none 0 0, .slice none 0 0], .agg #[.int .i64 0, .slice none 0 0, .slice none 0 0, .slice none 0 0, .slice none 0 0], .string ⟨#[]⟩, .bool false]) (by simp [results, Try.results11, go_sem, s0, s1, s2, s3, s4, u0, u1, u2, u3, u4]) rfl ⟨⟨_, rfl, ⟨none, 0, none, 0, none, 0, none, 0⟩, ⟨none, 0, none, 0, none, 0, none, 0⟩, rfl, NdIn.zero _, NdIn.zero _⟩, HB.out.below⟩
set_option maxRecDepth 100000 in
set_option maxHeartbeats 16000000 in
theorem RHalve_lsome {W : World} {n : Nd} {a : At} (h : NdIn W n a) (hf : Fit n) (hl : n.lv = 0) (h2 : 2 ≤ n.prs.length) : Calls Try.prog 11 #[.agg (ndCs n a)] W fun e w' => (∃ v, e = .returned v ∧ EvHalf (halfN n) v w') ∧ Below W.heap.size W w' := by
  obtain ⟨xx, yy, hx0, hy0, he⟩ := halfP_at h2
  rw [halfN_leaf hl, he]
  obtain ⟨hh, hhh⟩ : ∃ hh, hh = (n.prs.length + 1) / 2 := ⟨_, rfl⟩
  rw [← hhh] at hx0 hy0 ⊢
  have HH := Lib.hid h
  have k4 := hf.prs
  have hxs := hf.qk xx (List.mem_of_getElem? hx0)
  have hys := hf.qk yy (List.mem_of_getElem? hy0)
  have cC : ∀ w : World, Hid (Calls Try.prog 25 #[.string xx.1, .string yy.1] w fun e w' => e = .returned (.tuple #[.string (cutB xx.1 yy.1).1, .bool (cutB xx.1 yy.1).2]) ∧ Below w.heap.size w w') := fun w => (RCut_any xx.1 yy.1 w (Nat.le_trans hxs (by decide)) (Nat.le_trans hys (by decide))).mono fun e w' ⟨he, m, hw⟩ => ⟨he, by subst hw; exact ⟨rfl, rfl, rfl, Nat.le_refl _, fun _ _ => rfl⟩⟩
  generalize cutB xx.1 yy.1 = ct at *
  obtain ⟨pv, po⟩ := ct
  clear h hf hxs hys he
  obtain ⟨lv, K, P, B, Q⟩ := n
  obtain ⟨kA, kc, pA, pc, bA, bc, qA, qc⟩ := a
  simp only at hl
  subst hl
  unfold ndCs
  simp only at *
  have HX0 := Lib.hid hx0
  have HY0 := Lib.hid hy0
  generalize K.length = kn at *
  generalize P.length = pn at *
  generalize B.length = bn at *
  generalize hqn : Q.length = qn at *
  have HQN := Lib.hid hqn
  have hh1 : 1 ≤ hh := by omega
  have hh2 : hh < qn := by omega
  have HHH : Hid (∀ k : Nat, (2 * k < qn ↔ k < hh)) := fun k => by omega
  obtain ⟨j, hj⟩ : ∃ j, j = hh - 1 := ⟨_, rfl⟩
  have hwj : IntKind.i64.wrap ((hh : Int) - 1) = (j : Int) := by rw [IntKind.wrap_i64]; omega
  have hjh : j < hh := by omega
  have hd2 : decide ((qn : Int) < 2) = false := by simp; omega
  clear hqn hhh hx0 hy0 h2
  go_enter Try.func11, Try.ntmps11
  go_upto_region 1 with fail
  have HB := Lib.hid (B3.new W (.cells #[.int .i64 0, .slice kA kn kc, .slice pA pn pc, .slice bA bn bc, .slice qA qn qc] 31) (.cells #[.int .i64 0, .slice none 0 0, .slice none 0 0, .slice none 0 0, .slice none 0 0] 31) (.cells #[.int .i64 0, .slice none 0 0, .slice none 0 0, .slice none 0 0, .slice none 0 0] 31))
  generalize ((W.alloc (.cells #[.int .i64 0, .slice kA kn kc, .slice pA pn pc, .slice bA bn bc, .slice qA qn qc] 31)).alloc (.cells #[.int .i64 0, .slice none 0 0, .slice none 0 0, .slice none 0 0, .slice none 0 0] 31)).alloc (.cells #[.int .i64 0, .slice none 0 0, .slice none 0 0, .slice none 0 0, .slice none 0 0] 31) = w1 at *
  obtain ⟨g, hg⟩ : ∃ g, g = W.heap.size := ⟨_, rfl⟩
  rw [← hg] at HB
  simp only [← hg]
  clear hg
  obtain ⟨d0, d1, d2, d3, d4⟩ := box5 HB.out.x
  have z0 := fun q : Drift.Tide [] w1 [] => Drift.Tide.cell d0 (by simp) q
  clear d0 d1 d2 d3 d4
  refine DriftW.wp_region_drift [] [(0,[]),(1,[]),(2,[]),(3,[]),(4,[]),(5,[]),(6,[7]),(7,[]),(8,[])] [8] [6, 7] (by kernel_rfl) (by kernel_rfl) (by simp) ?_
  simp only [Drift.pick, Drift.opsAt, List.getElem?_toArray, List.getElem?_cons_zero, List.getElem?_cons_succ, List.cons_append, List.nil_append, List.filterMap_cons, List.filterMap_nil]
  repeat (refine DriftW.walk_step (fun K hK => ?_); go_simp; (refine hK _ ?_; clear hK K))
  refine DriftW.walk_make rfl (Drift.mkwalk_one rfl (fun b => .pointer (some ⟨b, 0, none⟩)) (.cells #[.int .i64 0, .slice none 0 0, .slice none 0 0, .slice none 0 0, .slice none 0 0] 31) (fun W => by go_simp) fun _ _ => Drift.mkwalk_nil) (fun b => .pointer (some ⟨b, 0, none⟩)) (.cells #[.int .i64 0, .slice none 0 0, .slice none 0 0, .slice none 0 0, .slice none 0 0] 31) (fun W => by go_simp) (fun ga hga _ => ?_)
  refine DriftW.walk_make_apart rfl Drift.mkwalk_nil (fun b => .pointer (some ⟨b, 0, none⟩)) (.cells #[.int .i64 0, .slice none 0 0, .slice none 0 0, .slice none 0 0, .slice none 0 0] 31) (fun W => by go_simp) (fun gb hgb hne _ => ?_)
  have hne2 : gb ≠ ga := hne (ga, .cells #[.int .i64 0, .slice none 0 0, .slice none 0 0, .slice none 0 0, .slice none 0 0] 31) (by simp)
  refine DriftW.walk_event_at rfl Drift.mkwalk_nil [ga] (fun k hk => ?_) (EvBoxed ga #[.int .i64 0, .slice none 0 0, .slice none 0 0, .slice none 0 0, .slice none 0 0]) (fun W2 hk hl2 => ?_) (fun v w2 hv hI hl2 => ?_)
  · obtain rfl : k = ga := by simpa using hk
    exact ⟨hga, (k, .cells #[.int .i64 0, .slice none 0 0, .slice none 0 0, .slice none 0 0, .slice none 0 0] 31), by simp, rfl⟩
  · have hx2 := hl2 (ga, .cells #[.int .i64 0, .slice none 0 0, .slice none 0 0, .slice none 0 0, .slice none 0 0] 31) (by simp)
    obtain ⟨a0, a1, a2, a3, a4⟩ := box5 hx2
    have fa0 := free5 hx2 0; have fa1 := free5 hx2 1; have fa2 := free5 hx2 2; have fa3 := free5 hx2 3; have fa4 := free5 hx2 4
    have hs5 := set5_at hx2 (.int .i64 0) (.slice none 0 0) (.slice none 0 0) (.slice none 0 0) (.slice none 0 0)
    have hi5 := into_set5 W2 ga (.int .i64 0) (.slice none 0 0) (.slice none 0 0) (.slice none 0 0) (.slice none 0 0)
    unfold set5 at hs5 hi5
    have HS5 := Lib.hid hs5
    have HI5 := Lib.hid hi5
    clear hs5 hi5
    go_simp
    exact ⟨⟨rfl, HS5.out⟩, HI5.out⟩
  obtain ⟨rfl, hv⟩ := hv
  refine DriftW.walk_nil ?_
  intro w3 hb3 hl3
  have hga3 := kept3 hv hb3
  have hgb3 := hl3 (gb, .cells #[.int .i64 0, .slice none 0 0, .slice none 0 0, .slice none 0 0, .slice none 0 0] 31) (DriftW.mem_keepG.2 ⟨by simp, by simpa using hne2⟩)
  have HB5 : Hid (B5 W g (.cells #[.int .i64 0, .slice kA kn kc, .slice pA pn pc, .slice bA bn bc, .slice qA qn qc] 31) (.cells #[.int .i64 0, .slice none 0 0, .slice none 0 0, .slice none 0 0, .slice none 0 0] 31) (.cells #[.int .i64 0, .slice none 0 0, .slice none 0 0, .slice none 0 0, .slice none 0 0] 31) ga gb (.cells #[.int .i64 0, .slice none 0 0, .slice none 0 0, .slice none 0 0, .slice none 0 0] 31) (.cells #[.int .i64 0, .slice none 0 0, .slice none 0 0, .slice none 0 0, .slice none 0 0] 31) w3) := ⟨(HB.out.kept hI.below).kept hb3, hga3, hgb3, Ne.symm hne2, Nat.lt_of_lt_of_le HB.out.lt hga, Nat.lt_of_lt_of_le HB.out.lt hgb⟩
  clear HB hb3 hl3 hl2 hne hne2 hga hgb z0 hI hv hga3 hgb3
  simp only [List.length_cons, List.length_nil, List.drop_succ_cons, List.drop_zero, Nat.zero_add, Nat.reduceAdd]
  obtain ⟨b0, b1, b2, b3, b4⟩ := box5 HB5.out.b
  have fb0 := free5 HB5.out.b 0; have fb1 := free5 HB5.out.b 1; have fb2 := free5 HB5.out.b 2; have fb3 := free5 HB5.out.b 3; have fb4 := free5 HB5.out.b 4
  go_upto_region 2 with fail
  clear b0 b1 b2 b3 b4 fb0 fb1 fb2 fb3 fb4
  replace HB5 := Lib.hid (HB5.out.setb5 (.int .i64 0) (.slice none 0 0) (.slice none 0 0) (.slice none 0 0) (.slice none 0 0))
  unfold set5 at HB5
  generalize ((((w3.setCell ⟨gb, 0, none⟩ (.int .i64 0)).setCell ⟨gb, 1, none⟩ (.slice none 0 0)).setCell ⟨gb, 2, none⟩ (.slice none 0 0)).setCell ⟨gb, 3, none⟩ (.slice none 0 0)).setCell ⟨gb, 4, none⟩ (.slice none 0 0) = w4 at *
  have HL0 := Lib.hid (Lp.start (K := PrK) HB5.out)
  obtain ⟨d0, d1, d2, d3, d4⟩ := box5 HB5.out.b3.x
  have hbW := HB5.out.b3.below.size
  clear HB5
  go_wp2_with fail
  go_loopg [8] qn (fun gk iv wr => ∃ (k a b c1 c2 : Nat) (A1 A2 : Option Addr), k ≤ qn ∧ gk = qn - k ∧ iv = .int .i64 (k : Int) ∧ a ≤ k ∧ b ≤ k ∧ Hid (((Q.take k).take hh).length = a) ∧ Hid (((Q.take k).drop hh).length = b) ∧ Hid (Lp PrK W w4 g (.cells #[.int .i64 0, .slice kA kn kc, .slice pA pn pc, .slice bA bn bc, .slice qA qn qc] 31) (.cells #[.int .i64 0, .slice none 0 0, .slice none 0 0, .slice none 0 0, .slice none 0 0] 31) (.cells #[.int .i64 0, .slice none 0 0, .slice none 0 0, .slice none 0 0, .slice none 0 0] 31) ga gb (.cells #[.int .i64 0, .slice none 0 0, .slice none 0 0, .slice none 0 0, .slice A1 a c1] 31) (.cells #[.int .i64 0, .slice none 0 0, .slice none 0 0, .slice none 0 0, .slice A2 b c2] 31) A1 c1 ((Q.take k).take hh) A2 c2 ((Q.take k).drop hh) wr))
  case atStart => exact ⟨0, 0, 0, 0, 0, none, none, Nat.zero_le _, rfl, rfl, Nat.le_refl _, Nat.le_refl _, by simp [Hid], by simp [Hid], by simpa [Hid] using HL0.out⟩
  case round =>
    obtain ⟨k, a, b, c1, c2, A1, A2, hk, rfl, rfl, ha, hb, HLA, HLB, HL⟩ := hrel
    clear HL0 d0 d1 d2 d3 d4
    obtain ⟨d0, d1, d2, d3, d4⟩ := box5 HL.out.b5.b3.x
    obtain ⟨u0, u1, u2, u3, u4⟩ := box5 HL.out.b5.a
    obtain ⟨v0, v1, v2, v3, v4⟩ := box5 HL.out.b5.b
    by_cases hlt : k < qn
    · have hkL : k < Q.length := by rw [HQN.out]; exact hlt
      obtain ⟨x, hxx⟩ : ∃ x, x = Q[k] := ⟨_, rfl⟩
      have hx' : Q[k]? = some x := by rw [hxx]; exact List.getElem?_eq_getElem hkL
      obtain ⟨bx, ox, ex, -, r0, r1⟩ := RdK.pair (HH.out.kept HL.out.b5.b3.below).prs.1 hx'
      have hbx0 : bx < W.heap.size := by
        obtain ⟨b', o', e', h', -⟩ := RdK.pair HH.out.prs.1 hx'
        rw [ex] at e'
        obtain ⟨rfl, rfl⟩ : bx = b' ∧ ox = o' := by simpa using e'
        exact h'
      have hbx : bx < w4.heap.size := Nat.lt_of_lt_of_le hbx0 hbW
      simp only at ex
      subst ex
      have HX := Lib.hid hx'
      have hw2 : IntKind.i64.wrap ((k : Int) + 1) = ((k + 1 : Nat) : Int) := by rw [IntKind.wrap_i64]; omega
      have hw3 : IntKind.i64.wrap (2 * (k : Int)) = ((2 * k : Nat) : Int) := by rw [IntKind.wrap_i64]; omega
      clear hxx hkL hx' hbx0
      by_cases hlo : k < hh
      · have hlt2 : ((2 * k : Nat) : Int) < (qn : Int) := by have := (HHH.out k).2 hlo; omega
        go_upto_region 9 with fail
        obtain ⟨S, hS1, hS2⟩ := VK.blocks HL.out.v1
        have hS3 : ∀ k, k ∈ S → k < wr.heap.size := fun k hk => (hS2 k hk).2
        have hbig : ∀ k, k < w4.heap.size → k ∉ S := fun k hk hm => by
          have := (hS2 k hm).1
          omega
        have hgS : g ∉ S := hbig g (by have := HL.out.b5.la; have := HL.out.ha; omega)
        have hbS : ga ∉ S := hbig ga HL.out.ha
        have hxS : bx ∉ S := hbig bx hbx
        have HS1 := Lib.hid hS1
        have hm1 : a + 1 ≤ 1048576 := by omega
        have yr0 := fun q : Drift.Tide S wr [] => Drift.Tide.cell r0 hxS q
        have yr1 := fun q : Drift.Tide S wr [] => Drift.Tide.cell r1 hxS q
        have yd := fun q : Drift.Tide S wr [] => Drift.Tide.cell d4 hgS q
        have yu := fun q : Drift.Tide S wr [] => Drift.Tide.cell u4 hbS q
        clear hbig hgS hbS hxS hS1 hS2 r0 r1 d0 d1 d2 d3 d4 u0 u1 u2 u3 u4 v0 v1 v2 v3 v4
        refine Drift.wp_region_drift S [(0,[]),(1,[]),(2,[]),(3,[]),(4,[]),(5,[]),(6,[]),(7,[]),(8,[])] [8] [7] (by kernel_rfl) (by kernel_rfl) hS3 ?_
        clear hS3
        simp only [Drift.pick, Drift.opsAt, List.getElem?_toArray, List.getElem?_cons_zero, List.getElem?_cons_succ, List.cons_append, List.nil_append, List.filterMap_nil]
        repeat (refine Drift.walk_step (fun K hK => ?_); go_simp; (refine hK _ ?_; clear hK K))
        refine Drift.walk_make rfl Drift.mkwalk_nil (fun b => .slice (some ⟨b, 0, none⟩) 1 1) (.cells #[.string x.1, .string x.2] 52) (fun W => by go_simp) (fun b1 hb1 hT1 => ?_)
        refine Drift.walk_event rfl Drift.mkwalk_nil (EvApp PrK w4.heap.size wr A1 (a + 1) ((Q.take k).take hh ++ [x])) (fun W2 hk hl2 => ?_) (fun v w5 hv hI _ hTd => ?_)
        · exact evAt_appW (K := PrK) Try.underlying29 prinfo rfl (by decide) (by decide) (.tmp 44) (.tmp 50) rfl w4.heap.size A1 a c1 ((Q.take k).take hh) rfl HLA.out HL.out.v1 hk b1 1 x rfl (hl2 (b1, .cells #[.string x.1, .string x.2] 52) (by simp)) hm1 HL.out.size HS1.out
        obtain ⟨A5, c5, rfl, hd5⟩ := hv
        have HD5 := Lib.hid hd5
        clear hI hd5 hTd
        refine Drift.walk_nil ?_
        intro w6 hb6 _
        have HD6 := Lib.hid (HD5.out.then_ hb6 (Nat.le_trans HL.out.size HD5.out.below.size))
        have H6 := Lib.hid (HL.out.b5.grow HD6.out.below HL.out.ha HL.out.hb)
        obtain ⟨u0, u1, u2, u3, u4⟩ := box5 H6.out.a
        have fr := free5 H6.out.a 4
        have HL6 := Lib.hid (HL.out.app1 HD6.out (i := 4) (.slice A5 (a + 1) c5) (.cells #[.int .i64 0, .slice none 0 0, .slice none 0 0, .slice none 0 0, .slice A5 (a + 1) c5] 31) (fun w h => by simp [World.setCell, Array.getElem?_modify, h]))
        clear hb6 HD5 HD6 yd yu yr0 yr1 hT1 HS1 H6
        simp only [List.length_cons, List.length_nil, List.drop_succ_cons, List.drop_zero, Nat.zero_add, Nat.reduceAdd]
        go_wp2_with fail
        obtain ⟨e1, e2⟩ := part_lo HX.out hlo
        go_roundg (qn - (k + 1))
        case measure => omega
        case rel => exact ⟨k + 1, a + 1, b, c5, c2, A5, A2, hlt, rfl, by go_num, by omega, by omega, by unfold Hid; rw [e1, List.length_append, HLA.out]; rfl, by unfold Hid; rw [e2]; exact HLB.out, by unfold Hid; rw [e1, e2]; exact HL6.out⟩
      · have hlt2 : (qn : Int) ≤ ((2 * k : Nat) : Int) := by
          have : ¬ 2 * k < qn := fun hc => hlo ((HHH.out k).1 hc)
          omega
        go_upto_region 10 with fail
        obtain ⟨S, hS1, hS2⟩ := VK.blocks HL.out.v2
        have hS3 : ∀ k, k ∈ S → k < wr.heap.size := fun k hk => (hS2 k hk).2
        have hbig : ∀ k, k < w4.heap.size → k ∉ S := fun k hk hm => by
          have := (hS2 k hm).1
          omega
        have hgS : g ∉ S := hbig g (by have := HL.out.b5.la; have := HL.out.ha; omega)
        have hbS : gb ∉ S := hbig gb HL.out.hb
        have hxS : bx ∉ S := hbig bx hbx
        have HS1 := Lib.hid hS1
        have hm1 : b + 1 ≤ 1048576 := by omega
        have yr0 := fun q : Drift.Tide S wr [] => Drift.Tide.cell r0 hxS q
        have yr1 := fun q : Drift.Tide S wr [] => Drift.Tide.cell r1 hxS q
        have yd := fun q : Drift.Tide S wr [] => Drift.Tide.cell d4 hgS q
        have yu := fun q : Drift.Tide S wr [] => Drift.Tide.cell v4 hbS q
        clear hbig hgS hbS hxS hS1 hS2 r0 r1 d0 d1 d2 d3 d4 u0 u1 u2 u3 u4 v0 v1 v2 v3 v4
        refine Drift.wp_region_drift S [(0,[]),(1,[]),(2,[]),(3,[]),(4,[]),(5,[]),(6,[]),(7,[]),(8,[])] [8] [7] (by kernel_rfl) (by kernel_rfl) hS3 ?_
        clear hS3
        simp only [Drift.pick, Drift.opsAt, List.getElem?_toArray, List.getElem?_cons_zero, List.getElem?_cons_succ, List.cons_append, List.nil_append, List.filterMap_nil]
        repeat (refine Drift.walk_step (fun K hK => ?_); go_simp; (refine hK _ ?_; clear hK K))
        refine Drift.walk_make rfl Drift.mkwalk_nil (fun b => .slice (some ⟨b, 0, none⟩) 1 1) (.cells #[.string x.1, .string x.2] 52) (fun W => by go_simp) (fun b1 hb1 hT1 => ?_)
        refine Drift.walk_event rfl Drift.mkwalk_nil (EvApp PrK w4.heap.size wr A2 (b + 1) ((Q.take k).drop hh ++ [x])) (fun W2 hk hl2 => ?_) (fun v w5 hv hI _ hTd => ?_)
        · exact evAt_appW (K := PrK) Try.underlying29 prinfo rfl (by decide) (by decide) (.tmp 54) (.tmp 60) rfl w4.heap.size A2 b c2 ((Q.take k).drop hh) rfl HLB.out HL.out.v2 hk b1 1 x rfl (hl2 (b1, .cells #[.string x.1, .string x.2] 52) (by simp)) hm1 HL.out.size HS1.out
        obtain ⟨A5, c5, rfl, hd5⟩ := hv
        have HD5 := Lib.hid hd5
        clear hI hd5 hTd
        refine Drift.walk_nil ?_
        intro w6 hb6 _
        have HD6 := Lib.hid (HD5.out.then_ hb6 (Nat.le_trans HL.out.size HD5.out.below.size))
        have H6 := Lib.hid (HL.out.b5.grow HD6.out.below HL.out.ha HL.out.hb)
        obtain ⟨u0, u1, u2, u3, u4⟩ := box5 H6.out.b
        have fr := free5 H6.out.b 4
        have HL6 := Lib.hid (HL.out.app2 HD6.out (i := 4) (.slice A5 (b + 1) c5) (.cells #[.int .i64 0, .slice none 0 0, .slice none 0 0, .slice none 0 0, .slice A5 (b + 1) c5] 31) (fun w h => by simp [World.setCell, Array.getElem?_modify, h]))
        clear hb6 HD5 HD6 yd yu yr0 yr1 hT1 HS1 H6
        simp only [List.length_cons, List.length_nil, List.drop_succ_cons, List.drop_zero, Nat.zero_add, Nat.reduceAdd]
        go_wp2_with fail
        obtain ⟨e1, e2⟩ := part_hi HX.out (Nat.le_of_not_lt hlo)
        go_roundg (qn - (k + 1))
        case measure => omega
        case rel => exact ⟨k + 1, a, b + 1, c1, c5, A1, A5, hlt, rfl, by go_num, by omega, by omega, by unfold Hid; rw [e1]; exact HLA.out, by unfold Hid; rw [e2, List.length_append, HLB.out]; rfl, by unfold Hid; rw [e1, e2]; exact HL6.out⟩
    · obtain rfl : k = qn := by omega
      have e0 : Q.take k = Q := List.take_of_length_le (by rw [HQN.out]; exact Nat.le_refl _)
      rw [e0] at HLA HLB HL
      obtain rfl : a = hh := by have := HLA.out; rw [List.length_take, HQN.out] at this; omega
      obtain rfl : b = k - a := by have := HLB.out; rw [List.length_drop, HQN.out] at this; omega
      clear hlt hk hb hbW d0 d1 d2 d3 d4
      have hx1 : (Q.take a)[j]? = some xx := by
        rw [List.getElem?_take_of_lt hjh, hj]
        exact HX0.out
      have hy1 : (Q.drop a)[0]? = some yy := by
        rw [List.getElem?_drop, Nat.add_zero]
        exact HY0.out
      obtain ⟨b1, o1, e1, -, p0, -⟩ := RdK.pair HL.out.v1.rd hx1
      obtain ⟨b2, o2, e2, -, q0, -⟩ := RdK.pair HL.out.v2.rd hy1
      subst e1 e2
      rw [Nat.zero_mul, Nat.add_zero] at q0
      have hb0 : 0 < k - a := by omega
      obtain ⟨d0, d1, d2, d3, d4⟩ := box5 HL.out.b5.b3.x
      go_upto_region 11 with fail
      have zp := fun q : Drift.Tide [] wr [] => Drift.Tide.cell p0 (by simp) q
      have zq := fun q : Drift.Tide [] wr [] => Drift.Tide.cell q0 (by simp) q
      have zu := fun q : Drift.Tide [] wr [] => Drift.Tide.cell u4 (by simp) q
      have zv := fun q : Drift.Tide [] wr [] => Drift.Tide.cell v4 (by simp) q
      clear d0 d1 d2 d3 d4 u0 u1 u2 u3 u4 v0 v1 v2 v3 v4 p0 q0 hx1 hy1 hj
      refine Drift.wp_region_drift [] [(0,[]),(1,[]),(2,[]),(3,[]),(4,[]),(5,[]),(6,[]),(7,[]),(8,[]),(9,[]),(10,[]),(11,[]),(12,[]),(13,[]),(14,[]),(15,[]),(16,[]),(17,[]),(18,[]),(19,[])] [] [] (by kernel_rfl) (by kernel_rfl) (by simp) ?_
      simp only [Drift.pick, Drift.opsAt, List.getElem?_toArray, List.getElem?_cons_zero, List.getElem?_cons_succ, List.cons_append, List.nil_append, List.filterMap_nil]
      repeat (refine Drift.walk_step (fun K hK => ?_); go_simp; first | (refine hK _ ?_; clear hK K) | (apply Exists.intro; refine ⟨fun q => ?_, hK _ ?_⟩; (go_at_call 25; exact (cC _).out); clear hK K))
      refine Drift.walk_nil ?_
      intro w10 hb10 _
      have HX5 := Lib.hid (HL.out.b5.kept hb10)
      have HV1 := Lib.hid (HL.out.v1.kept hb10)
      have HV2 := Lib.hid (HL.out.v2.kept hb10)
      have HGA : Hid (ga < w4.heap.size) := HL.out.ha
      clear hb10 zp zq zu zv HL cC hwj
      simp only [List.length_cons, List.length_nil, List.drop_succ_cons, List.drop_zero, Nat.zero_add, Nat.reduceAdd]
      go_upto_region 12 with fail
      obtain ⟨m0, m1, m2, m3, m4⟩ := box5 HX5.out.a
      obtain ⟨n0, n1, n2, n3, n4⟩ := box5 HX5.out.b
      have hgm : ga ∉ [g + 1, g + 1 + 1] := by have := HX5.out.la; simp; omega
      have hgn : gb ∉ [g + 1, g + 1 + 1] := by have := HX5.out.lb; simp; omega
      have tm0 := fun q : Drift.Tide [g + 1, g + 1 + 1] w10 [] => Drift.Tide.cell m0 hgm q
      have tm1 := fun q : Drift.Tide [g + 1, g + 1 + 1] w10 [] => Drift.Tide.cell m1 hgm q
      have tm2 := fun q : Drift.Tide [g + 1, g + 1 + 1] w10 [] => Drift.Tide.cell m2 hgm q
      have tm3 := fun q : Drift.Tide [g + 1, g + 1 + 1] w10 [] => Drift.Tide.cell m3 hgm q
      have tm4 := fun q : Drift.Tide [g + 1, g + 1 + 1] w10 [] => Drift.Tide.cell m4 hgm q
      have tn0 := fun q : Drift.Tide [g + 1, g + 1 + 1] w10 [] => Drift.Tide.cell n0 hgn q
      have tn1 := fun q : Drift.Tide [g + 1, g + 1 + 1] w10 [] => Drift.Tide.cell n1 hgn q
      have tn2 := fun q : Drift.Tide [g + 1, g + 1 + 1] w10 [] => Drift.Tide.cell n2 hgn q
      have tn3 := fun q : Drift.Tide [g + 1, g + 1 + 1] w10 [] => Drift.Tide.cell n3 hgn q
      have tn4 := fun q : Drift.Tide [g + 1, g + 1 + 1] w10 [] => Drift.Tide.cell n4 hgn q
      have hS : ∀ k, k ∈ [g + 1, g + 1 + 1] → k < w10.heap.size := fun k hk => by
        have h9 := HX5.out.b3.lt
        have : k = g + 1 ∨ k = g + 1 + 1 := by simpa using hk
        omega
      clear m0 m1 m2 m3 m4 n0 n1 n2 n3 n4 hgm hgn
      refine Drift.wp_region_drift [g + 1, g + 1 + 1] [(0,[]),(1,[]),(2,[]),(3,[]),(4,[]),(5,[]),(6,[])] [3, 4] [] (by kernel_rfl) (by kernel_rfl) hS ?_
      clear hS
      simp only [Drift.pick, Drift.opsAt, List.getElem?_toArray, List.getElem?_cons_zero, List.getElem?_cons_succ, List.cons_append, List.nil_append, List.filterMap_nil]
      repeat (refine Drift.walk_step (fun K hK => ?_); go_simp; (refine hK _ ?_; clear hK K))
      refine Drift.walk_event rfl Drift.mkwalk_nil (EvOut w10 (g + 1) #[.int .i64 0, .slice none 0 0, .slice none 0 0, .slice none 0 0, .slice (some ⟨b1, o1, none⟩) a c1]) (fun W2 hk _ => ?_) (fun v w20 hv hI _ hTd1 => ?_)
      · have hy := (HX5.out.kept hk).b3.y
        obtain ⟨s0, s1, s2, s3, s4⟩ := box5 hy
        have y0 := free5 hy 0; have y1 := free5 hy 1; have y2 := free5 hy 2; have y3 := free5 hy 3; have y4 := free5 hy 4
        have hs5 := set5_at hy (.int .i64 0) (.slice none 0 0) (.slice none 0 0) (.slice none 0 0) (.slice (some ⟨b1, o1, none⟩) a c1)
        have hi5 := into_set5 W2 (g + 1) (.int .i64 0) (.slice none 0 0) (.slice none 0 0) (.slice none 0 0) (.slice (some ⟨b1, o1, none⟩) a c1)
        unfold set5 at hs5 hi5
        have HS5 := Lib.hid hs5
        have HI4 := Lib.hid hi5
        have HI5 : Hid (Flow.Into [g + 1] w10 _) := (Flow.Into.of_below hk).trans hi5
        clear hs5 hi5 hy
        go_simp
        exact ⟨⟨rfl, HS5.out, HI5.out⟩, into_more HI4.out (by simp)⟩
      obtain ⟨rfl, hv1, hi1⟩ := hv
      have HZ : Hid (w20.heap[g + 1 + 1]? = some (.cells #[.int .i64 0, .slice none 0 0, .slice none 0 0, .slice none 0 0, .slice none 0 0] 31)) := (hi1.block (g + 1 + 1) HX5.out.b3.lt (by simp)).trans HX5.out.b3.z
      clear hI
      refine Drift.walk_event rfl Drift.mkwalk_nil (EvOut w20 (g + 1 + 1) #[.int .i64 0, .slice none 0 0, .slice none 0 0, .slice none 0 0, .slice (some ⟨b2, o2, none⟩) (k - a) c2]) (fun W2 hk _ => ?_) (fun v w21 hv hI _ hTd2 => ?_)
      · have hy := kept3 HZ.out hk
        obtain ⟨s0, s1, s2, s3, s4⟩ := box5 hy
        have y0 := free5 hy 0; have y1 := free5 hy 1; have y2 := free5 hy 2; have y3 := free5 hy 3; have y4 := free5 hy 4
        have hs5 := set5_at hy (.int .i64 0) (.slice none 0 0) (.slice none 0 0) (.slice none 0 0) (.slice (some ⟨b2, o2, none⟩) (k - a) c2)
        have hi5 := into_set5 W2 (g + 1 + 1) (.int .i64 0) (.slice none 0 0) (.slice none 0 0) (.slice none 0 0) (.slice (some ⟨b2, o2, none⟩) (k - a) c2)
        unfold set5 at hs5 hi5
        have HS5 := Lib.hid hs5
        have HI4 := Lib.hid hi5
        have HI5 : Hid (Flow.Into [g + 1 + 1] w20 _) := (Flow.Into.of_below hk).trans hi5
        clear hs5 hi5 hy
        go_simp
        exact ⟨⟨rfl, HS5.out, HI5.out⟩, into_more HI4.out (by simp)⟩
      obtain ⟨rfl, hv2, hi2⟩ := hv
      clear hI HZ
      repeat (refine Drift.walk_step (fun K hK => ?_); go_simp; (refine hK _ ?_; clear hK K))
      refine Drift.walk_nil ?_
      intro w22 hb22 _
      have HI : Hid (Flow.Into [g + 1, g + 1 + 1] w10 w22) := ((into_more hi1 (by simp)).trans (into_more hi2 (by simp))).trans (Flow.Into.of_below hb22)
      have hy1 := (hi2.block (g + 1) (Array.getElem?_eq_some_iff.1 hv1).1 (by simp)).trans hv1
      obtain ⟨s0, s1, s2, s3, s4⟩ := box5 (kept3 hy1 hb22)
      obtain ⟨u0, u1, u2, u3, u4⟩ := box5 (kept3 hv2 hb22)
      have HBW : Hid (Below W.heap.size W w22) := below_into HX5.out.b3.below HI.out (fun k hk => by
        have h9 := HX5.out.b3.at_
        have : k = g + 1 ∨ k = g + 1 + 1 := by simpa using hk
        omega) HX5.out.b3.below.size
      replace HV1 := Lib.hid (vk_pair HV1.out HI.out (by have := HX5.out.la; have := HGA.out; omega) (by have := HX5.out.la; have := HGA.out; omega))
      replace HV2 := Lib.hid (vk_pair HV2.out HI.out (by have := HX5.out.la; have := HGA.out; omega) (by have := HX5.out.la; have := HGA.out; omega))
      clear hTd1 hTd2 hv1 hv2 hi1 hi2 hy1 hb22 tm0 tm1 tm2 tm3 tm4 tn0 tn1 tn2 tn3 tn4
      simp only [List.length_cons, List.length_nil, List.drop_succ_cons, List.drop_zero, Nat.zero_add, Nat.reduceAdd]
      go_wp2_with fail
      refine bodyPost_ret (v := .tuple #[.agg #[.int .i64 0, .slice none 0 0, .slice none 0 0, .slice none 0 0, .slice (some ⟨b1, o1, none⟩) a c1], .agg #[.int .i64 0, .slice none 0 0, .slice none 0 0, .slice none 0 0, .slice (some ⟨b2, o2, none⟩) (k - a) c2], .string pv, .bool true]) (by simp [results, Try.results11, go_sem, s0, s1, s2, s3, s4, u0, u1, u2, u3, u4]) rfl ⟨⟨_, rfl, ⟨none, 0, none, 0, none, 0, some ⟨b1, o1, none⟩, c1⟩, ⟨none, 0, none, 0, none, 0, some ⟨b2, o2, none⟩, c2⟩, ?_, ⟨RC.nil _ _ _, RC.nil _ _ _, RC.nil _ _ _, HV1.out.rc⟩, ⟨RC.nil _ _ _, RC.nil _ _ _, RC.nil _ _ _, HV2.out.rc⟩⟩, HBW.out⟩
      simp only [ndCs, HLA.out, HLB.out, List.length_nil]
end No
end Go.Proofs.Ytohnllclkpflaaa
