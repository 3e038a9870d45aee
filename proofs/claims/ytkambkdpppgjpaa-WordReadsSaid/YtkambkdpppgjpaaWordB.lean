/-
  WordReads, walked.
-/
import Derived.Test.YtkambkdpppgjpaaWordAwake
import Derived.Test.YtkambkdpppgjpaaWordRef2
namespace Go.Proofs.Ytkambkdpppgjpaa
open Go.RowKit
namespace Wd
open Mem

/-- a slice of calls -/
def ActL (w : World) (p : Option Addr) (l : List (Int × Int × Int)) : Prop :=
  0 < l.length → ∃ b o, p = some ⟨b, o, none⟩ ∧ ∀ i (h : i < l.length), w.cell? ⟨b, o + i * 3, none⟩ = some (.int .i64 l[i].1) ∧ w.cell? ⟨b, o + i * 3 + 1, none⟩ = some (.int .i64 l[i].2.1) ∧ w.cell? ⟨b, o + i * 3 + 2, none⟩ = some (.int .i64 l[i].2.2)
theorem ActL.below {w w' : World} {p : Option Addr} {l : List (Int × Int × Int)} (h : ActL w p l) (hb : Below w.heap.size w w') : ActL w' p l := fun hl => by
  obtain ⟨b, o, e, hc⟩ := h hl
  exact ⟨b, o, e, fun i hi => ⟨cell_after hb (hc i hi).1, cell_after hb (hc i hi).2.1, cell_after hb (hc i hi).2.2⟩⟩
theorem ActL.at_ {w : World} {p : Option Addr} {l : List (Int × Int × Int)} (h : ActL w p l) {i : Nat} (hi : i < l.length) : ∃ b o, p = some ⟨b, o, none⟩ ∧ b < w.heap.size ∧ w.cell? ⟨b, o + i * 3, none⟩ = some (.int .i64 l[i].1) ∧ w.cell? ⟨b, o + i * 3 + 1, none⟩ = some (.int .i64 l[i].2.1) ∧ w.cell? ⟨b, o + i * 3 + 2, none⟩ = some (.int .i64 l[i].2.2) := by
  obtain ⟨b, o, e, hc⟩ := h (by omega)
  exact ⟨b, o, e, Flow.lt_of_cell (hc i hi).1, hc i hi⟩

/-- the document's reader as a variable: block h (T: its type) -/
def Rv (w : World) (h : Nat) (s : St) : Prop := ∃ A c, w.heap[h]? = some (.cells #[.slice A s.b.length c, .int .i64 s.e] 34 (0, 0)) ∧ RV w (.agg #[.slice A s.b.length c, .int .i64 s.e]) s
theorem Rv.lt {w : World} {h : Nat} {s : St} (hr : Rv w h s) : h < w.heap.size := by obtain ⟨_, _, h1, _⟩ := hr; exact (Array.getElem?_eq_some_iff.1 h1).1

theorem rd_block {w : World} {g : Nat} {s : St} (h : Rd 61 w g s) : ∃ A c, w.heap[g]? = some (.cells #[.slice A s.b.length c, .int .i64 s.e] 61 (0, 0)) := by
  obtain ⟨A, c, h1, _⟩ := h; exact ⟨A, c, h1⟩
/-- bytes lie in no reader -/
theorem off_of {w : World} {g : Nat} {s : St} {p : Option Addr} {l : List UInt8} (h : Rd 61 w g s) (hb : BL w p l) : Off w g p l := by
  obtain ⟨A, c, h1⟩ := rd_block h
  exact ⟨hb, bl_ne hb h1⟩
theorem rv_only {w w' : World} {g h : Nat} {s s0 : St} (hr : Rv w h s) (hd : Rd 61 w g s0) (hne : h ≠ g) (ho : Only g w w') : Rv w' h s := by
  have hlt := hr.lt
  obtain ⟨A, c, h1, A', c', e, hb, h3⟩ := hr
  obtain ⟨rfl, rfl⟩ : A = A' ∧ c = c' := by simpa using e
  exact ⟨A, c, (ho.block h hlt (by simpa using hne)).trans h1, A, c, rfl, ((off_of hd hb).only ho).1, h3⟩
theorem rv_below {w w' : World} {h : Nat} {s : St} (hr : Rv w h s) (hb : Below w.heap.size w w') : Rv w' h s := by
  have hlt := hr.lt
  obtain ⟨A, c, h1, h2⟩ := hr
  exact ⟨A, c, (hb.block h hlt).trans h1, h2.keep hb⟩
/-- a reader's variable written -/
theorem rv_set {w : World} {h : Nat} {A0 : Option Addr} {n0 c0 : Nat} {e0 : Int} {T : TypeId} (h1 : w.heap[h]? = some (.cells #[.slice A0 n0 c0, .int .i64 e0] 34 (0, 0))) {A : Option Addr} {c : Nat} {s : St} (hv : RV w (.agg #[.slice A s.b.length c, .int .i64 s.e]) s) (_ : T = T) :
    Rv ((w.setCell ⟨h, 0, none⟩ (.slice A s.b.length c)).setCell ⟨h, 1, none⟩ (.int .i64 s.e)) h s := by
  obtain ⟨c1, c2, _, _⟩ := cells2 h1
  exact ⟨A, c, set2 h1, hv.set2 c1 c2 _ _⟩
theorem rd_set {w : World} {g h : Nat} {s : St} (hd : Rd 61 w g s) (hne : h ≠ g) {A0 : Option Addr} {n0 c0 : Nat} {e0 : Int} {T : TypeId} (h1 : w.heap[h]? = some (.cells #[.slice A0 n0 c0, .int .i64 e0] T (0, 0))) (x y : Value) :
    Rd 61 ((w.setCell ⟨h, 0, none⟩ x).setCell ⟨h, 1, none⟩ y) g s := by
  obtain ⟨A, c, hg, ho, h3⟩ := hd
  obtain ⟨c1, c2, _, _⟩ := cells2 h1
  refine ⟨A, c, ?_, ⟨bl_set2 ho.1 c1 c2 _ _, ho.2⟩, h3⟩
  rw [Below.heap_setCell _ _ _ _ (show g ≠ h from fun e => hne e.symm), Below.heap_setCell _ _ _ _ (show g ≠ h from fun e => hne e.symm)]; exact hg
theorem set2_block {w : World} {h k : Nat} (hne : k ≠ h) (x y : Value) : ((w.setCell ⟨h, 0, none⟩ x).setCell ⟨h, 1, none⟩ y).heap[k]? = w.heap[k]? := by
  rw [Below.heap_setCell _ _ _ _ (show k ≠ h from hne), Below.heap_setCell _ _ _ _ (show k ≠ h from hne)]
theorem size_set2 {w : World} {h : Nat} (x y : Value) : ((w.setCell ⟨h, 0, none⟩ x).setCell ⟨h, 1, none⟩ y).heap.size = w.heap.size := by simp [World.setCell]

def EvRaw (s : St) (t : List UInt8) (u : Value) (W : World) : Prop := ∃ (v : Value) (A : Option Addr) (c : Nat), u = .tuple #[v, .slice A t.length c] ∧ RV W v s ∧ BL W A t
def EvTold (g : Nat) (s : St) (t : List UInt8) (u : Value) (W : World) : Prop := ∃ (A : Option Addr) (c : Nat), u = .slice A t.length c ∧ Off W g A t ∧ Rd 61 W g s

set_option maxRecDepth 100000 in
set_option maxHeartbeats 8000000 in
theorem WordReads_walk (p : Option Addr) (c : Nat) (l : List UInt8) (q : Option Addr) (d : Nat) (ac : List (Int × Int × Int)) (w : World) (h : BL w p l) (_ : l.length ≤ c) (hm : l.length ≤ maxLen) (ha : ActL w q ac) (hda : ac.length ≤ maxLen) :
    Calls Try.prog 4 #[.slice p l.length c, .slice q ac.length d] w fun e w' => e = .returned (.bool true) ∧ Below w.heap.size w w' := by
  have cA := fun w => Lib.hid (awake_any w)
  unfold maxLen at hm hda
  by_cases h2 : 3000 < l.length
  · obtain ⟨n, hn⟩ : ∃ n, n = l.length := ⟨_, rfl⟩
    rw [← hn] at hm h2 ⊢
    clear hn ha hda
    go_enter Try.func4, Try.ntmps4
    go_wp2_with (go_at_call 8; refine (cA _).out.mono ?_; rintro e w' ⟨rfl, hb⟩; have HB := Lib.hid hb; clear hb)
    go_ret
    exact ⟨rfl, HB.out⟩
  · have cO := Lib.hid (Open_any p c l w h (by omega))
    obtain ⟨n, hn⟩ : ∃ n, n = l.length := ⟨_, rfl⟩
    obtain ⟨N, hN⟩ : ∃ N, N = ac.length := ⟨_, rfl⟩
    rw [← hn] at hm h2 cO ⊢
    rw [← hN] at hda ⊢
    have HN := Lib.hid hn
    have HNN := Lib.hid hN
    have HBL := Lib.hid h
    have HAL := Lib.hid ha
    clear hn hN h ha hm
    go_enter Try.func4, Try.ntmps4
    go_wp2_with (first
      | (go_at_call 13; refine cO.out.mono ?_; rintro e w1 ⟨g, rfl, hr, hg, hb⟩; have HR := Lib.hid hr; have HG := Lib.hid hg; have HB1 := Lib.hid hb; clear hr hg hb)
      | (at_builtin; refine wpList_append_bytes rfl (.tmp 23) (.tmp 24) _ rfl w1.heap.size 5 Try.underlying22 u8info (.slice (some ⟨w1.heap.size, 0, none⟩) 0 0) [] rfl (Own.lit 5 w1 w1.heap.size [] (Nat.le_refl _) (by unfold maxLen; simp)) p n c l rfl HN.out.symm ((HBL.out.below HB1.out).alloc _) (by simp; omega) (by simp) ?_; intro v2 w2 hown hgr _; obtain ⟨A2, c2, rfl, hbl2, hlc2⟩ := hown.out.slice; have HBL2 : Hid (BL w2 A2 l) := hbl2; have HLC : Hid (l.length ≤ c2) := hlc2; have HB2 : Hid (Below w1.heap.size w1 w2) := ((Below.refl _ _).alloc (Nat.le_refl _) _).grown hgr (by simp) (fun k hk => (by have hk' : w1.heap.size = k := (by simpa [Value.ownBlock] using hk); omega)); clear hown hgr hbl2 hlc2))
    obtain ⟨h, hh⟩ : ∃ h, h = w2.heap.size := ⟨_, rfl⟩
    rw [← hh]
    have hw2 : Below w1.heap.size w1 (w2.alloc (.cells #[.slice A2 l.length c2, .int .i64 0] 34)) := HB2.out.alloc HB2.out.size _
    have HRX : Hid (∃ s, Rd 61 (w2.alloc (.cells #[.slice A2 l.length c2, .int .i64 0] 34)) g s ∧ Rv (w2.alloc (.cells #[.slice A2 l.length c2, .int .i64 0] 34)) h s) := by
      refine ⟨⟨l, 0⟩, HR.out.keep hw2, A2, c2, ?_, A2, c2, rfl, HBL2.out.alloc _, HLC.out, ?_, fun e => absurd rfl e⟩
      · rw [hh]; exact heap_alloc_new w2 _
      · have := HN.out; show l.length ≤ _; omega
    have HWX : Hid (Below w.heap.size w (w2.alloc (.cells #[.slice A2 l.length c2, .int .i64 0] 34))) := below_trans' HB1.out hw2
    have HGH : Hid (h ≠ g) := by
      have h1 := HR.out.lt
      have h2 := HB2.out.size
      unfold Hid; omega
    have HHW : Hid (w.heap.size ≤ h) := by
      have h1 := HB1.out.size
      have h2 := HB2.out.size
      unfold Hid; omega
    clear hh hw2 HB2 HBL2 HLC HB1 HR cO
    generalize w2.alloc (.cells #[.slice A2 l.length c2, .int .i64 0] 34) = X at HRX HWX ⊢
    go_loopw [7] (fun i wr => ∃ k : Nat, k ≤ N ∧ i = .int .i64 k ∧ Hid (∃ s, Rd 61 wr g s ∧ Rv wr h s) ∧ Hid (Below w.heap.size w wr)) (fun i _ => N - (intOf i).toNat)
    case atStart => exact ⟨0, Nat.zero_le _, rfl, HRX, HWX⟩
    case round =>
      obtain ⟨k, hk, rfl, HS, HW⟩ := hrel
      by_cases hlt : k < N ∧ k < 60
      · obtain ⟨k1, k2⟩ := hlt
        obtain ⟨b, o, rfl, hbl, hc0, hc1, hc2⟩ := HAL.out.at_ (show k < ac.length by rw [← HNN.out]; exact k1)
        have HC0 := Lib.hid hc0
        have HC1 := Lib.hid hc1
        have HC2 := Lib.hid hc2
        have HBG : Hid (b ≠ g) := by have := HG.out; unfold Hid; omega
        obtain ⟨kd, hkd⟩ : ∃ kd, kd = (ac[k]'(by rw [← HNN.out]; exact k1)).1 := ⟨_, rfl⟩
        obtain ⟨x, hx⟩ : ∃ x, x = (ac[k]'(by rw [← HNN.out]; exact k1)).2.1 := ⟨_, rfl⟩
        obtain ⟨y, hy⟩ : ∃ y, y = (ac[k]'(by rw [← HNN.out]; exact k1)).2.2 := ⟨_, rfl⟩
        rw [← hkd] at HC0
        rw [← hx] at HC1
        rw [← hy] at HC2
        clear hkd hx hy hc0 hc1 hc2
        have d0 := cell_after HW.out HC0.out
        obtain ⟨s, hs⟩ := HS.out
        have HRD := Lib.hid hs.1
        have HRV := Lib.hid hs.2
        clear hs
        by_cases kd0 : kd = 0
        · subst kd0
          go_wp2_with fail
          obtain ⟨A, c3, hblk, hrv⟩ := HRV.out
          obtain ⟨c0, c1, _, _⟩ := cells2 hblk
          have q0 := fun q => Flow.cell_but (S := []) c0 (by simp) q
          have q1 := fun q => Flow.cell_but (S := []) c1 (by simp) q
          have q2 := fun q => Flow.cell_but (S := []) (cell_after HW.out HC1.out) (by simp) q
          have HBK := Lib.hid hblk
          have cN := fun W hW => Lib.hid (RNum_any _ s x W (hrv.keep hW))
          clear hblk hrv c0 c1 d0
          refine Flow.wp_region_flow_alloc [] 10 34 9 (.cells #[.slice none 0 0, .int .i64 0] 34) [0, 1, 2, 3, 4, 5, 6, 7, 8, 9] [6] [9] (by kernel_rfl) (by kernel_rfl) (by simp) (by kernel_rfl) (fun w => by kernel_rfl) ?_
          simp only [Flow.pick, List.getElem?_cons_zero, List.getElem?_cons_succ, List.cons_append, List.nil_append]
          repeat (refine Flow.walk_step (fun K hK => ?_); go_simp; (refine hK _ ?_; clear hK K))
          refine Flow.walk_event rfl (fun u W => ∃ v, u = .tuple #[v, .int .u64 ((numS s x).2 : Int)] ∧ RV W v (numS s x).1) (fun W hW => ?_) ?_
          · have HC := cN W hW
            clear cN q0 q1 q2
            go_simp
            exact HC.out.mono fun e w' ⟨⟨v, he, h1⟩, h2⟩ => ⟨_, he, ⟨v, rfl, h1⟩, Flow.Into.of_below h2⟩
          rintro u w3 ⟨v, rfl, hrv⟩ hI
          have HI := Lib.hid hI.below
          obtain ⟨A4, c4, rfl, _⟩ := id hrv
          have HRV4 := Lib.hid hrv
          clear hI hrv q0 q1 q2 cN
          repeat (refine Flow.walk_step (fun K hK => ?_); go_simp; (refine hK _ ?_; clear hK K))
          refine Flow.walk_clear rfl (.int .u64 ((numS s x).2 : Int)) (fun W => by go_simp) ?_
          refine Flow.walk_nil ?_
          intro b4 w4 hk4 hb4 hblk4
          obtain ⟨z0, z1, z2, z3⟩ := cells2 hblk4
          have HK4 := Lib.hid (below_trans' HI.out hk4)
          have HRV5 := Lib.hid (HRV4.out.keep hk4)
          have HB4 := Lib.hid hb4
          have HBLK4 := Lib.hid hblk4
          clear hk4 hb4 hblk4
          simp only [List.length_cons, List.length_nil, List.drop_succ_cons, List.drop_zero, List.drop_nil, Nat.zero_add, Nat.reduceAdd]
          go_wp2_with fail
          rw [Flow.Nrm_normal]
          have hlt4 : h < b4 := Nat.lt_of_lt_of_le HRV.out.lt HB4.out
          have hg4 : g < b4 := Nat.lt_of_lt_of_le HRD.out.lt HB4.out
          have y0 : ((w4.setCell ⟨b4, 0, none⟩ (.slice A4 (numS s x).1.b.length c4)).setCell ⟨b4, 1, none⟩ (.int .i64 (numS s x).1.e)).cell? ⟨b4, 0, none⟩ = some (.slice A4 (numS s x).1.b.length c4) := by simp [go_sem, z0, z1]
          have y1 : ((w4.setCell ⟨b4, 0, none⟩ (.slice A4 (numS s x).1.b.length c4)).setCell ⟨b4, 1, none⟩ (.int .i64 (numS s x).1.e)).cell? ⟨b4, 1, none⟩ = some (.int .i64 (numS s x).1.e) := by simp [go_sem, z0, z1]
          have hb1 := (set2_block (w := w4) (h := b4) (show h ≠ b4 by omega) (.slice A4 (numS s x).1.b.length c4) (.int .i64 (numS s x).1.e)).trans ((HK4.out.block _ HRV.out.lt).trans HBK.out)
          have hd1 := rd_set (HRD.out.keep HK4.out) (show b4 ≠ g by omega) HBLK4.out (.slice A4 (numS s x).1.b.length c4) (.int .i64 (numS s x).1.e)
          have hv1 := HRV5.out.set2 z0 z1 (.slice A4 (numS s x).1.b.length c4) (.int .i64 (numS s x).1.e)
          have hw1 := below_set2 (below_trans' HW.out HK4.out) (show w.heap.size ≤ b4 by have := HHW.out; omega) (.slice A4 (numS s x).1.b.length c4) (.int .i64 (numS s x).1.e)
          clear z0 z1 z2 z3 hlt4 hg4
          generalize (w4.setCell ⟨b4, 0, none⟩ (.slice A4 (numS s x).1.b.length c4)).setCell ⟨b4, 1, none⟩ (.int .i64 (numS s x).1.e) = X1 at *
          obtain ⟨z0, z1, z2, z3⟩ := cells2 hb1
          have hd2 := rd_set hd1 HGH.out hb1 (.slice A4 (numS s x).1.b.length c4) (.int .i64 (numS s x).1.e)
          have hv2 := rv_set hb1 hv1 (rfl : (0 : TypeId) = 0)
          have hw2 := below_set2 hw1 HHW.out (.slice A4 (numS s x).1.b.length c4) (.int .i64 (numS s x).1.e)
          have HRD2 := Lib.hid hd2
          have HRV2 := Lib.hid hv2
          have HW2 := Lib.hid hw2
          have n1 := cell_after hw2 HC1.out
          have n2 := cell_after hw2 HC2.out
          clear hb1 hd1 hv1 hw1 hd2 hv2 hw2
          have cR := Lib.hid (Num_any g _ x _ HRD2.out)
          go_wp2_with (go_at_call 15; refine cR.out.mono ?_; rintro e w5 ⟨rfl, hr, ho⟩; have HRD5 := Lib.hid hr; have HO5 := Lib.hid ho; clear hr ho)
          have HRD6 := HRD5
          have HRV6 := Lib.hid (rv_only HRV2.out HRD2.out HGH.out HO5.out)
          have HW6 := Lib.hid (below_only HW2.out HO5.out HG.out)
          obtain ⟨A6, c6, hblk6, hrv6⟩ := HRV6.out
          obtain ⟨r0, r1, _, _⟩ := cells2 hblk6
          have q0 := fun q => Flow.cell_but (S := []) r0 (by simp) q
          have q1 := fun q => Flow.cell_but (S := []) r1 (by simp) q
          have cL := fun q => Lib.hid (Left_any g (numS s x).1 (Flow.but [] w5 q) (HRD6.out.keep (Flow.into_but [] w5 q).below))
          have cE := fun q => Lib.hid (Err_any g (numS s x).1 (Flow.but [] w5 q) (HRD6.out.keep (Flow.into_but [] w5 q).below))
          have cN := fun q => Lib.hid (End_any g (numS s x).1 (Flow.but [] w5 q) (HRD6.out.keep (Flow.into_but [] w5 q).below))
          have cM := fun q => Lib.hid (REnd_any _ (numS s x).1 (Flow.but [] w5 q) (hrv6.keep (Flow.into_but [] w5 q).below))
          clear hblk6 hrv6 r0 r1
          refine Flow.wp_region_flow [] [0, 1, 2, 3, 4, 5, 6, 7, 8, 9, 10, 11, 12, 13, 14, 15, 16, 17, 18, 19, 20, 21, 22, 23] [] (by kernel_rfl) (by kernel_rfl) (by simp) ?_
          simp only [Flow.pick, List.getElem?_cons_zero, List.getElem?_cons_succ, List.cons_append, List.nil_append]
          repeat (refine Flow.walk_step (fun K hK => ?_); go_simp; first | (refine hK _ ?_; clear hK K) | (apply Exists.intro; refine ⟨fun q => ?_, hK _ ?_⟩; (first | (go_at_call 22; exact (cL _).out.mono fun e w' ⟨he, hw⟩ => ⟨he, by subst hw; exact Below.refl _ _⟩) | (go_at_call 23; exact (cE _).out.mono fun e w' ⟨he, hw⟩ => ⟨he, by subst hw; exact Below.refl _ _⟩) | (go_at_call 24; exact (cN _).out.mono fun e w' ⟨he, hw⟩ => ⟨he, by subst hw; exact Below.refl _ _⟩) | (go_at_call 25; exact (cM _).out)); clear hK K))
          clear q0 q1 cL cE cN cM
          refine Flow.walk_nil ?_
          intro w7 hk7
          have HK7 := Lib.hid hk7
          clear hk7
          simp only [List.length_cons, List.length_nil, List.drop_succ_cons, List.drop_zero, List.drop_nil, Nat.zero_add, Nat.reduceAdd]
          go_wp2_with fail
          exact ⟨⟨k + 1, by omega, by go_num, ⟨(numS s x).1, HRD6.out.keep HK7.out, rv_below HRV6.out HK7.out⟩, below_trans' HW6.out HK7.out⟩, by simp [intOf]; omega⟩
        by_cases kd1 : kd = 1
        · subst kd1
          clear kd0
          go_wp2_with fail
          obtain ⟨A, c3, hblk, hrv⟩ := HRV.out
          obtain ⟨c0, c1, _, _⟩ := cells2 hblk
          have q0 := fun q => Flow.cell_but (S := []) c0 (by simp) q
          have q1 := fun q => Flow.cell_but (S := []) c1 (by simp) q
          have q2 := fun q => Flow.cell_but (S := []) (cell_after HW.out HC1.out) (by simp) q
          have HBK := Lib.hid hblk
          have cN := fun W hW => Lib.hid (RRaw_any _ s x W (hrv.keep hW))
          clear hblk hrv c0 c1 d0
          refine Flow.wp_region_flow_alloc [] 10 34 11 (.cells #[.slice none 0 0, .int .i64 0] 34) [0, 1, 2, 3, 4, 5, 6, 7, 8, 9] [6] [9] (by kernel_rfl) (by kernel_rfl) (by simp) (by kernel_rfl) (fun w => by kernel_rfl) ?_
          simp only [Flow.pick, List.getElem?_cons_zero, List.getElem?_cons_succ, List.cons_append, List.nil_append]
          repeat (refine Flow.walk_step (fun K hK => ?_); go_simp; (refine hK _ ?_; clear hK K))
          refine Flow.walk_event rfl (EvRaw (takeS s x).1 (takeS s x).2) (fun W hW => ?_) ?_
          · have HC := cN W hW
            clear cN q0 q1 q2
            go_simp
            exact HC.out.mono fun e w' ⟨⟨v, A, c, he, h1, h2, _⟩, h3⟩ => ⟨_, he, ⟨v, A, c, rfl, h1, h2⟩, Flow.Into.of_below h3⟩
          rintro u w3 ⟨v, A5, c5, rfl, hrv, hbl5⟩ hI
          have HI := Lib.hid hI.below
          obtain ⟨A4, c4, rfl, _⟩ := id hrv
          have HRV4 := Lib.hid hrv
          have HBL4 := Lib.hid hbl5
          clear hI hrv q0 q1 q2 cN hbl5
          repeat (refine Flow.walk_step (fun K hK => ?_); go_simp; (refine hK _ ?_; clear hK K))
          refine Flow.walk_clear rfl (.slice A5 (takeS s x).2.length c5) (fun W => by go_simp) ?_
          refine Flow.walk_nil ?_
          intro b4 w4 hk4 hb4 hblk4
          obtain ⟨z0, z1, z2, z3⟩ := cells2 hblk4
          have HK4 := Lib.hid (below_trans' HI.out hk4)
          have HRV5 := Lib.hid (HRV4.out.keep hk4)
          have HBL5 := Lib.hid (HBL4.out.below hk4)
          have HB4 := Lib.hid hb4
          have HBLK4 := Lib.hid hblk4
          clear hk4 hb4 hblk4
          simp only [List.length_cons, List.length_nil, List.drop_succ_cons, List.drop_zero, List.drop_nil, Nat.zero_add, Nat.reduceAdd]
          go_wp2_with fail
          rw [Flow.Nrm_normal]
          have hlt4 : h < b4 := Nat.lt_of_lt_of_le HRV.out.lt HB4.out
          have hg4 : g < b4 := Nat.lt_of_lt_of_le HRD.out.lt HB4.out
          have y0 : ((w4.setCell ⟨b4, 0, none⟩ (.slice A4 (takeS s x).1.b.length c4)).setCell ⟨b4, 1, none⟩ (.int .i64 (takeS s x).1.e)).cell? ⟨b4, 0, none⟩ = some (.slice A4 (takeS s x).1.b.length c4) := by simp [go_sem, z0, z1]
          have y1 : ((w4.setCell ⟨b4, 0, none⟩ (.slice A4 (takeS s x).1.b.length c4)).setCell ⟨b4, 1, none⟩ (.int .i64 (takeS s x).1.e)).cell? ⟨b4, 1, none⟩ = some (.int .i64 (takeS s x).1.e) := by simp [go_sem, z0, z1]
          have hb1 := (set2_block (w := w4) (h := b4) (show h ≠ b4 by omega) (.slice A4 (takeS s x).1.b.length c4) (.int .i64 (takeS s x).1.e)).trans ((HK4.out.block _ HRV.out.lt).trans HBK.out)
          have hd1 := rd_set (HRD.out.keep HK4.out) (show b4 ≠ g by omega) HBLK4.out (.slice A4 (takeS s x).1.b.length c4) (.int .i64 (takeS s x).1.e)
          have hv1 := HRV5.out.set2 z0 z1 (.slice A4 (takeS s x).1.b.length c4) (.int .i64 (takeS s x).1.e)
          have hw1 := below_set2 (below_trans' HW.out HK4.out) (show w.heap.size ≤ b4 by have := HHW.out; omega) (.slice A4 (takeS s x).1.b.length c4) (.int .i64 (takeS s x).1.e)
          have hl1 := bl_set2 HBL5.out z0 z1 (.slice A4 (takeS s x).1.b.length c4) (.int .i64 (takeS s x).1.e)
          clear z0 z1 z2 z3 hlt4 hg4
          generalize (w4.setCell ⟨b4, 0, none⟩ (.slice A4 (takeS s x).1.b.length c4)).setCell ⟨b4, 1, none⟩ (.int .i64 (takeS s x).1.e) = X1 at *
          obtain ⟨z0, z1, z2, z3⟩ := cells2 hb1
          have hd2 := rd_set hd1 HGH.out hb1 (.slice A4 (takeS s x).1.b.length c4) (.int .i64 (takeS s x).1.e)
          have hv2 := rv_set hb1 hv1 (rfl : (0 : TypeId) = 0)
          have hw2 := below_set2 hw1 HHW.out (.slice A4 (takeS s x).1.b.length c4) (.int .i64 (takeS s x).1.e)
          have HBL6 := Lib.hid (bl_set2 hl1 z0 z1 (.slice A4 (takeS s x).1.b.length c4) (.int .i64 (takeS s x).1.e))
          clear hl1
          have HRD2 := Lib.hid hd2
          have HRV2 := Lib.hid hv2
          have HW2 := Lib.hid hw2
          have n1 := cell_after hw2 HC1.out
          have n2 := cell_after hw2 HC2.out
          clear hb1 hd1 hv1 hw1 hd2 hv2 hw2
          have HN1 := Lib.hid n1
          clear n1 n2
          go_wp2_with fail
          clear y0 y1 z0 z1 z2 z3
          generalize (X1.setCell ⟨h, 0, none⟩ (.slice A4 (takeS s x).1.b.length c4)).setCell ⟨h, 1, none⟩ (.int .i64 (takeS s x).1.e) = X2 at *
          have hgt := HRD2.out.lt
          have q2 := fun q => Flow.cell_but (S := [g]) HN1.out (by simpa using HBG.out) q
          have rtq := fun q => run_text (P := Try.prog) Try.underlying22 Try.underlying5 Try.underlying9 (bl_but (S := [g]) HBL6.out (fun hl a ha => by simpa using (off_of HRD2.out HBL6.out).2 hl a ha) q) c5
          have cR := fun W hW => Lib.hid (Raw_any g s x W (HRD2.out.keep hW))
          refine Flow.wp_region_flow [g] [0, 1, 2, 3, 4, 5, 8, 9, 6, 7, 10, 11] [6] (by kernel_rfl) (by kernel_rfl) (by simpa using hgt) ?_
          clear hgt
          simp only [Flow.pick, List.getElem?_cons_zero, List.getElem?_cons_succ, List.cons_append, List.nil_append]
          repeat (refine Flow.walk_step (fun K hK => ?_); go_simp; (refine hK _ ?_; clear hK K))
          refine Flow.walk_event rfl (EvTold g (takeS s x).1 (takeS s x).2) (fun W hW => ?_) ?_
          · have HC := cR W hW
            clear cR q2 rtq
            go_simp
            exact HC.out.mono fun e w' ⟨⟨A, c, he, h1, _⟩, h2, h3⟩ => ⟨_, he, ⟨A, c, rfl, h1, h2⟩, h3⟩
          rintro u w5 ⟨A8, c8, rfl, hoff, hrd⟩ hI
          have HRD5 := Lib.hid hrd
          have HO5 := Lib.hid hI
          have rt2 := fun q => run_text (P := Try.prog) Try.underlying22 Try.underlying5 Try.underlying9 (bl_but (S := [g]) hoff.1 (fun hl a ha => by simpa using hoff.2 hl a ha) q) c8
          clear hrd hI hoff cR q2 rtq
          repeat (refine Flow.walk_step (fun K hK => ?_); go_simp; (refine hK _ ?_; clear hK K))
          clear rt2
          refine Flow.walk_nil ?_
          intro w6 hk6
          have HRD6 := Lib.hid (HRD5.out.keep hk6)
          have HRV6 := Lib.hid (rv_below (rv_only HRV2.out HRD2.out HGH.out HO5.out) hk6)
          have HW6 := Lib.hid (below_trans' (below_only HW2.out HO5.out HG.out) hk6)
          clear hk6
          simp only [List.length_cons, List.length_nil, List.drop_succ_cons, List.drop_zero, List.drop_nil, Nat.zero_add, Nat.reduceAdd]
          go_wp2_with fail
          obtain ⟨A6, c6, hblk6, hrv6⟩ := HRV6.out
          obtain ⟨r0, r1, _, _⟩ := cells2 hblk6
          have q0 := fun q => Flow.cell_but (S := []) r0 (by simp) q
          have q1 := fun q => Flow.cell_but (S := []) r1 (by simp) q
          have cL := fun q => Lib.hid (Left_any g (takeS s x).1 (Flow.but [] w6 q) (HRD6.out.keep (Flow.into_but [] w6 q).below))
          have cE := fun q => Lib.hid (Err_any g (takeS s x).1 (Flow.but [] w6 q) (HRD6.out.keep (Flow.into_but [] w6 q).below))
          have cN := fun q => Lib.hid (End_any g (takeS s x).1 (Flow.but [] w6 q) (HRD6.out.keep (Flow.into_but [] w6 q).below))
          have cM := fun q => Lib.hid (REnd_any _ (takeS s x).1 (Flow.but [] w6 q) (hrv6.keep (Flow.into_but [] w6 q).below))
          clear hblk6 hrv6 r0 r1
          refine Flow.wp_region_flow [] [0, 1, 2, 3, 4, 5, 6, 7, 8, 9, 10, 11, 12, 13, 14, 15, 16, 17, 18, 19, 20, 21, 22, 23] [] (by kernel_rfl) (by kernel_rfl) (by simp) ?_
          simp only [Flow.pick, List.getElem?_cons_zero, List.getElem?_cons_succ, List.cons_append, List.nil_append]
          repeat (refine Flow.walk_step (fun K hK => ?_); go_simp; first | (refine hK _ ?_; clear hK K) | (apply Exists.intro; refine ⟨fun q => ?_, hK _ ?_⟩; (first | (go_at_call 22; exact (cL _).out.mono fun e w' ⟨he, hw⟩ => ⟨he, by subst hw; exact Below.refl _ _⟩) | (go_at_call 23; exact (cE _).out.mono fun e w' ⟨he, hw⟩ => ⟨he, by subst hw; exact Below.refl _ _⟩) | (go_at_call 24; exact (cN _).out.mono fun e w' ⟨he, hw⟩ => ⟨he, by subst hw; exact Below.refl _ _⟩) | (go_at_call 25; exact (cM _).out)); clear hK K))
          clear q0 q1 cL cE cN cM
          refine Flow.walk_nil ?_
          intro w7 hk7
          have HK7 := Lib.hid hk7
          clear hk7
          simp only [List.length_cons, List.length_nil, List.drop_succ_cons, List.drop_zero, List.drop_nil, Nat.zero_add, Nat.reduceAdd]
          go_wp2_with fail
          exact ⟨⟨k + 1, by omega, by go_num, ⟨(takeS s x).1, HRD6.out.keep HK7.out, rv_below HRV6.out HK7.out⟩, below_trans' HW6.out HK7.out⟩, by simp [intOf]; omega⟩
        by_cases kd2 : kd = 2
        · subst kd2
          clear kd0 kd1
          go_wp2_with fail
          obtain ⟨A, c3, hblk, hrv⟩ := HRV.out
          obtain ⟨c0, c1, _, _⟩ := cells2 hblk
          have q0 := fun q => Flow.cell_but (S := []) c0 (by simp) q
          have q1 := fun q => Flow.cell_but (S := []) c1 (by simp) q
          have q2 := fun q => Flow.cell_but (S := []) (cell_after HW.out HC1.out) (by simp) q
          have q3 := fun q => Flow.cell_but (S := []) (cell_after HW.out HC2.out) (by simp) q
          have HBK := Lib.hid hblk
          have cN := fun W hW => Lib.hid (RText_any _ s x y W (hrv.keep hW))
          clear hblk hrv c0 c1 d0
          refine Flow.wp_region_flow_alloc [] 15 34 13 (.cells #[.slice none 0 0, .int .i64 0] 34) [0, 1, 2, 3, 4, 5, 6, 7, 8, 9, 10, 11, 12, 13, 14] [11] [14] (by kernel_rfl) (by kernel_rfl) (by simp) (by kernel_rfl) (fun w => by kernel_rfl) ?_
          simp only [Flow.pick, List.getElem?_cons_zero, List.getElem?_cons_succ, List.cons_append, List.nil_append]
          repeat (refine Flow.walk_step (fun K hK => ?_); go_simp; (refine hK _ ?_; clear hK K))
          refine Flow.walk_event rfl (fun u W => ∃ v, u = .tuple #[v, .string (strOf (textS s x y).2)] ∧ RV W v (textS s x y).1) (fun W hW => ?_) ?_
          · have HC := cN W hW
            clear cN q0 q1 q2 q3
            go_simp
            exact HC.out.mono fun e w' ⟨⟨v, he, h1⟩, h2⟩ => ⟨_, he, ⟨v, rfl, h1⟩, Flow.Into.of_below h2⟩
          rintro u w3 ⟨v, rfl, hrv⟩ hI
          have HI := Lib.hid hI.below
          obtain ⟨A4, c4, rfl, _⟩ := id hrv
          have HRV4 := Lib.hid hrv
          clear hI hrv q0 q1 q2 q3 cN
          repeat (refine Flow.walk_step (fun K hK => ?_); go_simp; (refine hK _ ?_; clear hK K))
          refine Flow.walk_clear rfl (.string (strOf (textS s x y).2)) (fun W => by go_simp) ?_
          refine Flow.walk_nil ?_
          intro b4 w4 hk4 hb4 hblk4
          obtain ⟨z0, z1, z2, z3⟩ := cells2 hblk4
          have HK4 := Lib.hid (below_trans' HI.out hk4)
          have HRV5 := Lib.hid (HRV4.out.keep hk4)
          have HB4 := Lib.hid hb4
          have HBLK4 := Lib.hid hblk4
          clear hk4 hb4 hblk4
          simp only [List.length_cons, List.length_nil, List.drop_succ_cons, List.drop_zero, List.drop_nil, Nat.zero_add, Nat.reduceAdd]
          go_wp2_with fail
          rw [Flow.Nrm_normal]
          have hlt4 : h < b4 := Nat.lt_of_lt_of_le HRV.out.lt HB4.out
          have hg4 : g < b4 := Nat.lt_of_lt_of_le HRD.out.lt HB4.out
          have y0 : ((w4.setCell ⟨b4, 0, none⟩ (.slice A4 (textS s x y).1.b.length c4)).setCell ⟨b4, 1, none⟩ (.int .i64 (textS s x y).1.e)).cell? ⟨b4, 0, none⟩ = some (.slice A4 (textS s x y).1.b.length c4) := by simp [go_sem, z0, z1]
          have y1 : ((w4.setCell ⟨b4, 0, none⟩ (.slice A4 (textS s x y).1.b.length c4)).setCell ⟨b4, 1, none⟩ (.int .i64 (textS s x y).1.e)).cell? ⟨b4, 1, none⟩ = some (.int .i64 (textS s x y).1.e) := by simp [go_sem, z0, z1]
          have hb1 := (set2_block (w := w4) (h := b4) (show h ≠ b4 by omega) (.slice A4 (textS s x y).1.b.length c4) (.int .i64 (textS s x y).1.e)).trans ((HK4.out.block _ HRV.out.lt).trans HBK.out)
          have hd1 := rd_set (HRD.out.keep HK4.out) (show b4 ≠ g by omega) HBLK4.out (.slice A4 (textS s x y).1.b.length c4) (.int .i64 (textS s x y).1.e)
          have hv1 := HRV5.out.set2 z0 z1 (.slice A4 (textS s x y).1.b.length c4) (.int .i64 (textS s x y).1.e)
          have hw1 := below_set2 (below_trans' HW.out HK4.out) (show w.heap.size ≤ b4 by have := HHW.out; omega) (.slice A4 (textS s x y).1.b.length c4) (.int .i64 (textS s x y).1.e)
          clear z0 z1 z2 z3 hlt4 hg4
          generalize (w4.setCell ⟨b4, 0, none⟩ (.slice A4 (textS s x y).1.b.length c4)).setCell ⟨b4, 1, none⟩ (.int .i64 (textS s x y).1.e) = X1 at *
          obtain ⟨z0, z1, z2, z3⟩ := cells2 hb1
          have hd2 := rd_set hd1 HGH.out hb1 (.slice A4 (textS s x y).1.b.length c4) (.int .i64 (textS s x y).1.e)
          have hv2 := rv_set hb1 hv1 (rfl : (0 : TypeId) = 0)
          have hw2 := below_set2 hw1 HHW.out (.slice A4 (textS s x y).1.b.length c4) (.int .i64 (textS s x y).1.e)
          have HRD2 := Lib.hid hd2
          have HRV2 := Lib.hid hv2
          have HW2 := Lib.hid hw2
          have n1 := cell_after hw2 HC1.out
          have n2 := cell_after hw2 HC2.out
          clear hb1 hd1 hv1 hw1 hd2 hv2 hw2
          have HN1 := Lib.hid n1
          have HN2 := Lib.hid n2
          clear n1 n2
          go_wp2_with fail
          clear y0 y1 z0 z1 z2 z3
          generalize (X1.setCell ⟨h, 0, none⟩ (.slice A4 (textS s x y).1.b.length c4)).setCell ⟨h, 1, none⟩ (.int .i64 (textS s x y).1.e) = X2 at *
          have hgt := HRD2.out.lt
          have q2 := fun q => Flow.cell_but (S := [g]) HN1.out (by simpa using HBG.out) q
          have q3 := fun q => Flow.cell_but (S := [g]) HN2.out (by simpa using HBG.out) q
          have cR := fun W hW => Lib.hid (Text_any g s x y W (HRD2.out.keep hW))
          refine Flow.wp_region_flow [g] [0, 1, 2, 3, 4, 5, 6, 7, 8, 9, 10, 12, 11, 13, 14] [11] (by kernel_rfl) (by kernel_rfl) (by simpa using hgt) ?_
          clear hgt
          simp only [Flow.pick, List.getElem?_cons_zero, List.getElem?_cons_succ, List.cons_append, List.nil_append]
          repeat (refine Flow.walk_step (fun K hK => ?_); go_simp; (refine hK _ ?_; clear hK K))
          refine Flow.walk_event rfl (fun u W => u = .string (strOf (textS s x y).2) ∧ Rd 61 W g (textS s x y).1) (fun W hW => ?_) ?_
          · have HC := cR W hW
            clear cR q2 q3
            go_simp
            exact HC.out.mono fun e w' ⟨he, h2, h3⟩ => ⟨_, he, ⟨rfl, h2⟩, h3⟩
          rintro u w5 ⟨rfl, hrd⟩ hI
          have HRD5 := Lib.hid hrd
          have HO5 := Lib.hid hI
          clear hrd hI cR q2 q3
          repeat (refine Flow.walk_step (fun K hK => ?_); go_simp; (refine hK _ ?_; clear hK K))
          refine Flow.walk_nil ?_
          intro w6 hk6
          have HRD6 := Lib.hid (HRD5.out.keep hk6)
          have HRV6 := Lib.hid (rv_below (rv_only HRV2.out HRD2.out HGH.out HO5.out) hk6)
          have HW6 := Lib.hid (below_trans' (below_only HW2.out HO5.out HG.out) hk6)
          clear hk6
          simp only [List.length_cons, List.length_nil, List.drop_succ_cons, List.drop_zero, List.drop_nil, Nat.zero_add, Nat.reduceAdd]
          go_wp2_with fail
          obtain ⟨A6, c6, hblk6, hrv6⟩ := HRV6.out
          obtain ⟨r0, r1, _, _⟩ := cells2 hblk6
          have q0 := fun q => Flow.cell_but (S := []) r0 (by simp) q
          have q1 := fun q => Flow.cell_but (S := []) r1 (by simp) q
          have cL := fun q => Lib.hid (Left_any g (textS s x y).1 (Flow.but [] w6 q) (HRD6.out.keep (Flow.into_but [] w6 q).below))
          have cE := fun q => Lib.hid (Err_any g (textS s x y).1 (Flow.but [] w6 q) (HRD6.out.keep (Flow.into_but [] w6 q).below))
          have cN := fun q => Lib.hid (End_any g (textS s x y).1 (Flow.but [] w6 q) (HRD6.out.keep (Flow.into_but [] w6 q).below))
          have cM := fun q => Lib.hid (REnd_any _ (textS s x y).1 (Flow.but [] w6 q) (hrv6.keep (Flow.into_but [] w6 q).below))
          clear hblk6 hrv6 r0 r1
          refine Flow.wp_region_flow [] [0, 1, 2, 3, 4, 5, 6, 7, 8, 9, 10, 11, 12, 13, 14, 15, 16, 17, 18, 19, 20, 21, 22, 23] [] (by kernel_rfl) (by kernel_rfl) (by simp) ?_
          simp only [Flow.pick, List.getElem?_cons_zero, List.getElem?_cons_succ, List.cons_append, List.nil_append]
          repeat (refine Flow.walk_step (fun K hK => ?_); go_simp; first | (refine hK _ ?_; clear hK K) | (apply Exists.intro; refine ⟨fun q => ?_, hK _ ?_⟩; (first | (go_at_call 22; exact (cL _).out.mono fun e w' ⟨he, hw⟩ => ⟨he, by subst hw; exact Below.refl _ _⟩) | (go_at_call 23; exact (cE _).out.mono fun e w' ⟨he, hw⟩ => ⟨he, by subst hw; exact Below.refl _ _⟩) | (go_at_call 24; exact (cN _).out.mono fun e w' ⟨he, hw⟩ => ⟨he, by subst hw; exact Below.refl _ _⟩) | (go_at_call 25; exact (cM _).out)); clear hK K))
          clear q0 q1 cL cE cN cM
          refine Flow.walk_nil ?_
          intro w7 hk7
          have HK7 := Lib.hid hk7
          clear hk7
          simp only [List.length_cons, List.length_nil, List.drop_succ_cons, List.drop_zero, List.drop_nil, Nat.zero_add, Nat.reduceAdd]
          go_wp2_with fail
          exact ⟨⟨k + 1, by omega, by go_num, ⟨(textS s x y).1, HRD6.out.keep HK7.out, rv_below HRV6.out HK7.out⟩, below_trans' HW6.out HK7.out⟩, by simp [intOf]; omega⟩
        by_cases kd3 : kd = 3
        · subst kd3
          clear kd0 kd1 kd2
          go_wp2_with fail
          obtain ⟨A, c3, hblk, hrv⟩ := HRV.out
          obtain ⟨c0, c1, _, _⟩ := cells2 hblk
          have q0 := fun q => Flow.cell_but (S := []) c0 (by simp) q
          have q1 := fun q => Flow.cell_but (S := []) c1 (by simp) q
          have q2 := fun q => Flow.cell_but (S := []) (cell_after HW.out HC1.out) (by simp) q
          have HBK := Lib.hid hblk
          have cN := fun W hW => Lib.hid (RZeros_any _ s x W (hrv.keep hW))
          clear hblk hrv c0 c1 d0
          refine Flow.wp_region_flow [] [0, 1, 2, 3, 4, 5, 6] [6] (by kernel_rfl) (by kernel_rfl) (by simp) ?_
          simp only [Flow.pick, List.getElem?_cons_zero, List.getElem?_cons_succ, List.cons_append, List.nil_append]
          repeat (refine Flow.walk_step (fun K hK => ?_); go_simp; (refine hK _ ?_; clear hK K))
          refine Flow.walk_event rfl (fun u W => RV W u (zerosS s x)) (fun W hW => ?_) ?_
          · have HC := cN W hW
            clear cN q0 q1 q2
            go_simp
            exact HC.out.mono fun e w' ⟨v, he, h1, h2⟩ => ⟨_, he, h1, Flow.Into.of_below h2⟩
          rintro u w3 hrv hI
          have HI := Lib.hid hI.below
          obtain ⟨A4, c4, rfl, _⟩ := id hrv
          have HRV4 := Lib.hid hrv
          clear hI hrv q0 q1 q2 cN
          refine Flow.walk_nil ?_
          intro w4 hk4
          have hk5 := below_trans' HI.out hk4
          have hb1 := (hk5.block _ HRV.out.lt).trans HBK.out
          have hd1 := HRD.out.keep hk5
          have hv1 := HRV4.out.keep hk4
          have hw1 := below_trans' HW.out hk5
          obtain ⟨z0, z1, z2, z3⟩ := cells2 hb1
          have HRD2 := Lib.hid (rd_set hd1 HGH.out hb1 (.slice A4 (zerosS s x).b.length c4) (.int .i64 (zerosS s x).e))
          have HRV2 := Lib.hid (rv_set hb1 hv1 (rfl : (0 : TypeId) = 0))
          have hw2 := below_set2 hw1 HHW.out (.slice A4 (zerosS s x).b.length c4) (.int .i64 (zerosS s x).e)
          have HW2 := Lib.hid hw2
          have n1 := cell_after hw2 HC1.out
          have cR := Lib.hid (Zeros_any g s x _ HRD2.out)
          clear hk4 hk5 hb1 hd1 hv1 hw1 hw2
          simp only [List.length_cons, List.length_nil, List.drop_succ_cons, List.drop_zero, List.drop_nil, Nat.zero_add, Nat.reduceAdd]
          go_wp2_with (go_at_call 21; refine cR.out.mono ?_; rintro e w5 ⟨rfl, hr, ho⟩; have HRD5 := Lib.hid hr; have HO5 := Lib.hid ho; clear hr ho)
          have HRD6 := HRD5
          have HRV6 := Lib.hid (rv_only HRV2.out HRD2.out HGH.out HO5.out)
          have HW6 := Lib.hid (below_only HW2.out HO5.out HG.out)
          obtain ⟨A6, c6, hblk6, hrv6⟩ := HRV6.out
          obtain ⟨r0, r1, _, _⟩ := cells2 hblk6
          have q0 := fun q => Flow.cell_but (S := []) r0 (by simp) q
          have q1 := fun q => Flow.cell_but (S := []) r1 (by simp) q
          have cL := fun q => Lib.hid (Left_any g (zerosS s x) (Flow.but [] w5 q) (HRD6.out.keep (Flow.into_but [] w5 q).below))
          have cE := fun q => Lib.hid (Err_any g (zerosS s x) (Flow.but [] w5 q) (HRD6.out.keep (Flow.into_but [] w5 q).below))
          have cN := fun q => Lib.hid (End_any g (zerosS s x) (Flow.but [] w5 q) (HRD6.out.keep (Flow.into_but [] w5 q).below))
          have cM := fun q => Lib.hid (REnd_any _ (zerosS s x) (Flow.but [] w5 q) (hrv6.keep (Flow.into_but [] w5 q).below))
          clear hblk6 hrv6 r0 r1
          refine Flow.wp_region_flow [] [0, 1, 2, 3, 4, 5, 6, 7, 8, 9, 10, 11, 12, 13, 14, 15, 16, 17, 18, 19, 20, 21, 22, 23] [] (by kernel_rfl) (by kernel_rfl) (by simp) ?_
          simp only [Flow.pick, List.getElem?_cons_zero, List.getElem?_cons_succ, List.cons_append, List.nil_append]
          repeat (refine Flow.walk_step (fun K hK => ?_); go_simp; first | (refine hK _ ?_; clear hK K) | (apply Exists.intro; refine ⟨fun q => ?_, hK _ ?_⟩; (first | (go_at_call 22; exact (cL _).out.mono fun e w' ⟨he, hw⟩ => ⟨he, by subst hw; exact Below.refl _ _⟩) | (go_at_call 23; exact (cE _).out.mono fun e w' ⟨he, hw⟩ => ⟨he, by subst hw; exact Below.refl _ _⟩) | (go_at_call 24; exact (cN _).out.mono fun e w' ⟨he, hw⟩ => ⟨he, by subst hw; exact Below.refl _ _⟩) | (go_at_call 25; exact (cM _).out)); clear hK K))
          clear q0 q1 cL cE cN cM
          refine Flow.walk_nil ?_
          intro w7 hk7
          have HK7 := Lib.hid hk7
          clear hk7
          simp only [List.length_cons, List.length_nil, List.drop_succ_cons, List.drop_zero, List.drop_nil, Nat.zero_add, Nat.reduceAdd]
          go_wp2_with fail
          exact ⟨⟨k + 1, by omega, by go_num, ⟨(zerosS s x), HRD6.out.keep HK7.out, rv_below HRV6.out HK7.out⟩, below_trans' HW6.out HK7.out⟩, by simp [intOf]; omega⟩
        · skip
          have e0 : (kd == 0) = false := by simpa using kd0
          have e1 : (kd == 1) = false := by simpa using kd1
          have e2 : (kd == 2) = false := by simpa using kd2
          have e3 : (kd == 3) = false := by simpa using kd3
          clear kd0 kd1 kd2 kd3
          go_wp2_with fail
          have HRD6 := HRD
          have HRV6 := HRV
          have HW6 := HW
          obtain ⟨A6, c6, hblk6, hrv6⟩ := HRV6.out
          obtain ⟨r0, r1, _, _⟩ := cells2 hblk6
          have q0 := fun q => Flow.cell_but (S := []) r0 (by simp) q
          have q1 := fun q => Flow.cell_but (S := []) r1 (by simp) q
          have cL := fun q => Lib.hid (Left_any g s (Flow.but [] wr q) (HRD6.out.keep (Flow.into_but [] wr q).below))
          have cE := fun q => Lib.hid (Err_any g s (Flow.but [] wr q) (HRD6.out.keep (Flow.into_but [] wr q).below))
          have cN := fun q => Lib.hid (End_any g s (Flow.but [] wr q) (HRD6.out.keep (Flow.into_but [] wr q).below))
          have cM := fun q => Lib.hid (REnd_any _ s (Flow.but [] wr q) (hrv6.keep (Flow.into_but [] wr q).below))
          clear hblk6 hrv6 r0 r1
          refine Flow.wp_region_flow [] [0, 1, 2, 3, 4, 5, 6, 7, 8, 9, 10, 11, 12, 13, 14, 15, 16, 17, 18, 19, 20, 21, 22, 23] [] (by kernel_rfl) (by kernel_rfl) (by simp) ?_
          simp only [Flow.pick, List.getElem?_cons_zero, List.getElem?_cons_succ, List.cons_append, List.nil_append]
          repeat (refine Flow.walk_step (fun K hK => ?_); go_simp; first | (refine hK _ ?_; clear hK K) | (apply Exists.intro; refine ⟨fun q => ?_, hK _ ?_⟩; (first | (go_at_call 22; exact (cL _).out.mono fun e w' ⟨he, hw⟩ => ⟨he, by subst hw; exact Below.refl _ _⟩) | (go_at_call 23; exact (cE _).out.mono fun e w' ⟨he, hw⟩ => ⟨he, by subst hw; exact Below.refl _ _⟩) | (go_at_call 24; exact (cN _).out.mono fun e w' ⟨he, hw⟩ => ⟨he, by subst hw; exact Below.refl _ _⟩) | (go_at_call 25; exact (cM _).out)); clear hK K))
          clear q0 q1 cL cE cN cM
          refine Flow.walk_nil ?_
          intro w7 hk7
          have HK7 := Lib.hid hk7
          clear hk7
          simp only [List.length_cons, List.length_nil, List.drop_succ_cons, List.drop_zero, List.drop_nil, Nat.zero_add, Nat.reduceAdd]
          go_wp2_with fail
          exact ⟨⟨k + 1, by omega, by go_num, ⟨s, HRD6.out.keep HK7.out, rv_below HRV6.out HK7.out⟩, below_trans' HW6.out HK7.out⟩, by simp [intOf]; omega⟩
      · rcases (show N ≤ k ∨ (k < N ∧ 60 ≤ k) by omega) with hlt1 | ⟨hlt1, hlt2⟩
        all_goals
          clear hlt
          go_wp2_with (go_at_call 8; refine (cA _).out.mono ?_; rintro e w8 ⟨rfl, hb⟩; have HB8 := Lib.hid hb; clear hb)
          go_ret
          exact ⟨rfl, below_trans' HW.out HB8.out⟩
end Wd
end Go.Proofs.Ytkambkdpppgjpaa
