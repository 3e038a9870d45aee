/-
  The document's node: Heaviest, Ahead, Key, Plain, Same.
-/
import Derived.Test.YtlcdjbleeanpbaaNodeK
import Derived.Test.YtlcdjbleeanpbaaMsgRS
import Derived.Test.YtlcdjbleeanpbaaPairRS
import Derived.Test.YtlcdjbleeanpbaaStrS
import Derived.Deep.RegionWith
namespace Go.Proofs.Ytlcdjbleeanpbaa
open Go.RowKit
namespace No
open Mem Lx Bu
open Lf (Pr PrK PL P3 PC)
open Fa (StK SL SC wayS SRise RightS)
/-- the first of so many that none has more than -/
def heavN (f : Nat → Nat) : Nat → Nat
  | 0 => 0
  | k + 1 => if f (heavN f k) < f k then k else heavN f k
theorem heavN_lt (f : Nat → Nat) : ∀ {n : Nat}, 0 < n → heavN f n < n
  | 0, h => absurd h (Nat.lt_irrefl _)
  | 1, _ => by simp [heavN]
  | n + 2, _ => by
    have := heavN_lt f (n := n + 1) (by omega)
    rw [heavN]
    split <;> omega
theorem heavN_top (f : Nat → Nat) : ∀ (n i : Nat), i < n → f i ≤ f (heavN f n)
  | 0, i, h => absurd h (Nat.not_lt_zero _)
  | n + 1, i, h => by
    rw [heavN]
    by_cases hc : f (heavN f n) < f n
    · rw [if_pos hc]
      rcases Nat.lt_or_ge i n with h1 | h1
      · have := heavN_top f n i h1
        omega
      · obtain rfl : i = n := by omega
        exact Nat.le_refl _
    · rw [if_neg hc]
      rcases Nat.lt_or_ge i n with h1 | h1
      · exact heavN_top f n i h1
      · obtain rfl : i = n := by omega
        omega
theorem heavN_first (f : Nat → Nat) : ∀ (n i : Nat), i < heavN f n → f i < f (heavN f n)
  | 0, i, h => absurd h (Nat.not_lt_zero _)
  | n + 1, i, h => by
    rw [heavN] at h ⊢
    by_cases hc : f (heavN f n) < f n
    · rw [if_pos hc] at h ⊢
      have := heavN_top f n i h
      omega
    · rw [if_neg hc] at h ⊢
      exact heavN_first f n i h
def ldN (n : Nd) (i : Nat) : Nat := loadN n.piv n.buf (i : Int)
/-- of bounded lists -/
structure Sz (n : Nd) : Prop where
  piv : ∀ p, p ∈ n.piv → p.size ≤ maxLen
  buf : ∀ m, m ∈ n.buf → m.1.size ≤ maxLen
  prs : ∀ m, m ∈ n.prs → m.1.size ≤ maxLen
  kl : n.kids.length ≤ 1000
  pl : n.piv.length ≤ 1000
  bl : n.buf.length ≤ 1000
  ql : n.prs.length ≤ 1000
set_option maxRecDepth 100000 in
set_option maxHeartbeats 4000000 in
theorem RHeaviest_any {W : World} {n : Nd} {a : At} (h : NdIn W n a) (hs : Sz n) : Calls Try.prog 20 #[.agg (ndCs n a)] W fun e w' => e = .returned (.tuple #[.int .i64 (heavN (ldN n) n.kids.length : Int), .int .i64 (if n.kids.length = 0 then 0 else (ldN n (heavN (ldN n) n.kids.length) : Int))]) ∧ Below W.heap.size W w' := by
  have cL := fun (W1 : World) (hb : Below W.heap.size W W1) (i : Nat) => Lib.hid (RLoad_any (h.kept hb) (i : Int) hs.piv (Nat.le_trans hs.pl (by decide)) (Nat.le_trans hs.bl (by decide)))
  have hf : ∀ i, loadN n.piv n.buf ((i : Nat) : Int) = ldN n i := fun i => rfl
  simp only [hf] at cL
  have hkl := hs.kl
  generalize ldN n = f at *
  clear h hs hf
  obtain ⟨lv, K, P, B, Q⟩ := n
  obtain ⟨kA, kc, pA, pc, bA, bc, qA, qc⟩ := a
  unfold ndCs at *
  simp only at *
  generalize K.length = kn at *
  generalize P.length = pn at *
  generalize B.length = bn at *
  generalize Q.length = qn at *
  generalize hr1 : heavN f kn = r1
  generalize hr2 : (if kn = 0 then (0 : Int) else (f r1 : Int)) = r2
  have HR1 := Lib.hid hr1
  have HR2 := Lib.hid hr2
  clear hr1 hr2
  go_enter Try.func20, Try.ntmps20
  go_upto_region 1 with fail
  have hx := heap_alloc_new W (.cells #[.int .i64 lv, .slice kA kn kc, .slice pA pn pc, .slice bA bn bc, .slice qA qn qc] 31)
  have hb0 : Below W.heap.size W (W.alloc (.cells #[.int .i64 lv, .slice kA kn kc, .slice pA pn pc, .slice bA bn bc, .slice qA qn qc] 31)) := (Below.refl _ _).alloc (Nat.le_refl _) _
  generalize W.alloc (.cells #[.int .i64 lv, .slice kA kn kc, .slice pA pn pc, .slice bA bn bc, .slice qA qn qc] 31) = w1 at *
  have HB1 := Lib.hid hb0
  obtain ⟨g, hg⟩ : ∃ g, g = W.heap.size := ⟨_, rfl⟩
  simp only [← hg]
  rw [← hg] at hx
  have HX1 := Lib.hid hx
  clear hx hb0 hg
  go_wp2_with fail
  go_loopg [4, 5] (kn - 1) (fun gk av iv wr => ∃ k : Nat, 1 ≤ k ∧ (k = 1 ∨ k ≤ kn) ∧ gk = kn - k ∧ iv = .int .i64 (k : Int) ∧ av = .int .i64 (heavN f k : Int) ∧ Hid (Below W.heap.size W wr) ∧ Hid (wr.heap[g]? = some (.cells #[.int .i64 lv, .slice kA kn kc, .slice pA pn pc, .slice bA bn bc, .slice qA qn qc] 31 (0, 0))))
  case atStart => exact ⟨1, Nat.le_refl _, .inl rfl, rfl, rfl, by simp [heavN], HB1, HX1⟩
  case round =>
    clear HB1 HX1
    obtain ⟨k, hk1, hkn, rfl, rfl, rfl, HB, HX⟩ := hrel
    obtain ⟨d0, d1, d2, d3, d4⟩ := box5 HX.out
    by_cases hlt : k < kn
    · have hw2 : IntKind.i64.wrap ((k : Int) + 1) = ((k + 1 : Nat) : Int) := by rw [IntKind.wrap_i64]; omega
      have HS : Hid (heavN f (k + 1) = if f (heavN f k) < f k then k else heavN f k) := rfl
      have cK := fun (W1 : World) (hb : Below W.heap.size W W1) => cL W1 hb k
      have cH := fun (W1 : World) (hb : Below W.heap.size W W1) => cL W1 hb (heavN f k)
      generalize heavN f k = hv at *
      generalize f k = fk at *
      generalize f hv = fh at *
      have z0 := fun q : Drift.Tide [] wr [] => Drift.Tide.cell d0 (by simp) q
      have z1 := fun q : Drift.Tide [] wr [] => Drift.Tide.cell d1 (by simp) q
      have z2 := fun q : Drift.Tide [] wr [] => Drift.Tide.cell d2 (by simp) q
      have z3 := fun q : Drift.Tide [] wr [] => Drift.Tide.cell d3 (by simp) q
      have z4 := fun q : Drift.Tide [] wr [] => Drift.Tide.cell d4 (by simp) q
      go_upto_region 5 with fail
      refine Drift.wp_region_drift [] [(0,[]),(1,[]),(2,[]),(3,[]),(4,[]),(5,[]),(6,[])] [] [] (by kernel_rfl) (by kernel_rfl) (by simp) ?_
      clear d0 d1 d2 d3 d4
      simp only [Drift.pick, Drift.opsAt, List.getElem?_toArray, List.getElem?_cons_zero, List.getElem?_cons_succ, List.cons_append, List.nil_append, List.filterMap_nil]
      repeat (refine Drift.walk_step (fun K hK => ?_); go_simp; first | (refine hK _ ?_; clear hK K) | (apply Exists.intro; refine ⟨fun q => ?_, hK _ ?_⟩; (first | (go_at_call_of 21 (Value.int .i64 (k : Int)); exact (cK _ (HB.out.trans (q.into.below.mono HB.out.size))).out) | (go_at_call 21; exact (cH _ (HB.out.trans (q.into.below.mono HB.out.size))).out)); clear hK K))
      refine Drift.walk_nil ?_
      intro w2 hb2 _
      have HB2 := Lib.hid (HB.out.trans (hb2.mono HB.out.size))
      have HX2 := Lib.hid (kept3 HX.out hb2)
      clear z0 z1 z2 z3 z4 hb2 cK cH HB HX
      simp only [List.length_cons, List.length_nil, List.drop_succ_cons, List.drop_nil, Nat.zero_add, Nat.reduceAdd]
      by_cases hz : fh < fk
      · have HS2 : Hid (heavN f (k + 1) = k) := by rw [HS.out, if_pos hz]; exact rfl
        clear HS
        go_wp2_with fail
        go_roundg (kn - (k + 1))
        case measure => omega
        case rel => exact ⟨k + 1, by omega, .inr hlt, rfl, by go_num, by rw [HS2.out], HB2, HX2⟩
      · have HS2 : Hid (heavN f (k + 1) = hv) := by rw [HS.out, if_neg hz]; exact rfl
        have hd : ¬ ((fh : Int) < (fk : Int)) := by omega
        clear HS
        go_wp2_with fail
        go_roundg (kn - (k + 1))
        case measure => omega
        case rel => exact ⟨k + 1, by omega, .inr hlt, rfl, by go_num, by rw [HS2.out], HB2, HX2⟩
    · rcases Nat.eq_zero_or_pos kn with rfl | h0
      · clear cL
        have hge : (0 : Int) ≤ (k : Int) := by omega
        go_wp2_with fail
        exact bodyPost_ret (v := .tuple #[.int .i64 0, .int .i64 0]) (by simp [results, Try.results20, go_sem]) rfl ⟨by rw [← HR2.out, ← HR1.out]; simp [heavN], HB.out⟩
      · have hkk : k = kn := by omega
        have cH := fun (W1 : World) (hb : Below W.heap.size W W1) => cL W1 hb (heavN f kn)
        have HH : Hid (heavN f k = heavN f kn) := by rw [hkk]; exact rfl
        have hif : Hid ((f (heavN f kn) : Int) = r2) := by
          have := HR2.out
          rw [if_neg (by omega)] at this
          rw [HR1.out]
          exact this
        rw [HH.out]
        generalize heavN f kn = hv at *
        generalize f hv = fh at *
        have hge : (kn : Int) ≤ (k : Int) := by omega
        have hn0 : ¬ ((kn : Int) = 0) := by omega
        clear hkk hlt HH cL
        go_wp2_with (go_at_call 21; refine (cH _ HB.out).out.mono ?_; rintro e w' ⟨rfl, hb⟩; replace HB := Lib.hid (HB.out.trans (hb.mono HB.out.size)); clear hb)
        exact bodyPost_ret (v := .tuple #[.int .i64 (hv : Int), .int .i64 (fh : Int)]) (by simp [results, Try.results20, go_sem]) rfl ⟨by rw [hif.out, ← HR1.out], HB.out⟩
/-- does a kid stand ahead of another one -/
def aheadN (f : Nat → Nat) (i k : Nat) : Bool := decide (f k < f i) || (decide (f i = f k) && decide (i < k))
set_option maxRecDepth 100000 in
set_option maxHeartbeats 4000000 in
theorem RAhead_any {W : World} {n : Nd} {a : At} (h : NdIn W n a) (hs : Sz n) (i k : Nat) : Calls Try.prog 22 #[.agg (ndCs n a), .int .i64 (i : Int), .int .i64 (k : Int)] W fun e w' => e = .returned (.bool (aheadN (ldN n) i k)) ∧ Below W.heap.size W w' := by
  have cL := fun (W1 : World) (hb : Below W.heap.size W W1) (i : Nat) => Lib.hid (RLoad_any (h.kept hb) (i : Int) hs.piv (Nat.le_trans hs.pl (by decide)) (Nat.le_trans hs.bl (by decide)))
  have hf : ∀ i, loadN n.piv n.buf ((i : Nat) : Int) = ldN n i := fun i => rfl
  simp only [hf] at cL
  generalize ldN n = f at *
  clear h hs hf
  obtain ⟨lv, K, P, B, Q⟩ := n
  obtain ⟨kA, kc, pA, pc, bA, bc, qA, qc⟩ := a
  unfold ndCs at *
  simp only at *
  generalize K.length = kn at *
  generalize P.length = pn at *
  generalize B.length = bn at *
  generalize Q.length = qn at *
  have cI := fun (W1 : World) (hb : Below W.heap.size W W1) => cL W1 hb i
  have cK := fun (W1 : World) (hb : Below W.heap.size W W1) => cL W1 hb k
  generalize hr : aheadN f i k = r
  have HR : Hid ((decide (f k < f i) || (decide (f i = f k) && decide (i < k))) = r) := hr
  generalize f i = fi at *
  generalize f k = fk at *
  clear cL hr
  go_enter Try.func22, Try.ntmps22
  go_upto_region 1 with fail
  have hx := heap_alloc_new W (.cells #[.int .i64 lv, .slice kA kn kc, .slice pA pn pc, .slice bA bn bc, .slice qA qn qc] 31)
  have hb0 : Below W.heap.size W (W.alloc (.cells #[.int .i64 lv, .slice kA kn kc, .slice pA pn pc, .slice bA bn bc, .slice qA qn qc] 31)) := (Below.refl _ _).alloc (Nat.le_refl _) _
  generalize W.alloc (.cells #[.int .i64 lv, .slice kA kn kc, .slice pA pn pc, .slice bA bn bc, .slice qA qn qc] 31) = w1 at *
  have HB := Lib.hid hb0
  obtain ⟨g, hg⟩ : ∃ g, g = W.heap.size := ⟨_, rfl⟩
  simp only [← hg]
  rw [← hg] at hx
  have HX := Lib.hid hx
  clear hx hb0 hg
  obtain ⟨d0, d1, d2, d3, d4⟩ := box5 HX.out
  have z0 := fun q : Drift.Tide [] w1 [] => Drift.Tide.cell d0 (by simp) q
  have z1 := fun q : Drift.Tide [] w1 [] => Drift.Tide.cell d1 (by simp) q
  have z2 := fun q : Drift.Tide [] w1 [] => Drift.Tide.cell d2 (by simp) q
  have z3 := fun q : Drift.Tide [] w1 [] => Drift.Tide.cell d3 (by simp) q
  have z4 := fun q : Drift.Tide [] w1 [] => Drift.Tide.cell d4 (by simp) q
  clear d0 d1 d2 d3 d4 HX
  refine Drift.wp_region_drift [] [(0,[]),(1,[]),(2,[]),(3,[]),(4,[]),(5,[]),(6,[]),(7,[])] [] [] (by kernel_rfl) (by kernel_rfl) (by simp) ?_
  simp only [Drift.pick, Drift.opsAt, List.getElem?_toArray, List.getElem?_cons_zero, List.getElem?_cons_succ, List.cons_append, List.nil_append, List.filterMap_nil]
  repeat (refine Drift.walk_step (fun K hK => ?_); go_simp; first | (refine hK _ ?_; clear hK K) | (apply Exists.intro; refine ⟨fun q => ?_, hK _ ?_⟩; (first | (go_at_call_of 21 (Value.int .i64 (i : Int)); exact (cI _ (HB.out.trans (q.into.below.mono HB.out.size))).out) | (go_at_call 21; exact (cK _ (HB.out.trans (q.into.below.mono HB.out.size))).out)); clear hK K))
  refine Drift.walk_nil ?_
  intro w2 hb2 _
  have HB2 := Lib.hid (HB.out.trans (hb2.mono HB.out.size))
  clear z0 z1 z2 z3 z4 hb2 cI cK HB
  simp only [List.length_cons, List.length_nil, List.drop_succ_cons, List.drop_nil, Nat.zero_add, Nat.reduceAdd]
  rcases Nat.lt_trichotomy fk fi with h1 | h1 | h1
  · have HE : Hid (r = true) := by unfold Hid; rw [← HR.out]; simp [h1]
    clear HR
    go_wp2_with fail
    go_ret
    exact ⟨by rw [HE.out]; rfl, HB2.out⟩
  · have HE : Hid (r = decide (i < k)) := by unfold Hid; rw [← HR.out]; simp [h1]
    have hd1 : ¬ ((fk : Int) < (fi : Int)) := by omega
    have hq1 : fi ≤ fk := by omega
    have hq2 : fk ≤ fi := by omega
    clear HR h1
    rcases Nat.lt_or_ge i k with h2 | h2
    · have HE2 : Hid (r = true) := by unfold Hid; rw [HE.out]; simpa using h2
      clear HE
      go_wp2_with fail
      go_ret
      exact ⟨by rw [HE2.out]; rfl, HB2.out⟩
    · have HE2 : Hid (r = false) := by unfold Hid; rw [HE.out]; simpa using h2
      have hd2 : ¬ ((i : Int) < (k : Int)) := by omega
      clear HE
      go_wp2_with fail
      go_ret
      exact ⟨by rw [HE2.out]; rfl, HB2.out⟩
  · have HE : Hid (r = false) := by
      unfold Hid
      rw [← HR.out]
      simp
      omega
    have hd1 : ¬ ((fk : Int) < (fi : Int)) := by omega
    have hd2 : ¬ ((fi : Int) = (fk : Int)) := by omega
    clear HR
    go_wp2_with fail
    go_ret
    exact ⟨by rw [HE.out]; rfl, HB2.out⟩
/-- its messages go somewhere -/
def PlainN (n : Nd) : Prop := Rise n.buf ∧ SRise n.piv ∧ n.piv.length + 1 = n.kids.length
set_option maxRecDepth 100000 in
set_option maxHeartbeats 4000000 in
theorem RPlain_any {W : World} {n : Nd} {a : At} (h : NdIn W n a) (hs : Sz n) : Calls Try.prog 16 #[.agg (ndCs n a)] W fun e w' => (∃ v : Bool, e = .returned (.bool v) ∧ (v = true ↔ PlainN n)) ∧ Below W.heap.size W w' := by
  obtain ⟨r, hr⟩ := bool_of (Rise n.buf)
  obtain ⟨s, hs2⟩ := bool_of (SRise n.piv)
  have cR : ∀ (W1 : World), Below W.heap.size W W1 → Hid (Calls Try.prog 42 #[.slice a.bA n.buf.length a.bc] W1 fun e w' => e = .returned (.bool r) ∧ Below W1.heap.size W1 w') := fun W1 hb => (Bu.RRight_any (c := a.bc) ((h.kept hb).buf.1) hs.buf (Nat.le_trans hs.bl (by decide))).mono fun e w' ⟨⟨v, he, hv⟩, hb⟩ => ⟨by rw [he, bool_one hv hr], hb⟩
  have cS : ∀ (W1 : World), Below W.heap.size W W1 → Hid (Calls Try.prog 43 #[.slice a.pA n.piv.length a.pc] W1 fun e w' => e = .returned (.bool s) ∧ Below W1.heap.size W1 w') := fun W1 hb => (Fa.RRise_any (c := a.pc) ((h.kept hb).piv.1) hs.piv (Nat.le_trans hs.pl (by decide))).mono fun e w' ⟨⟨v, he, hv⟩, hb⟩ => ⟨by rw [he, bool_one hv hs2], hb⟩
  have HP : Hid (∀ v : Bool, v = (r && s && decide (n.piv.length + 1 = n.kids.length)) → (v = true ↔ PlainN n)) := fun v hv => by
    subst hv
    unfold PlainN
    rw [Bool.and_eq_true, Bool.and_eq_true, hr, hs2, decide_eq_true_iff]
    exact and_assoc
  have hkl := hs.kl
  have hpl := hs.pl
  generalize PlainN n = PP at *
  clear h hs hr hs2
  obtain ⟨lv, K, P, B, Q⟩ := n
  obtain ⟨kA, kc, pA, pc, bA, bc, qA, qc⟩ := a
  unfold ndCs at *
  simp only at *
  generalize K.length = kn at *
  generalize P.length = pn at *
  generalize B.length = bn at *
  generalize Q.length = qn at *
  go_enter Try.func16, Try.ntmps16
  go_upto_region 1 with fail
  have hx := heap_alloc_new W (.cells #[.int .i64 lv, .slice kA kn kc, .slice pA pn pc, .slice bA bn bc, .slice qA qn qc] 31)
  have hb0 : Below W.heap.size W (W.alloc (.cells #[.int .i64 lv, .slice kA kn kc, .slice pA pn pc, .slice bA bn bc, .slice qA qn qc] 31)) := (Below.refl _ _).alloc (Nat.le_refl _) _
  generalize W.alloc (.cells #[.int .i64 lv, .slice kA kn kc, .slice pA pn pc, .slice bA bn bc, .slice qA qn qc] 31) = w1 at *
  have HB := Lib.hid hb0
  obtain ⟨g, hg⟩ : ∃ g, g = W.heap.size := ⟨_, rfl⟩
  simp only [← hg]
  rw [← hg] at hx
  have HX := Lib.hid hx
  clear hx hb0 hg
  have hw : IntKind.i64.wrap ((pn : Int) + 1) = (pn : Int) + 1 := by rw [IntKind.wrap_i64]; omega
  obtain ⟨d0, d1, d2, d3, d4⟩ := box5 HX.out
  cases r with
  | false =>
    go_wp2_with (go_at_call 42; refine (cR _ HB.out).out.mono ?_; rintro e w2 ⟨rfl, hb⟩; replace HB := Lib.hid (HB.out.trans (hb.mono HB.out.size)); clear hb)
    go_ret
    exact ⟨⟨false, rfl, HP.out false (by simp)⟩, HB.out⟩
  | true =>
    cases s with
    | false =>
      go_wp2_with (first
        | (go_at_call 42; refine (cR _ HB.out).out.mono ?_; rintro e w2 ⟨rfl, hb⟩; replace HB := Lib.hid (HB.out.trans (hb.mono HB.out.size)); replace HX := Lib.hid (kept3 HX.out hb); replace d2 := (box5 HX.out).2.2.1; replace d1 := (box5 HX.out).2.1; clear hb)
        | (go_at_call 43; refine (cS _ HB.out).out.mono ?_; rintro e w2 ⟨rfl, hb⟩; replace HB := Lib.hid (HB.out.trans (hb.mono HB.out.size)); replace HX := Lib.hid (kept3 HX.out hb); replace d2 := (box5 HX.out).2.2.1; replace d1 := (box5 HX.out).2.1; clear hb))
      go_ret
      exact ⟨⟨false, rfl, HP.out false (by simp)⟩, HB.out⟩
    | true =>
      go_wp2_with (first
        | (go_at_call 42; refine (cR _ HB.out).out.mono ?_; rintro e w2 ⟨rfl, hb⟩; replace HB := Lib.hid (HB.out.trans (hb.mono HB.out.size)); replace HX := Lib.hid (kept3 HX.out hb); replace d2 := (box5 HX.out).2.2.1; replace d1 := (box5 HX.out).2.1; clear hb)
        | (go_at_call 43; refine (cS _ HB.out).out.mono ?_; rintro e w2 ⟨rfl, hb⟩; replace HB := Lib.hid (HB.out.trans (hb.mono HB.out.size)); replace HX := Lib.hid (kept3 HX.out hb); replace d2 := (box5 HX.out).2.2.1; replace d1 := (box5 HX.out).2.1; clear hb))
      go_ret
      refine ⟨⟨((pn : Int) + 1 == (kn : Int)), rfl, HP.out _ ?_⟩, HB.out⟩
      rw [Bool.true_and, Bool.true_and, Bool.eq_iff_iff]
      simp
      omega
end No
end Go.Proofs.Ytlcdjbleeanpbaa
