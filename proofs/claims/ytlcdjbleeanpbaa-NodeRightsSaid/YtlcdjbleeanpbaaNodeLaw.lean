/-
  node's laws: awake.
-/
import Derived.Test.YtlcdjbleeanpbaaNodeCallsM
namespace Go.Proofs.Ytlcdjbleeanpbaa
open Go.RowKit
namespace No
open Mem Lx Bu Lf Fa
def exB : List Mg := [(⟨#[97]⟩, false, ⟨#[]⟩), (⟨#[98]⟩, false, ⟨#[]⟩), (⟨#[99]⟩, false, ⟨#[]⟩)]
def exN : Nd := ⟨1, [4, 7], [⟨#[98]⟩], exB, []⟩
theorem ex_fit : Fit exN := ⟨by decide, by decide, by decide, by decide, by decide +kernel, by decide +kernel, by decide +kernel⟩
theorem ex_rise : Rise exN.buf := fun i x y hx hy => by
  match i with
  | 0 => cases hx; cases hy; decide +kernel
  | 1 => cases hx; cases hy; decide +kernel
  | i + 2 => simp [exN, exB] at hy
theorem ex_plain : PlainN exN := ⟨ex_rise, fun i a b _ hb => by simp [exN] at hb, rfl⟩
theorem ex_loads : loadsN exN = [1, 2] := by decide +kernel
theorem ex_heav : heavN (ldN exN) exN.kids.length = 1 ∧ ldN exN 1 = 2 := by decide +kernel
theorem ex_rank {r : List Nat} (h : RankN exN r) : r = [1, 0] := by
  have hl := h.len
  match r, hl with
  | [x, y], _ =>
    have hx : x < 2 := h.lt (by simp)
    have hy : y < 2 := h.lt (by simp)
    have hn := h.nodup
    have ha := h.ahead
    simp only [List.nodup_cons, List.mem_singleton, List.pairwise_cons] at hn ha
    have hne : x ≠ y := hn.1
    have h2 := ha.1 y rfl
    rcases (show x = 0 ∧ y = 1 ∨ x = 1 ∧ y = 0 by omega) with ⟨rfl, rfl⟩ | ⟨rfl, rfl⟩
    · have : aheadN (ldN exN) 0 1 = false := by decide +kernel
      rw [this] at h2
      cases h2
    · rfl
/-- an answer that is a slice of ints -/
def EvInts (n : Nat) (l : List Int) (v : Value) (w : World) : Prop := ∃ A c, v = .slice A n c ∧ IL w A l
def EvRank (m : Nat) (n : Nd) (v : Value) (w : World) : Prop := ∃ (r : List Nat) (A : Option Addr) (c : Nat), v = .slice A m c ∧ RankN n r ∧ IL w A (r.map fun i : Nat => (i : Int))
def EvNode (B : Nat) (n : Nd) (v : Value) (w : World) : Prop := ∃ a, v = .agg (ndCs n a) ∧ FrNd w B n a
theorem IL.two_ {w : World} {A : Option Addr} {x y : Int} (h : IL w A [x, y]) : ∃ b o, A = some ⟨b, o, none⟩ ∧ w.cell? ⟨b, o, none⟩ = some (.int .i64 x) ∧ w.cell? ⟨b, o + 1, none⟩ = some (.int .i64 y) := by
  obtain ⟨b, o, e, h0⟩ := h.at_ (i := 0) (by simp)
  obtain ⟨b', o', e', h1⟩ := h.at_ (i := 1) (by simp)
  rw [e] at e'
  simp only [Option.some.injEq, Addr.mk.injEq] at e'
  obtain ⟨rfl, rfl, -⟩ := e'
  exact ⟨b, o, e, by simpa using h0, by simpa using h1⟩
theorem four_new (W : World) (X Y Z V : Obj) : ((((W.alloc X).alloc Y).alloc Z).alloc V).heap[W.heap.size]? = some X ∧ ((((W.alloc X).alloc Y).alloc Z).alloc V).heap[W.heap.size + 1]? = some Y ∧ ((((W.alloc X).alloc Y).alloc Z).alloc V).heap[W.heap.size + 1 + 1]? = some Z ∧ ((((W.alloc X).alloc Y).alloc Z).alloc V).heap[W.heap.size + 1 + 1 + 1]? = some V ∧ Below W.heap.size W ((((W.alloc X).alloc Y).alloc Z).alloc V) := by
  have h3 := B3.new W X Y Z
  have hb : Below (((W.alloc X).alloc Y).alloc Z).heap.size (((W.alloc X).alloc Y).alloc Z) ((((W.alloc X).alloc Y).alloc Z).alloc V) := (Below.refl _ _).alloc (Nat.le_refl _) _
  have h4 := h3.kept hb
  refine ⟨h4.x, h4.y, h4.z, ?_, h4.below⟩
  have := heap_alloc_new (((W.alloc X).alloc Y).alloc Z) V
  simpa using this
theorem rd_block {α : Type} {K : Kind α} {w : World} {g : Nat} {L : List α} {f : Nat × Nat} (h : w.heap[g]? = some (.cells (L.flatMap K.cs).toArray K.T f)) : RdK K w (some ⟨g, 0, none⟩) L := fun _ => by
  refine ⟨g, 0, rfl, (Array.getElem?_eq_some_iff.1 h).1, fun i x hx j u hu => ?_⟩
  have hj : j < K.k := by
    have := (List.getElem?_eq_some_iff.1 hu).1
    rw [K.len] at this
    exact this
  have := K.at_ hx hj
  simp only [World.cell?, h, Nat.zero_add]
  simpa [this] using hu
set_option maxRecDepth 100000 in
set_option maxHeartbeats 8000000 in
theorem awake_any (W : World) : Calls Try.prog 8 #[] W fun e w' => e = .returned (.bool true) ∧ Below W.heap.size W w' := by
  go_enter Try.func8, Try.ntmps8
  go_upto_region 2 with fail
  have h4 := four_new W (.cells #[.int .u32 4, .int .u32 7] 38) (.cells #[.string ⟨#[98]⟩] 9) (.cells #[.string ⟨#[97]⟩, .bool false, .string ⟨#[]⟩, .string ⟨#[98]⟩, .bool false, .string ⟨#[]⟩, .string ⟨#[99]⟩, .bool false, .string ⟨#[]⟩] 40) (.cells #[.int .i64 1, .slice (some ⟨W.heap.size, 0, none⟩) 2 2, .slice (some ⟨W.heap.size + 1, 0, none⟩) 1 1, .slice (some ⟨W.heap.size + 1 + 1, 0, none⟩) 3 3, .slice none 0 0] 31)
  generalize (((W.alloc (.cells #[.int .u32 4, .int .u32 7] 38)).alloc (.cells #[.string ⟨#[98]⟩] 9)).alloc (.cells #[.string ⟨#[97]⟩, .bool false, .string ⟨#[]⟩, .string ⟨#[98]⟩, .bool false, .string ⟨#[]⟩, .string ⟨#[99]⟩, .bool false, .string ⟨#[]⟩] 40)).alloc (.cells #[.int .i64 1, .slice (some ⟨W.heap.size, 0, none⟩) 2 2, .slice (some ⟨W.heap.size + 1, 0, none⟩) 1 1, .slice (some ⟨W.heap.size + 1 + 1, 0, none⟩) 3 3, .slice none 0 0] 31) = w1 at *
  obtain ⟨g, hg⟩ : ∃ g, g = W.heap.size := ⟨_, rfl⟩
  simp only [← hg] at h4 ⊢
  obtain ⟨a, ha⟩ : ∃ a : At, a = ⟨some ⟨g, 0, none⟩, 2, some ⟨g + 1, 0, none⟩, 1, some ⟨g + 1 + 1, 0, none⟩, 3, none, 0⟩ := ⟨_, rfl⟩
  have HI : Hid (NdIn w1 exN a) := by
    subst ha
    exact ⟨⟨rd_block h4.1, Nat.le_refl _⟩, ⟨rd_block h4.2.1, Nat.le_refl _⟩, ⟨rd_block h4.2.2.1, Nat.le_refl _⟩, RC.nil _ _ _⟩
  have hv : ndCs exN a = #[.int .i64 1, .slice (some ⟨g, 0, none⟩) 2 2, .slice (some ⟨g + 1, 0, none⟩) 1 1, .slice (some ⟨g + 1 + 1, 0, none⟩) 3 3, .slice none 0 0] := by
    subst ha
    rfl
  have HW : Hid (Below W.heap.size W w1) := by
    rw [← hg]
    exact h4.2.2.2.2
  have hx := h4.2.2.2.1
  obtain ⟨d0, d1, d2, d3, d4⟩ := box5 hx
  have HX := Lib.hid hx
  clear h4 hx ha
  have cL : ∀ w, Below w1.heap.size w1 w → Hid (Calls Try.prog 17 #[.agg #[.int .i64 1, .slice (some ⟨g, 0, none⟩) 2 2, .slice (some ⟨g + 1, 0, none⟩) 1 1, .slice (some ⟨g + 1 + 1, 0, none⟩) 3 3, .slice none 0 0]] w fun e w' => (∃ A c, e = .returned (.slice A 2 c) ∧ IL w' A [1, 2]) ∧ Below w.heap.size w w') := fun w hb => by
    have := Loads_any (HI.out.kept hb) ex_fit ex_plain
    rw [hv, ex_loads] at this
    exact this
  have cR : ∀ w, Below w1.heap.size w1 w → Hid (Calls Try.prog 18 #[.agg #[.int .i64 1, .slice (some ⟨g, 0, none⟩) 2 2, .slice (some ⟨g + 1, 0, none⟩) 1 1, .slice (some ⟨g + 1 + 1, 0, none⟩) 3 3, .slice none 0 0]] w fun e w' => (∃ A c, e = .returned (.slice A 2 c) ∧ IL w' A [1, 0]) ∧ Below w.heap.size w w') := fun w hb => by
    have := Rank_any (HI.out.kept hb) ex_fit ex_plain
    rw [hv] at this
    refine this.mono fun e w' ⟨⟨r, A, c, he, hr, hl⟩, hb2⟩ => ⟨⟨A, c, he, ?_⟩, hb2⟩
    rw [ex_rank hr] at hl
    exact hl
  have cH : ∀ w, Below w1.heap.size w1 w → Hid (Calls Try.prog 19 #[.agg #[.int .i64 1, .slice (some ⟨g, 0, none⟩) 2 2, .slice (some ⟨g + 1, 0, none⟩) 1 1, .slice (some ⟨g + 1 + 1, 0, none⟩) 3 3, .slice none 0 0]] w fun e w' => e = .returned (.tuple #[.int .i64 1, .int .i64 2]) ∧ Below w.heap.size w w') := fun w hb => by
    have := Heaviest_any (HI.out.kept hb) ex_fit ex_plain
    rw [hv, ex_heav.1, ex_heav.2] at this
    exact this
  have cC : ∀ w, Below w1.heap.size w1 w → Hid (Calls Try.prog 13 #[.agg #[.int .i64 1, .slice (some ⟨g, 0, none⟩) 2 2, .slice (some ⟨g + 1, 0, none⟩) 1 1, .slice (some ⟨g + 1 + 1, 0, none⟩) 3 3, .slice none 0 0]] w fun e w' => (∃ a', e = .returned (.agg (ndCs exN a')) ∧ NdIn w' exN a') ∧ Below w.heap.size w w') := fun w hb => by
    have := Clone_any (HI.out.kept hb) ex_fit
    rw [hv] at this
    exact this.mono fun e w' ⟨⟨a', he, h⟩, hb2⟩ => ⟨⟨a', he, h.in_⟩, hb2⟩
  have cS : ∀ w, Below w1.heap.size w1 w → ∀ a', NdIn w exN a' → Hid (Calls Try.prog 14 #[.agg #[.int .i64 1, .slice (some ⟨g, 0, none⟩) 2 2, .slice (some ⟨g + 1, 0, none⟩) 1 1, .slice (some ⟨g + 1 + 1, 0, none⟩) 3 3, .slice none 0 0], .agg (ndCs exN a')] w fun e w' => e = .returned (.bool true) ∧ Below w.heap.size w w') := fun w hb a' h' => by
    have := Same_any (HI.out.kept hb) h' ex_fit ex_fit
    rw [hv] at this
    exact this.mono fun e w' ⟨⟨v, he, h⟩, hb2⟩ => ⟨by rw [he, h.2 rfl], hb2⟩
  clear hv HI hg
  have z0 := fun q : Drift.Tide [] w1 [] => Drift.Tide.cell d0 (by simp) q
  have z1 := fun q : Drift.Tide [] w1 [] => Drift.Tide.cell d1 (by simp) q
  have z2 := fun q : Drift.Tide [] w1 [] => Drift.Tide.cell d2 (by simp) q
  have z3 := fun q : Drift.Tide [] w1 [] => Drift.Tide.cell d3 (by simp) q
  have z4 := fun q : Drift.Tide [] w1 [] => Drift.Tide.cell d4 (by simp) q
  clear d0 d1 d2 d3 d4
  refine Drift.wp_region_drift [] [(0,[]),(2,[]),(1,[]),(3,[]),(4,[]),(5,[])] [1, 3] [] (by kernel_rfl) (by kernel_rfl) (by simp) ?_
  simp only [Drift.pick, Drift.opsAt, List.getElem?_toArray, List.getElem?_cons_zero, List.getElem?_cons_succ, List.cons_append, List.nil_append, List.filterMap_nil]
  repeat (refine Drift.walk_step (fun K hK => ?_); go_simp; (refine hK _ ?_; clear hK K))
  refine Drift.walk_event rfl Drift.mkwalk_nil (EvInts 2 [1, 2]) (fun W2 hk _ => ?_) (fun v w5 hv hI _ hTd => ?_)
  · go_simp
    go_at_call 17
    refine (cL W2 hk).out.mono ?_
    rintro e w' ⟨⟨A1, c1, rfl, h1⟩, hb⟩
    exact ⟨_, rfl, ⟨A1, c1, rfl, h1⟩, Flow.Into.of_below hb⟩
  obtain ⟨A1, c1, rfl, h1⟩ := hv
  have HP1 := Lib.hid h1
  have HB5 : Hid (Below w1.heap.size w1 w5) := hI.below
  clear h1 hI hTd
  refine Drift.walk_event rfl Drift.mkwalk_nil (EvInts 2 [1, 0]) (fun W2 hk _ => ?_) (fun v w6 hv hI _ hTd => ?_)
  · go_simp
    go_at_call 18
    refine (cR W2 (HB5.out.trans (hk.mono HB5.out.size))).out.mono ?_
    rintro e w' ⟨⟨A1, c1, rfl, h1⟩, hb⟩
    exact ⟨_, rfl, ⟨A1, c1, rfl, h1⟩, Flow.Into.of_below hb⟩
  obtain ⟨A2, c2, rfl, h2⟩ := hv
  have HP2 := Lib.hid h2
  have HP1' := Lib.hid (HP1.out.below hI.below)
  have HB6 : Hid (Below w1.heap.size w1 w6) := HB5.out.trans (hI.below.mono HB5.out.size)
  clear h2 hI HP1 HB5
  repeat (refine Drift.walk_step (fun K hK => ?_); go_simp; (refine hK _ ?_; clear hK K))
  refine Drift.walk_nil ?_
  intro w7 hb7 _
  have HB7 : Hid (Below w1.heap.size w1 w7) := HB6.out.trans (hb7.mono HB6.out.size)
  have HP1 := Lib.hid (HP1'.out.below hb7)
  have HP2' := Lib.hid (HP2.out.below hb7)
  have HX7 := Lib.hid (kept3 HX.out HB7.out)
  clear z0 z1 z2 z3 z4 HP1' HP2 HB6 hTd hb7 cL cR
  simp only [List.length_cons, List.length_nil, List.drop_succ_cons, List.drop_nil, Nat.zero_add, Nat.reduceAdd]
  obtain ⟨d0, d1, d2, d3, d4⟩ := box5 HX7.out
  go_upto_region 4 with (go_at_call 19; refine (cH _ HB7.out).out.mono ?_; rintro e w8 ⟨rfl, hb⟩)
  have HB8 := Lib.hid (HB7.out.trans (hb.mono HB7.out.size))
  obtain ⟨b1, o1, rfl, x0, x1⟩ := IL.two_ (HP1.out.below hb)
  obtain ⟨b2, o2, rfl, y0, -⟩ := IL.two_ (HP2'.out.below hb)
  obtain ⟨d0, d1, d2, d3, d4⟩ := box5 (kept3 HX7.out hb)
  clear hb HP1 HP2' HX7 HB7 cH
  have x0' := fun q : Drift.Tide [] w8 [] => Drift.Tide.cell x0 (by simp) q
  have x1' := fun q : Drift.Tide [] w8 [] => Drift.Tide.cell x1 (by simp) q
  have y0' := fun q : Drift.Tide [] w8 [] => Drift.Tide.cell y0 (by simp) q
  have d0' := fun q : Drift.Tide [] w8 [] => Drift.Tide.cell d0 (by simp) q
  have d1' := fun q : Drift.Tide [] w8 [] => Drift.Tide.cell d1 (by simp) q
  have d2' := fun q : Drift.Tide [] w8 [] => Drift.Tide.cell d2 (by simp) q
  have d3' := fun q : Drift.Tide [] w8 [] => Drift.Tide.cell d3 (by simp) q
  have d4' := fun q : Drift.Tide [] w8 [] => Drift.Tide.cell d4 (by simp) q
  clear x0 x1 y0 d0 d1 d2 d3 d4
  refine Drift.wp_region_drift [] [(0,[]),(1,[]),(2,[]),(3,[]),(4,[]),(5,[]),(6,[]),(7,[]),(8,[]),(9,[]),(10,[]),(11,[]),(12,[]),(13,[]),(14,[]),(15,[]),(16,[]),(17,[]),(18,[]),(19,[]),(20,[]),(21,[]),(22,[]),(23,[]),(24,[]),(25,[]),(26,[]),(27,[]),(28,[]),(29,[]),(30,[]),(31,[]),(32,[]),(33,[]),(34,[]),(35,[]),(36,[]),(37,[]),(38,[]),(39,[]),(40,[])] [37] [] (by kernel_rfl) (by kernel_rfl) (by simp) ?_
  simp only [Drift.pick, Drift.opsAt, List.getElem?_toArray, List.getElem?_cons_zero, List.getElem?_cons_succ, List.cons_append, List.nil_append, List.filterMap_nil]
  repeat (refine Drift.walk_step (fun K hK => ?_); go_simp; (refine hK _ ?_; clear hK K))
  refine Drift.walk_event rfl Drift.mkwalk_nil (fun v w => ∃ a, v = .agg (ndCs exN a) ∧ NdIn w exN a) (fun W2 hk _ => ?_) (fun v w9 hv hI _ hTd => ?_)
  · go_simp
    go_at_call 13
    refine (cC W2 (HB8.out.trans (hk.mono HB8.out.size))).out.mono ?_
    rintro e w' ⟨⟨a', rfl, h1⟩, hb⟩
    exact ⟨_, rfl, ⟨a', rfl, h1⟩, Flow.Into.of_below hb⟩
  obtain ⟨a', rfl, h1⟩ := hv
  have HA := Lib.hid h1
  have HB9 : Hid (Below w1.heap.size w1 w9) := HB8.out.trans (hI.below.mono HB8.out.size)
  clear h1 hI cC
  repeat (refine Drift.walk_step (fun K hK => ?_); go_simp; first | (refine hK _ ?_; clear hK K) | (apply Exists.intro; refine ⟨fun q => ?_, hK _ ?_⟩; (go_at_call 14; exact (cS _ (HB9.out.trans (q.into.below.mono HB9.out.size)) _ (HA.out.kept q.into.below)).out); clear hK K))
  refine Drift.walk_nil ?_
  intro w10 hb10 _
  have HB10 : Hid (Below w1.heap.size w1 w10) := HB9.out.trans (hb10.mono HB9.out.size)
  clear hb10 HB9 HA HB8 cS hTd
  simp only [List.length_cons, List.length_nil, List.drop_succ_cons, List.drop_nil, Nat.zero_add, Nat.reduceAdd]
  go_wp2_with fail
  go_ret
  exact ⟨rfl, HW.out.trans (HB10.out.mono HW.out.size)⟩
end No
end Go.Proofs.Ytlcdjbleeanpbaa
