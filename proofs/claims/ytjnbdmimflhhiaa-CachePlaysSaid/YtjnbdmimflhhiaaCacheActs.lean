/-
  The calls of layer cache's laws, as they lie in memory; a call by its kind.
-/
import Derived.Test.YtjnbdmimflhhiaaCacheLaw
import Derived.Test.YtjnbdmimflhhiaaStructsW
namespace Go.Proofs.Ytjnbdmimflhhiaa
open Go.RowKit Go.WideShapes Go.ChangeShapes
namespace Ca
open Mem Dv Cn Po

/-- a slice of calls: kind, place, bytes -/
structure ActC (w : World) (b o : Nat) (x : Int × Nat × List UInt8) : Prop where
  kd : w.cell? ⟨b, o, none⟩ = some (.int .i64 x.1)
  at_ : w.cell? ⟨b, o + 1, none⟩ = some (.int .u32 (x.2.1 : Int))
  bs : ∃ A c, w.cell? ⟨b, o + 2, none⟩ = some (.slice A x.2.2.length c) ∧ BL w A x.2.2 ∧ x.2.2.length ≤ c
  lt : x.2.1 < 4294967296
  sz : x.2.2.length ≤ 140737488351232
def ActL (w : World) (p : Option Addr) (l : List (Int × Nat × List UInt8)) : Prop :=
  0 < l.length → ∃ b o, p = some ⟨b, o, none⟩ ∧ ∀ i (h : i < l.length), ActC w b (o + i * 3) l[i]
theorem ActL.at_ {w : World} {p : Option Addr} {l : List (Int × Nat × List UInt8)} (h : ActL w p l) {i : Nat} (hi : i < l.length) : ∃ b o x, p = some ⟨b, o, none⟩ ∧ ActC w b (o + i * 3) x := by
  obtain ⟨b, o, e, hc⟩ := h (by omega)
  exact ⟨b, o, _, e, hc i hi⟩
theorem cell_after {W w' : World} (hb : Below W.heap.size W w') {a : Addr} {v : Value} (h : W.cell? a = some v) : w'.cell? a = some v := (hb.cell (Flow.lt_of_cell h)).trans h
theorem ActC.kept {w w' : World} {b o : Nat} {x : Int × Nat × List UInt8} (h : ActC w b o x) (hb : Below w.heap.size w w') : ActC w' b o x := by
  obtain ⟨A, c, h1, h2, h3⟩ := h.bs
  exact ⟨cell_after hb h.kd, cell_after hb h.at_, ⟨A, c, cell_after hb h1, h2.below hb, h3⟩, h.lt, h.sz⟩

set_option maxRecDepth 100000 in
theorem open_acts {H : Type} {enc : TypeId × Value → H} {W : World} {v : Value} {d : DataW H} {p : List MemPlace} {r : Reach} {b0 : Nat} (hv : Value.okWide Try.prog W r b0 22 v) (h : DataW.Trod enc Try.prog W 0 (fun _ => true) true 22 v d p)
    (hz : ∀ n ∈ d.weights Try.prog 22, n ≤ reachBytes) :
    ∃ (A : Option Addr) (ac : List (Int × Nat × List UInt8)) (c : Nat), v = .slice A ac.length c ∧ ActL W A ac ∧ ac.length ≤ c ∧ c ≤ maxLen := by
  obtain ⟨A, len, c, rfl, hl, hm, hc⟩ := Args.open_structs_w Try.underlying22 Try.underlying44 (by kernel_rfl) (by kernel_rfl) (by decide) hv h
  by_cases h0 : 0 < len
  · obtain ⟨b, o, rfl, hcell⟩ := hc h0
    have each : ∀ i, i < len → ∃ x : Int × Nat × List UInt8, ActC W b (o + i * 3) x := by
      intro i hi
      obtain ⟨u0, y0, n0, e0, t0, _⟩ := hcell i hi 0 _ rfl
      obtain ⟨u1, y1, n1, e1, t1, _⟩ := hcell i hi 1 _ rfl
      obtain ⟨u2, y2, n2, e2, t2, k2⟩ := hcell i hi 2 _ rfl
      obtain ⟨z0, hz0, _, _⟩ := DataW.trod_int Try.underlying3 t0
      obtain rfl : u0 = _ := by simpa using hz0
      obtain ⟨z1, hz1, _, m1⟩ := DataW.trod_int Try.underlying23 t1
      obtain rfl : u1 = _ := by simpa using hz1
      obtain ⟨j1, rfl, b1⟩ := Args.nat_of_u32 m1
      obtain ⟨B, bs, cb, hz2, hb2, hl2, _, hw2⟩ := Args.bytes_of_cells Try.underlying42 Try.underlying5 (by kernel_rfl) t2
      obtain rfl : u2 = _ := by simpa using hz2
      have h3 := hw2 (by kernel_rfl) (fun n hn => hz n (k2 n hn))
      have hR : reachBytes ≤ 140737488351232 := by decide
      exact ⟨(z0, j1, bs), ⟨by simpa using e0, by rw [Nat.add_assoc]; simpa using e1, ⟨B, cb, by rw [Nat.add_assoc]; simpa using e2, hb2, hl2⟩, b1, Nat.le_trans h3 hR⟩⟩
    have each' : ∀ i, ∃ x : Int × Nat × List UInt8, i < len → ActC W b (o + i * 3) x := fun i => by
      by_cases hh : i < len
      · obtain ⟨x, hx⟩ := each i hh
        exact ⟨x, fun _ => hx⟩
      · exact ⟨(0, 0, []), fun h1 => absurd h1 hh⟩
    let F := fun i => Classical.choose (each' i)
    have hF : ∀ i, i < len → ActC W b (o + i * 3) (F i) := fun i => Classical.choose_spec (each' i)
    refine ⟨some ⟨b, o, none⟩, (List.range len).map F, c, by simp, fun _ => ⟨b, o, rfl, fun i hi => ?_⟩, by simpa using hl, hm⟩
    have hi' : i < len := by simpa using hi
    simp only [List.getElem_map, List.getElem_range]
    exact hF i hi'
  · obtain rfl : len = 0 := by omega
    exact ⟨A, [], c, rfl, fun h => absurd h (by simp), Nat.zero_le _, hm⟩


theorem Did.behind {W w w1 w' : World} {F : List Nat} {p g : Nat} {z : Int} {st' : St} {e : Ending} (hb : Below w.heap.size w w1) (h : Did W w1 w' F p g z st' e) : Did W w w' F p g z st' e := by
  obtain ⟨he, ⟨F', hc, hg⟩, hi⟩ := h
  refine ⟨he, ⟨F', hc, fun x hx => ?_⟩, (Flow.Into.of_below hb).trans hi⟩
  rcases hg x hx with h' | h'
  · exact .inl h'
  · exact .inr (Nat.le_trans hb.size h')
section
variable {W w : World} {F : List Nat} {p g : Nat} {st : St}
theorem act_box (w : World) (v0 v1 v2 : Value) : Below w.heap.size w (w.alloc (.cells #[v0, v1, v2] 44)) ∧ (w.alloc (.cells #[v0, v1, v2] 44)).cell? ⟨w.heap.size, 0, none⟩ = some v0 ∧ (w.alloc (.cells #[v0, v1, v2] 44)).cell? ⟨w.heap.size, 1, none⟩ = some v1 ∧ (w.alloc (.cells #[v0, v1, v2] 44)).cell? ⟨w.heap.size, 2, none⟩ = some v2 := by
  have h := heap_alloc_new w (.cells #[v0, v1, v2] 44)
  refine ⟨(Below.refl _ _).alloc (Nat.le_refl _) _, ?_⟩
  generalize w.alloc (.cells #[v0, v1, v2] 44) = w1 at *
  simp only [World.cell?, h]
  exact ⟨rfl, rfl, rfl⟩
set_option maxRecDepth 100000 in
theorem step_0 (h : Cl W w F p g st) (hK : Sm st 900000) (_ : st.ls.length ≤ 12) {i n c : Nat} {A : Option Addr} {y : List UInt8} (_ : i < 4294967296) (_ : BL w A y) (_ : y.length = n) :
    Calls Try.prog 11 #[.pointer (some ⟨p, 0, none⟩), .agg #[.int .i64 0, .int .u32 (i : Int), .slice A n c]] w fun e w' => Did W w w' F p g (pinT st i).1 (pinT st i).2 e := by
  obtain ⟨hb, d0, d1, d2⟩ := act_box w (.int .i64 0) (.int .u32 (i : Int)) (.slice A n c)
  have h1 := h.kept hb
  have cC := Lib.hid (LPin h1 (hK.mono (by omega)) i)
  have HB := Lib.hid hb
  clear h hK h1 hb
  generalize pinT st i = r at *
  go_enter Try.func11, Try.ntmps11
  go_wp2_with (go_at_call 33; refine cC.out.mono ?_; rintro e w2 ⟨rfl, hr⟩)
  go_ret
  exact Did.behind HB.out ⟨rfl, hr⟩
set_option maxRecDepth 100000 in
theorem step_1 (h : Cl W w F p g st) (hK : Sm st 900000) (_ : st.ls.length ≤ 12) {i n c : Nat} {A : Option Addr} {y : List UInt8} (_ : i < 4294967296) (_ : BL w A y) (_ : y.length = n) :
    Calls Try.prog 11 #[.pointer (some ⟨p, 0, none⟩), .agg #[.int .i64 1, .int .u32 (i : Int), .slice A n c]] w fun e w' => Did W w w' F p g (pinT st i).1 (pinT st i).2 e := by
  obtain ⟨hb, d0, d1, d2⟩ := act_box w (.int .i64 1) (.int .u32 (i : Int)) (.slice A n c)
  have h1 := h.kept hb
  have cC := Lib.hid (LPin h1 (hK.mono (by omega)) i)
  have HB := Lib.hid hb
  clear h hK h1 hb
  generalize pinT st i = r at *
  go_enter Try.func11, Try.ntmps11
  go_wp2_with (go_at_call 33; refine cC.out.mono ?_; rintro e w2 ⟨rfl, hr⟩)
  go_ret
  exact Did.behind HB.out ⟨rfl, hr⟩
set_option maxRecDepth 100000 in
theorem step_2 (h : Cl W w F p g st) (hK : Sm st 900000) (_ : st.ls.length ≤ 12) {i n c : Nat} {A : Option Addr} {y : List UInt8} (_ : i < 4294967296) (_ : BL w A y) (_ : y.length = n) :
    Calls Try.prog 11 #[.pointer (some ⟨p, 0, none⟩), .agg #[.int .i64 2, .int .u32 (i : Int), .slice A n c]] w fun e w' => Did W w w' F p g (freshT st i).1 (freshT st i).2 e := by
  obtain ⟨hb, d0, d1, d2⟩ := act_box w (.int .i64 2) (.int .u32 (i : Int)) (.slice A n c)
  have h1 := h.kept hb
  have cC := Lib.hid (LFresh h1 (hK.mono (by omega)) i)
  have HB := Lib.hid hb
  clear h hK h1 hb
  generalize freshT st i = r at *
  go_enter Try.func11, Try.ntmps11
  go_wp2_with (go_at_call 42; refine cC.out.mono ?_; rintro e w2 ⟨rfl, hr⟩)
  go_ret
  exact Did.behind HB.out ⟨rfl, hr⟩
set_option maxRecDepth 100000 in
theorem step_3 (h : Cl W w F p g st) (hK : Sm st 900000) (_ : st.ls.length ≤ 12) {i n c : Nat} {A : Option Addr} {y : List UInt8} (hi : i < 4294967296) (_ : BL w A y) (_ : y.length = n) :
    Calls Try.prog 11 #[.pointer (some ⟨p, 0, none⟩), .agg #[.int .i64 3, .int .u32 (i : Int), .slice A n c]] w fun e w' => Did W w w' F p g (unpinT st i).1 (unpinT st i).2 e := by
  obtain ⟨hb, d0, d1, d2⟩ := act_box w (.int .i64 3) (.int .u32 (i : Int)) (.slice A n c)
  have h1 := h.kept hb
  have cC := Lib.hid (LUnpin h1 (hK.mono (by omega)) hi)
  have HB := Lib.hid hb
  clear h hK hi h1 hb
  generalize unpinT st i = r at *
  go_enter Try.func11, Try.ntmps11
  go_wp2_with (go_at_call 35; refine cC.out.mono ?_; rintro e w2 ⟨rfl, hr⟩)
  go_ret
  exact Did.behind HB.out ⟨rfl, hr⟩
set_option maxRecDepth 100000 in
theorem step_4 (h : Cl W w F p g st) (hK : Sm st 900000) (_ : st.ls.length ≤ 12) {i n c : Nat} {A : Option Addr} {y : List UInt8} (hi : i < 4294967296) (_ : BL w A y) (_ : y.length = n) :
    Calls Try.prog 11 #[.pointer (some ⟨p, 0, none⟩), .agg #[.int .i64 4, .int .u32 (i : Int), .slice A n c]] w fun e w' => Did W w w' F p g (unpinT st i).1 (unpinT st i).2 e := by
  obtain ⟨hb, d0, d1, d2⟩ := act_box w (.int .i64 4) (.int .u32 (i : Int)) (.slice A n c)
  have h1 := h.kept hb
  have cC := Lib.hid (LUnpin h1 (hK.mono (by omega)) hi)
  have HB := Lib.hid hb
  clear h hK hi h1 hb
  generalize unpinT st i = r at *
  go_enter Try.func11, Try.ntmps11
  go_wp2_with (go_at_call 35; refine cC.out.mono ?_; rintro e w2 ⟨rfl, hr⟩)
  go_ret
  exact Did.behind HB.out ⟨rfl, hr⟩
set_option maxRecDepth 100000 in
theorem step_5 (h : Cl W w F p g st) (_ : Sm st 900000) (_ : st.ls.length ≤ 12) {i n c : Nat} {A : Option Addr} {y : List UInt8} (hi : i < 4294967296) (hB : BL w A y) (hn : y.length = n) :
    Calls Try.prog 11 #[.pointer (some ⟨p, 0, none⟩), .agg #[.int .i64 5, .int .u32 (i : Int), .slice A n c]] w fun e w' => Did W w w' F p g (writeT st i y).1 (writeT st i y).2 e := by
  obtain ⟨hb, d0, d1, d2⟩ := act_box w (.int .i64 5) (.int .u32 (i : Int)) (.slice A n c)
  have h1 := h.kept hb
  have cC := Lib.hid (LWrite (c := c) h1 hi (hB.below hb) hn)
  have HB := Lib.hid hb
  clear h hi hB hn h1 hb
  generalize writeT st i y = r at *
  go_enter Try.func11, Try.ntmps11
  go_wp2_with (go_at_call 34; refine cC.out.mono ?_; rintro e w2 ⟨rfl, hr⟩)
  go_ret
  exact Did.behind HB.out ⟨rfl, hr⟩
set_option maxRecDepth 100000 in
theorem step_6 (h : Cl W w F p g st) (_ : Sm st 900000) (_ : st.ls.length ≤ 12) {i n c : Nat} {A : Option Addr} {y : List UInt8} (hi : i < 4294967296) (hB : BL w A y) (hn : y.length = n) :
    Calls Try.prog 11 #[.pointer (some ⟨p, 0, none⟩), .agg #[.int .i64 6, .int .u32 (i : Int), .slice A n c]] w fun e w' => Did W w w' F p g (writeT st i y).1 (writeT st i y).2 e := by
  obtain ⟨hb, d0, d1, d2⟩ := act_box w (.int .i64 6) (.int .u32 (i : Int)) (.slice A n c)
  have h1 := h.kept hb
  have cC := Lib.hid (LWrite (c := c) h1 hi (hB.below hb) hn)
  have HB := Lib.hid hb
  clear h hi hB hn h1 hb
  generalize writeT st i y = r at *
  go_enter Try.func11, Try.ntmps11
  go_wp2_with (go_at_call 34; refine cC.out.mono ?_; rintro e w2 ⟨rfl, hr⟩)
  go_ret
  exact Did.behind HB.out ⟨rfl, hr⟩
set_option maxRecDepth 100000 in
theorem step_7 (h : Cl W w F p g st) (_ : Sm st 900000) (_ : st.ls.length ≤ 12) {i n c : Nat} {A : Option Addr} {y : List UInt8} (hi : i < 4294967296) (_ : BL w A y) (_ : y.length = n) :
    Calls Try.prog 11 #[.pointer (some ⟨p, 0, none⟩), .agg #[.int .i64 7, .int .u32 (i : Int), .slice A n c]] w fun e w' => Did W w w' F p g (dropT st i).1 (dropT st i).2 e := by
  obtain ⟨hb, d0, d1, d2⟩ := act_box w (.int .i64 7) (.int .u32 (i : Int)) (.slice A n c)
  have h1 := h.kept hb
  have cC := Lib.hid (LDrop h1 hi)
  have HB := Lib.hid hb
  clear h hi h1 hb
  generalize dropT st i = r at *
  go_enter Try.func11, Try.ntmps11
  go_wp2_with (go_at_call 43; refine cC.out.mono ?_; rintro e w2 ⟨rfl, hr⟩)
  go_ret
  exact Did.behind HB.out ⟨rfl, hr⟩
set_option maxRecDepth 100000 in
theorem step_8 (h : Cl W w F p g st) (hK : Sm st 900000) (hl : st.ls.length ≤ 12) {i n c : Nat} {A : Option Addr} {y : List UInt8} (_ : i < 4294967296) (_ : BL w A y) (_ : y.length = n) :
    Calls Try.prog 11 #[.pointer (some ⟨p, 0, none⟩), .agg #[.int .i64 8, .int .u32 (i : Int), .slice A n c]] w fun e w' => Did W w w' F p g ((0, flushT st)).1 ((0, flushT st)).2 e := by
  obtain ⟨hb, d0, d1, d2⟩ := act_box w (.int .i64 8) (.int .u32 (i : Int)) (.slice A n c)
  have h1 := h.kept hb
  have cC := Lib.hid (LFlush h1 hK hl)
  have HB := Lib.hid hb
  clear h hK hl h1 hb
  go_enter Try.func11, Try.ntmps11
  go_wp2_with (go_at_call 44; refine cC.out.mono ?_; rintro e w2 ⟨rfl, hr⟩)
  go_ret
  exact Did.behind HB.out ⟨rfl, hr⟩
set_option maxRecDepth 100000 in
theorem step_9 (h : Cl W w F p g st) (_ : Sm st 900000) (_ : st.ls.length ≤ 12) {i n c : Nat} {A : Option Addr} {y : List UInt8} (hi : i < 4294967296) (_ : BL w A y) (_ : y.length = n) :
    Calls Try.prog 11 #[.pointer (some ⟨p, 0, none⟩), .agg #[.int .i64 9, .int .u32 (i : Int), .slice A n c]] w fun e w' => Did W w w' F p g (((readP st i).2, st)).1 (((readP st i).2, st)).2 e := by
  obtain ⟨hb, d0, d1, d2⟩ := act_box w (.int .i64 9) (.int .u32 (i : Int)) (.slice A n c)
  have h1 := h.kept hb
  have cC := Lib.hid (CRead h1.cw hi)
  have HB := Lib.hid hb
  have H1 := Lib.hid h1
  clear h hi h1 hb
  go_enter Try.func11, Try.ntmps11
  go_wp2_with (go_at_call 12; refine cC.out.mono ?_; rintro e w2 ⟨⟨A', k', rfl, -⟩, hb2⟩)
  go_ret
  exact Did.behind HB.out ⟨rfl, ⟨F, H1.out.kept hb2, grew_refl _ F⟩, Flow.Into.of_below hb2⟩
set_option maxRecDepth 100000 in
theorem step_x (kd : Int) (hkd : ∀ n : Nat, n ≤ 9 → kd ≠ (n : Int)) (h : Cl W w F p g st) (_ : Sm st 900000) (_ : st.ls.length ≤ 12) {i n c : Nat} {A : Option Addr} {y : List UInt8} (_ : i < 4294967296) (_ : BL w A y) (_ : y.length = n) :
    Calls Try.prog 11 #[.pointer (some ⟨p, 0, none⟩), .agg #[.int .i64 kd, .int .u32 (i : Int), .slice A n c]] w fun e w' => Did W w w' F p g ((0, st)).1 ((0, st)).2 e := by
  obtain ⟨hb, d0, d1, d2⟩ := act_box w (.int .i64 kd) (.int .u32 (i : Int)) (.slice A n c)
  have h1 := h.kept hb
  have n0 : (kd == 0) = false := by have := hkd 0 (by omega); simpa using this
  have n1 : (kd == 1) = false := by have := hkd 1 (by omega); simpa using this
  have n2 : (kd == 2) = false := by have := hkd 2 (by omega); simpa using this
  have n3 : (kd == 3) = false := by have := hkd 3 (by omega); simpa using this
  have n4 : (kd == 4) = false := by have := hkd 4 (by omega); simpa using this
  have n5 : (kd == 5) = false := by have := hkd 5 (by omega); simpa using this
  have n6 : (kd == 6) = false := by have := hkd 6 (by omega); simpa using this
  have n7 : (kd == 7) = false := by have := hkd 7 (by omega); simpa using this
  have n8 : (kd == 8) = false := by have := hkd 8 (by omega); simpa using this
  have n9 : (kd == 9) = false := by have := hkd 9 (by omega); simpa using this
  have HB := Lib.hid hb
  have H1 := Lib.hid h1
  clear h h1 hkd
  go_enter Try.func11, Try.ntmps11
  go_wp2
  go_ret
  exact Did.behind HB.out ⟨rfl, ⟨F, H1.out, grew_refl _ F⟩, Flow.Into.refl _ _⟩
theorem step_any (h : Cl W w F p g st) (hK : Sm st 900000) (hl : st.ls.length ≤ 12) (kd : Int) {i n c : Nat} {A : Option Addr} {y : List UInt8} (hi : i < 4294967296) (hB : BL w A y) (hn : y.length = n) :
    Calls Try.prog 11 #[.pointer (some ⟨p, 0, none⟩), .agg #[.int .i64 kd, .int .u32 (i : Int), .slice A n c]] w fun e w' => Did W w w' F p g (stepT st kd i y).1 (stepT st kd i y).2 e := by
  unfold stepT
  by_cases h0 : kd = 0 ∨ kd = 1
  · rw [if_pos h0]
    rcases h0 with rfl | rfl
    · exact step_0 h hK hl hi hB hn
    · exact step_1 h hK hl hi hB hn
  rw [if_neg h0]
  by_cases h1 : kd = 2
  · rw [if_pos h1]
    subst h1
    exact step_2 h hK hl hi hB hn
  rw [if_neg h1]
  by_cases h2 : kd = 3 ∨ kd = 4
  · rw [if_pos h2]
    rcases h2 with rfl | rfl
    · exact step_3 h hK hl hi hB hn
    · exact step_4 h hK hl hi hB hn
  rw [if_neg h2]
  by_cases h3 : kd = 5 ∨ kd = 6
  · rw [if_pos h3]
    rcases h3 with rfl | rfl
    · exact step_5 h hK hl hi hB hn
    · exact step_6 h hK hl hi hB hn
  rw [if_neg h3]
  by_cases h4 : kd = 7
  · rw [if_pos h4]
    subst h4
    exact step_7 h hK hl hi hB hn
  rw [if_neg h4]
  by_cases h5 : kd = 8
  · rw [if_pos h5]
    subst h5
    exact step_8 h hK hl hi hB hn
  rw [if_neg h5]
  by_cases h6 : kd = 9
  · rw [if_pos h6]
    subst h6
    exact step_9 h hK hl hi hB hn
  rw [if_neg h6]
  exact step_x kd (fun n hn => by omega) h hK hl hi hB hn
end
end Ca
end Go.Proofs.Ytjnbdmimflhhiaa
