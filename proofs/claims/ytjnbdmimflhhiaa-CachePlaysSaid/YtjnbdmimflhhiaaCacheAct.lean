/-
  Contracts of layer cache, over states: place, Pins, pinned, seat, Pin, Fresh.
-/
import Derived.Test.YtjnbdmimflhhiaaCacheRoom
namespace Go.Proofs.Ytjnbdmimflhhiaa
open Go.RowKit
namespace Ca
open Mem Dv Cn

section
variable {w w' w1 w2 : World} {F F1 : List Nat} {p g : Nat} {st st1 st2 : St}
theorem Aft.fin (hi : Flow.Into F w w1) (hg : Grew w F F1) (k : Flow.Into F1 w1 w2) {q : Nat} (hq : w.heap.size ≤ q) (h : ∃ F', Cw w2 F' p g st ∧ ∀ z, z ∈ F' → z ∈ F1 ∨ z = q) : Aft w w2 F p g st := by
  obtain ⟨F', h1, h2⟩ := h
  refine ⟨⟨F', h1, fun x hx => ?_⟩, into_more hi k hg⟩
  rcases h2 x hx with h' | rfl
  · exact hg x h'
  · exact .inr hq
theorem Cplace (h : Cw w F p g st) (b : Nat) : Calls Try.prog 67 #[.pointer (some ⟨p, 0, none⟩), .int .u32 (b : Int)] w fun e w' => e = .returned (.int .i64 (if b < st.ls.length then 0 else 4)) ∧ w = w' := by
  obtain ⟨S, fb, mp, ch, cb, qk, h1, h2, h3, h4, h5, h6⟩ := h
  by_cases hb : b < st.ls.length
  · rw [if_pos hb]; exact place_in h1 hb
  · rw [if_neg hb]; exact place_out h1 (by omega)
theorem CPins (h : Cw w F p g st) {b : Nat} (hb : b < 4294967296) : Calls Try.prog 17 #[.pointer (some ⟨p, 0, none⟩), .int .u32 (b : Int)] w fun e w' => e = .returned (.int .i64 (pinsP st b : Int)) ∧ w = w' := by
  obtain ⟨S, fb, mp, ch, cb, qk, h1, h2, h3, h4, h5, h6⟩ := h
  unfold pinsP
  cases hl : look st.fr b with
  | none => exact Pins_none h1 hb (ix_none_of (look_none hl))
  | some y =>
    obtain ⟨j, b', x, d, n⟩ := y
    obtain ⟨hf, rfl⟩ := look_some hl
    exact Pins_some h1 hb hf (ix_at h5.uq hf)
theorem CUsed (h : Cw w F p g st) : Calls Try.prog 23 #[.pointer (some ⟨p, 0, none⟩)] w fun e w' => e = .returned (.int .i64 (occ st.fr : Int)) ∧ w = w' := by
  obtain ⟨S, fb, mp, ch, cb, qk, h1, h2, h3, h4, h5, h6⟩ := h
  exact Used_any h1
theorem CisMade (h : Cw w F p g st) : Calls Try.prog 49 #[.pointer (some ⟨p, 0, none⟩)] w fun e w' => e = .returned (.bool true) ∧ w = w' := by
  obtain ⟨S, fb, mp, ch, cb, qk, h1, h2, h3, h4, h5, h6⟩ := h
  exact isMade_any h1
/-- Read of the device -/
theorem Cread (h : Cw w F p g st) {b : Nat} {x : List UInt8} (hx : st.ls[b]? = some x) (hr : st.r ≤ 1000000) : Calls Try.prog 70 #[.pointer (some ⟨g, 0, none⟩), .int .u32 (b : Int)] w fun e w' =>
    (∃ q k, e = .returned (.tuple #[.slice (some ⟨q, 0, none⟩) st.m k, .int .i64 0]) ∧ Row 5 w' q x ∧ w.heap.size ≤ q) ∧ Cw w' F p g (readT st) ∧ Flow.Into F w w' := by
  obtain ⟨S, fb, mp, ch, cb, qk, h1, h2, h3, h4, h5, h6⟩ := h
  refine (Read_in h1.dv b x hx hr).mono fun e w' ⟨he, hd, hi⟩ => ⟨he, ⟨S, fb, mp, ch, cb, qk, ?_, h2, h3, h4, h5.read, fun y hy => Nat.lt_of_lt_of_le (h6 y hy) hi.size⟩, hi.mono fun y hy => ?_⟩
  · exact h1.toDev (hi.mono fun y hy => by
      obtain rfl : y = g := by simpa using hy
      exact h1.dv.g_in) hd fun y hy => .inl hy
  · obtain rfl : y = g := by simpa using hy
    exact h2 _ h1.dv.g_in
set_option maxRecDepth 100000 in
set_option maxRecDepth 100000 in
theorem seat_some (h : Cw w F p g st) {b j : Nat} {f : Fr} (hb : b < 4294967296) (hl : look st.fr b = some (j, f)) : Calls Try.prog 79 #[.pointer (some ⟨p, 0, none⟩), .int .u32 (b : Int)] w fun e w' => e = .returned (.tuple #[.int .i64 (j : Int), .int .i64 0]) ∧ w = w' := by
  obtain ⟨S, fb, mp, ch, cb, qk, h1, h2, h3, h4, h5, h6⟩ := h
  obtain ⟨hf, rfl⟩ := look_some hl
  obtain ⟨-, -, c2, -⟩ := h1.cells
  have hq := h1.mc.lookOk hb
  rw [ix_at h5.uq hf] at hq
  simp only [Option.getD_some, Option.isSome_some] at hq
  clear h1 h2 h3 h4 h5 h6 hf hl
  go_enter Try.func79, Try.ntmps79
  go_wp2
  exact bodyPost_ret (v := .tuple #[.int .i64 (j : Int), .int .i64 0]) (by simp [results, Try.results79, go_sem]) rfl ⟨rfl, rfl⟩
theorem look_ok {S : List Nat} {f mp ch cb g' k : Nat} {qk : Nat → Nat × Nat} (h : CwW w S p f mp ch cb g' qk st (ix st.fr) k) {b : Nat} (hb : b < 4294967296) (hl : look st.fr b = none) : (Instr.lookup 78 (.map (some mp)) (.int .u32 (b : Int)) true).run Try.prog w = .ok (.tuple #[.int .i64 0, .bool false]) w := by
  have hq := h.mc.lookOk hb
  rw [ix_none_of (look_none hl)] at hq
  simpa using hq
set_option maxRecDepth 100000 in
set_option maxRecDepth 100000 in
theorem seat_none (h : Cw w F p g st) {b : Nat} (hb : b < 4294967296) (hl : look st.fr b = none) {z y : Int} {st' : St} (hR : Calls Try.prog 69 #[.pointer (some ⟨p, 0, none⟩)] w fun e w' => e = .returned (.tuple #[.int .i64 z, .int .i64 y]) ∧ Aft w w' F p g st') : Calls Try.prog 79 #[.pointer (some ⟨p, 0, none⟩), .int .u32 (b : Int)] w fun e w' => e = .returned (.tuple #[.int .i64 z, .int .i64 y]) ∧ Aft w w' F p g st' := by
  obtain ⟨S, fb, mp, ch, cb, qk, h1, h2, h3, h4, h5, h6⟩ := h
  obtain ⟨-, -, c2, -⟩ := h1.cells
  have hq := look_ok h1 hb hl
  have cR := Lib.hid hR
  clear h1 h2 h3 h4 h5 h6 hl hR
  go_enter Try.func79, Try.ntmps79
  go_wp2_with (go_at_call 69; refine cR.out.mono ?_; rintro e w' ⟨rfl, ha⟩)
  exact bodyPost_ret (v := .tuple #[.int .i64 z, .int .i64 y]) (by simp [results, Try.results79, go_sem]) rfl ⟨rfl, ha⟩
set_option maxRecDepth 100000 in
theorem ix_mark {fr : List (Option Fr)} (hU : Uq fr) {j b n n' : Nat} {x x' : List UInt8} {d d' : Bool} (hf : fr[j]? = some (some (b, x, d, n))) : ix (fr.set j (some (b, x', d', n'))) = ix fr := by
  funext y
  refine (ix_set (f := (b, x', d', n')) hU (lt_of_get hf) (fun i u hi e => hU i j u _ hi hf e) (fun u hu => by rw [hf] at hu; cases hu; rfl) y).trans ?_
  by_cases e : y = b
  · subst e
    have := ix_at hU hf
    rw [if_pos rfl]; exact this.symm
  · rw [if_neg e]
theorem occ_mark {fr : List (Option Fr)} {j : Nat} {f f' : Fr} (hf : fr[j]? = some (some f)) : occ (fr.set j (some f')) = occ fr := by
  have := occ_set (y := some f') hf
  simpa using this
/-- a state with another mark on a frame, and another row -/
theorem Cw.of_mark {S : List Nat} {fb mp ch cb : Nat} {qk : Nat → Nat × Nat} {j b n n' : Nat} {x x' : List UInt8} {d d' : Bool} {row' : List Nat} (hf : st.fr[j]? = some (some (b, x, d, n))) (hU : Uq st.fr)
    (h : CwW w' S p fb mp ch cb g qk { st with fr := st.fr.set j (some (b, x', d', n')), row := row' } (ix st.fr) (occ st.fr)) (h2 : ∀ x, x ∈ S → x ∈ F) (h3 : ∀ x, x ∈ [p, fb, mp, ch, cb] → x ∈ F) (h4 : ∀ (j : Nat) (x : Fr), st.fr[j]? = some (some x) → (qk j).1 ∈ F)
    (hg : Good { st with fr := st.fr.set j (some (b, x', d', n')), row := row' }) (h6 : ∀ x, x ∈ F → x < w.heap.size) (hs : w.heap.size ≤ w'.heap.size) : Cw w' F p g { st with fr := st.fr.set j (some (b, x', d', n')), row := row' } := by
  refine ⟨S, fb, mp, ch, cb, qk, ?_, h2, h3, fun i u hi => ?_, hg, fun y hy => Nat.lt_of_lt_of_le (h6 y hy) hs⟩
  · show CwW w' S p fb mp ch cb g qk _ (ix (st.fr.set j (some (b, x', d', n')))) (occ (st.fr.set j (some (b, x', d', n'))))
    rw [ix_mark hU hf, occ_mark hf]
    exact h
  · have hi2 : (st.fr.set j (some (b, x', d', n')))[i]? = some (some u) := hi
    by_cases e : i = j
    · subst e; exact h4 i _ hf
    · rw [set_ne e] at hi2
      exact h4 i u hi2
set_option maxRecDepth 100000 in
/-- Pin of no block -/
theorem Pin_out (h : Cw w F p g st) {b : Nat} (hb : st.ls.length ≤ b) : Calls Try.prog 33 #[.pointer (some ⟨p, 0, none⟩), .int .u32 (b : Int)] w fun e w' => e = .returned (.int .i64 4) ∧ w = w' := by
  have cP := Cplace h b
  rw [if_neg (by omega)] at cP
  have cP := Lib.hid cP
  clear h
  go_enter Try.func33, Try.ntmps33
  go_wp2_with (go_at_call 67; refine cP.out.mono ?_; rintro e w' ⟨rfl, rfl⟩)
  go_ret
  exact ⟨rfl, rfl⟩
set_option maxRecDepth 100000 in
set_option maxRecDepth 100000 in
/-- Pin of a block that is in a frame -/
theorem Pin_hit (h : Cw w F p g st) {b j : Nat} {f : Fr} (hb : b < st.ls.length) (hl : look st.fr b = some (j, f)) (hp : f.2.2.2 ≤ 1000000) :
    Calls Try.prog 33 #[.pointer (some ⟨p, 0, none⟩), .int .u32 (b : Int)] w fun e w' => e = .returned (.int .i64 0) ∧ Aft w w' F p g (fillT st j (f.1, f.2.1, f.2.2.1, f.2.2.2 + 1)) := by
  have cP := Cplace h b
  rw [if_pos hb] at cP
  have cP := Lib.hid cP
  have hgd := h.good.pin b
  unfold pinT at hgd
  rw [if_pos hb, hl] at hgd
  have HG := Lib.hid hgd
  obtain ⟨S, fb, mp, ch, cb, qk, h1, h2, h3, h4, h5, h6⟩ := h
  have hb2 : b < 4294967296 := by have := h5.l32; omega
  obtain ⟨hf, rfl⟩ := look_some hl
  obtain ⟨b, x, d, n⟩ := f
  simp only at hp hb hb2
  obtain ⟨-, c1, c2, -⟩ := h1.cells
  have hq := h1.mc.lookOk hb2
  have hixb := ix_at h5.uq hf
  simp only at hixb
  rw [hixb] at hq
  simp only [Option.getD_some, Option.isSome_some] at hq
  obtain ⟨-, -, -, d3⟩ := h1.fw.cell hf
  simp only [f3] at d3
  have k3 := h1.fw.free (j * 4 + 3)
  have hwr : IntKind.i64.wrap ((n : Int) + 1) = (n : Int) + 1 := by rw [IntKind.wrap_i64]; omega
  have hj := lt_of_get hf
  have H1 := Lib.hid h1
  have HF := Lib.hid hf
  have HS := Lib.hid (And.intro h2 (And.intro h3 (And.intro h4 h6)))
  have H5 := Lib.hid h5
  obtain ⟨N, hN⟩ : ∃ N, N = st.fr.length := ⟨_, rfl⟩
  have HN := Lib.hid hN
  rw [← hN] at hj c1
  clear h1 h2 h3 h4 h5 h6 hf hl hixb hgd hN
  go_enter Try.func33, Try.ntmps33
  go_upto_region 7 with (go_at_call 67; refine cP.out.mono ?_; rintro e w' ⟨rfl, rfl⟩)
  have hi1 := into_setCell w ⟨fb, j * 4 + 3, none⟩ (.int .i64 ((n : Int) + 1))
  have h1 := H1.out.toMark (d' := d) (n' := n + 1) HF.out hi1 (by simpa using H1.out.fw.pin HF.out (n + 1))
  clear d3 k3 c1 c2 hq
  generalize w.setCell ⟨fb, j * 4 + 3, none⟩ (.int .i64 ((n : Int) + 1)) = w1 at *
  have cC := Lib.hid (Cut_any h1.cn (j := j) (by simpa using lt_of_get HF.out))
  obtain ⟨-, -, -, c3⟩ := h1.cells
  have H1' := Lib.hid h1
  have HI1 := Lib.hid hi1
  clear h1 hi1
  go_wp2_with (go_at_call 68; refine cC.out.mono ?_; rintro e w2 ⟨z, rfl, hc, hi⟩)
  go_ret
  have hiF : Flow.Into F w w2 := (HI1.out.mono fun y hy => HS.out.2.1 y (by simp at hy ⊢; exact .inr (.inl hy))).trans (hi.mono fun y hy => HS.out.2.1 y (by simp at hy ⊢; exact .inr (.inr (.inr hy))))
  exact ⟨rfl, ⟨F, Cw.of_mark HF.out H5.out.uq (H1'.out.toRow hi hc) HS.out.1 HS.out.2.1 HS.out.2.2.1 HG.out HS.out.2.2.2 hiF.size, grew_refl w F⟩, hiF⟩
set_option maxRecDepth 100000 in
/-- Pin, no room -/
theorem Pin_full (h : Cw w F p g st) {b : Nat} (hb : b < st.ls.length) (hl : look st.fr b = none) (hs : st.s ≤ 1000000) (hr : roomT st = none) :
    Calls Try.prog 33 #[.pointer (some ⟨p, 0, none⟩), .int .u32 (b : Int)] w fun e w' => e = .returned (.int .i64 7) ∧ Aft w w' F p g st := by
  have cP := Cplace h b
  rw [if_pos hb] at cP
  have cP := Lib.hid cP
  have cR := Croom h hs
  unfold roomPost at cR
  rw [hr] at cR
  simp only at cR
  have cR := Lib.hid cR
  obtain ⟨S, fb, mp, ch, cb, qk, h1, h2, h3, h4, h5, h6⟩ := h
  have hb2 : b < 4294967296 := by have := h5.l32; omega
  obtain ⟨-, -, c2, -⟩ := h1.cells
  have hq := look_ok h1 hb2 hl
  clear h1 h2 h3 h4 h5 h6 hl hr hb hs hb2
  go_enter Try.func33, Try.ntmps33
  go_wp2_with (first
    | (go_at_call 67; refine cP.out.mono ?_; rintro e w' ⟨rfl, rfl⟩)
    | (go_at_call 69; refine cR.out.mono ?_; rintro e w' ⟨rfl, ha⟩))
  go_ret
  exact ⟨rfl, ha⟩
set_option maxRecDepth 100000 in
/-- Pin, the block is read -/
theorem Pin_room (h : Cw w F p g st) {b a : Nat} {t : St} (hb : b < st.ls.length) (hl : look st.fr b = none) (hs : st.s ≤ 1000000) (hrd : st.r ≤ 1000000) (hr : roomT st = some (a, t)) :
    Calls Try.prog 33 #[.pointer (some ⟨p, 0, none⟩), .int .u32 (b : Int)] w fun e w' => e = .returned (.int .i64 0) ∧ Aft w w' F p g (fillT (readT t) a (b, (t.ls[b]?).getD [], false, 1)) := by
  have cP := Cplace h b
  rw [if_pos hb] at cP
  have cP := Lib.hid cP
  have cR := Croom h hs
  unfold roomPost at cR
  rw [hr] at cR
  simp only at cR
  have cR := Lib.hid cR
  obtain ⟨g1, g2, g3, g4, g5, g6, g7⟩ := room_spec h.good hr
  have hbt : b < t.ls.length := by rw [g4]; exact hb
  have hx : t.ls[b]? = some (t.ls[b]) := List.getElem?_eq_getElem hbt
  obtain ⟨x, hxx⟩ : ∃ x, x = t.ls[b] := ⟨_, rfl⟩
  rw [← hxx] at hx
  have hxm : x.length = t.m := by rw [hxx]; exact g1.lm _ (List.getElem_mem hbt)
  rw [hx]
  simp only [Option.getD_some]
  have HX := Lib.hid (And.intro hx (And.intro hxm hbt))
  have HG := Lib.hid (And.intro g1 g2)
  have HN := Lib.hid (fun (i : Nat) (u : Fr) (hi : t.fr[i]? = some (some u)) => look_none hl i u (g5 i u hi))
  have HR := Lib.hid (by rw [g6]; exact hrd : t.r ≤ 1000000)
  obtain ⟨S, fb, mp, ch, cb, qk, h1, h2, h3, h4, h5, h6⟩ := h
  have hb2 : b < 4294967296 := by have := h5.l32; omega
  obtain ⟨-, -, c2, -⟩ := h1.cells
  have hq := look_ok h1 hb2 hl
  clear h1 h2 h3 h4 h5 h6 hl hr hb hs hrd hb2 g1 g2 g3 g4 g5 g6 g7 hx hxx hxm hbt
  go_enter Try.func33, Try.ntmps33
  go_upto_region 12 with (first
    | (go_at_call 67; refine cP.out.mono ?_; rintro e w' ⟨rfl, rfl⟩)
    | (go_at_call 69; refine cR.out.mono ?_; rintro e w1 ⟨rfl, ⟨F1, hc1, hg1⟩, hi1⟩))
  have cD := Lib.hid (Cread hc1 HX.out.1 HR.out)
  have c0 : w1.cell? ⟨p, 0, none⟩ = some (.pointer (some ⟨g, 0, none⟩)) := by
    obtain ⟨S, fb, mp, ch, cb, qk, h1, _⟩ := hc1
    exact h1.cells.1
  have HG1 := Lib.hid (And.intro hg1 (And.intro hi1 hc1.lt))
  clear hc1 hg1 hi1 hq c2
  go_upto_region 13 with (go_at_call 70; refine cD.out.mono ?_; rintro e w2 ⟨⟨q, k, rfl, hrow, hqs⟩, hc2, hi2⟩)
  have hqF : q ∉ F1 := fun hm => by have := HG1.out.2.2 q hm; omega
  have cF := Cfill (j := a) (b := b) (n := 1) (c := k) (d := false) hc2 HG.out.2 hrow hqF HX.out.2.2 HX.out.2.1 (by omega) (fun _ => HX.out.1) (fun i u hi e => absurd e (HN.out i u hi)) (fun u hu => by cases hu)
  rw [HX.out.2.1] at cF
  have cF := Lib.hid cF
  have HQ := Lib.hid hqs
  have HI2 := Lib.hid hi2
  clear hc2 hrow hqF hqs hi2 c0
  go_wp2_with (go_at_call 71; refine cF.out.mono ?_; rintro e w3 ⟨rfl, hF3, hi3⟩)
  go_ret
  exact ⟨rfl, Aft.fin HG1.out.2.1 HG1.out.1 (HI2.out.trans hi3) (Nat.le_trans HG1.out.2.1.size HQ.out) hF3⟩
end
end Ca
end Go.Proofs.Ytjnbdmimflhhiaa
