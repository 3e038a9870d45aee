/-
  Contracts of layer cache, over states: clean, empty, fill, room, seat.
-/
import Derived.Test.YtjnbdmimflhhiaaCachePin
import Derived.Test.YtjnbdmimflhhiaaCacheGood
namespace Go.Proofs.Ytjnbdmimflhhiaa
open Go.RowKit
namespace Ca
open Mem Dv Cn

/-- a cache whose memory lies in the blocks F -/
def Cw (w : World) (F : List Nat) (p g : Nat) (st : St) : Prop :=
  ∃ S f mp ch cb qk, CwW w S p f mp ch cb g qk st (ix st.fr) (occ st.fr) ∧ (∀ x, x ∈ S → x ∈ F) ∧ (∀ x, x ∈ [p, f, mp, ch, cb] → x ∈ F) ∧ (∀ (j : Nat) (x : Fr), st.fr[j]? = some (some x) → (qk j).1 ∈ F) ∧ Good st ∧ ∀ x, x ∈ F → x < w.heap.size
/-- what a call leaves -/
def Aft (w w' : World) (F : List Nat) (p g : Nat) (st : St) : Prop := (∃ F', Cw w' F' p g st ∧ Grew w F F') ∧ Flow.Into F w w'
section
variable {w w' w1 w2 : World} {F : List Nat} {p g : Nat} {st st1 st2 : St}
theorem Cw.good (h : Cw w F p g st) : Good st := by obtain ⟨_, _, _, _, _, _, _, _, _, _, h, _⟩ := h; exact h
theorem Cw.lt (h : Cw w F p g st) : ∀ x, x ∈ F → x < w.heap.size := by obtain ⟨_, _, _, _, _, _, _, _, _, _, _, h⟩ := h; exact h
theorem Cw.kept (h : Cw w F p g st) (hb : Below w.heap.size w w') : Cw w' F p g st := by
  obtain ⟨S, f, mp, ch, cb, qk, h1, h2, h3, h4, h5, h6⟩ := h
  exact ⟨S, f, mp, ch, cb, qk, h1.kept hb, h2, h3, h4, h5, fun x hx => Nat.lt_of_lt_of_le (h6 x hx) hb.size⟩
theorem grew_refl (w : World) (F : List Nat) : Grew w F F := fun _ h => .inl h
theorem Aft.same (h : Cw w F p g st) (hb : Below w.heap.size w w') : Aft w w' F p g st := ⟨⟨F, h.kept hb, grew_refl w F⟩, Flow.Into.of_below hb⟩
theorem Aft.next (h : Aft w w1 F p g st1) (k : ∀ F1, Cw w1 F1 p g st1 → Aft w1 w2 F1 p g st2) : Aft w w2 F p g st2 := by
  obtain ⟨⟨F1, h1, h2⟩, h3⟩ := h
  obtain ⟨⟨F2, k1, k2⟩, k3⟩ := k F1 h1
  refine ⟨⟨F2, k1, fun x hx => ?_⟩, into_more h3 k3 h2⟩
  rcases k2 x hx with h' | h'
  · exact h2 x h'
  · exact .inr (Nat.le_trans h3.size h')
/-- Below, then a call -/
theorem Aft.behind (hb : Below w.heap.size w w1) (h : Aft w1 w2 F p g st) : Aft w w2 F p g st := by
  obtain ⟨⟨F1, h1, h2⟩, h3⟩ := h
  refine ⟨⟨F1, h1, fun x hx => ?_⟩, (Flow.Into.of_below hb).trans h3⟩
  rcases h2 x hx with h' | h'
  · exact .inl h'
  · exact .inr (Nat.le_trans hb.size h')

theorem Cclean (h : Cw w F p g st) {j : Nat} {f : Fr} (hf : st.fr[j]? = some (some f)) (hs : st.s ≤ 1000000) : Calls Try.prog 81 #[.pointer (some ⟨p, 0, none⟩), .int .i64 (j : Int)] w fun e w' => e = .returned (.tuple #[]) ∧ Aft w w' F p g (cleanT st j) := by
  have h' := h
  obtain ⟨S, fb, mp, ch, cb, qk, h1, h2, h3, h4, h5, h6⟩ := h'
  obtain ⟨b, x, d, n⟩ := f
  obtain ⟨hb, hl⟩ := h5.blk _ _ hf
  cases d with
  | false =>
    refine (clean_no h1 hf).mono fun e w' ⟨he, hw⟩ => ⟨he, ?_⟩
    subst hw
    have e1 : cleanT st j = st := by unfold cleanT; rw [hf]
    rw [e1]
    exact Aft.same h (Below.refl _ _)
  | true =>
    refine (clean_yes h1 hf hb hl hs).mono fun e w' ⟨he, ⟨S', hc, hg⟩, hi⟩ => ⟨he, ⟨⟨S' ++ F, ?_, fun y hy => ?_⟩, hi.mono fun y hy => ?_⟩⟩
    · have e1 : cleanT st j = { st with ls := st.ls.set b x, s := st.s + 1, fr := st.fr.set j (some (b, x, false, n)) } := by unfold cleanT; rw [hf]
      have hgd := h5.clean j
      rw [e1] at hgd ⊢
      have hix : ix (st.fr.set j (some (b, x, false, n))) = ix st.fr := by
        funext y
        refine (ix_set (f := (b, x, false, n)) h5.uq (lt_of_get hf) (fun i u hi e => h5.uq i j u _ hi hf e) (fun u hu => by rw [hf] at hu; cases hu; rfl) y).trans ?_
        by_cases e : y = b
        · subst e
          have := ix_at h5.uq hf
          rw [if_pos rfl]; exact this.symm
        · rw [if_neg e]
      have hoc : occ (st.fr.set j (some (b, x, false, n))) = occ st.fr := by
        have := occ_set (y := some (b, x, false, n)) hf
        simpa using this
      refine ⟨S', fb, mp, ch, cb, qk, ?_, fun y hy => List.mem_append_left _ hy, fun y hy => List.mem_append_right _ (h3 y hy), fun i u hi => ?_, hgd, fun y hy => ?_⟩
      · show CwW w' S' p fb mp ch cb g qk _ (ix (st.fr.set j (some (b, x, false, n)))) (occ (st.fr.set j (some (b, x, false, n))))
        rw [hix, hoc]
        exact hc
      · by_cases e : i = j
        · subst e; exact List.mem_append_right _ (h4 i _ hf)
        · have : (st.fr.set j (some (b, x, false, n)))[i]? = st.fr[i]? := set_ne e
          rw [this] at hi
          exact List.mem_append_right _ (h4 i u hi)
      · rcases List.mem_append.1 hy with hy | hy
        · exact hc.dv.lt y hy
        · exact Nat.lt_of_lt_of_le (h6 y hy) hi.size
    · rcases List.mem_append.1 hy with hy | hy
      · rcases hg y hy with h' | h'
        · exact .inl (h2 y h')
        · exact .inr h'
      · exact .inl hy
    · rcases List.mem_cons.1 hy with rfl | hy
      · exact h3 _ (by simp)
      · exact h2 y hy
theorem Cempty (h : Cw w F p g st) {j : Nat} {f : Fr} (hf : st.fr[j]? = some (some f)) : Calls Try.prog 80 #[.pointer (some ⟨p, 0, none⟩), .int .i64 (j : Int)] w fun e w' => e = .returned (.tuple #[]) ∧ Aft w w' F p g (emptyT st j) := by
  obtain ⟨S, fb, mp, ch, cb, qk, h1, h2, h3, h4, h5, h6⟩ := h
  obtain ⟨b, x, d, n⟩ := f
  obtain ⟨hb, hl⟩ := h5.blk _ _ hf
  have hb2 : b < 4294967296 := by have := h5.l32; simp only at hb; omega
  refine (empty_any h1 hf (ix_at h5.uq hf) hb2).mono fun e w' ⟨he, hc, hi⟩ => ⟨he, ⟨⟨F, ?_, grew_refl w F⟩, hi.mono fun y hy => h3 y (List.mem_cons_of_mem _ hy)⟩⟩
  have hix : ix (st.fr.set j none) = fun z => if z = b then none else ix st.fr z := by
    funext y
    exact ix_unset h5.uq hf y
  have hoc : occ (st.fr.set j none) = occ st.fr - 1 := by
    have := occ_set (y := none) hf
    simp at this
    omega
  refine ⟨S, fb, mp, ch, cb, qk, ?_, h2, h3, fun i u hi' => ?_, h5.empty hf, fun y hy => Nat.lt_of_lt_of_le (h6 y hy) hi.size⟩
  · show CwW w' S p fb mp ch cb g qk _ (ix (st.fr.set j none)) (occ (st.fr.set j none))
    rw [hix, hoc]
    exact hc
  · have hi2 : (st.fr.set j none)[i]? = some (some u) := hi'
    by_cases e : i = j
    · subst e; rw [set_eq hf] at hi2; cases hi2
    · rw [set_ne e] at hi2
      exact h4 i u hi2
/-- fill, with bytes in a row of their own -/
theorem Cfill (h : Cw w F p g st) {j b n q c : Nat} {y : Option Fr} {x : List UInt8} {d : Bool} (hy : st.fr[j]? = some y) (hr : Row 5 w q x) (hq : q ∉ F) (h1' : b < st.ls.length) (h2' : x.length = st.m) (h3' : 0 < n) (hc' : d = false → st.ls[b]? = some x)
    (ho : ∀ (i : Nat) (u : Fr), st.fr[i]? = some (some u) → u.1 = b → i = j) (hn : ∀ u : Fr, y = some u → u.1 = b) :
    Calls Try.prog 71 #[.pointer (some ⟨p, 0, none⟩), .int .i64 (j : Int), .agg #[.int .u32 (b : Int), .slice (some ⟨q, 0, none⟩) x.length c, .bool d, .int .i64 (n : Int)]] w fun e w' => e = .returned (.tuple #[]) ∧
      (∃ F', Cw w' F' p g (fillT st j (b, x, d, n)) ∧ ∀ z, z ∈ F' → z ∈ F ∨ z = q) ∧ Flow.Into F w w' := by
  obtain ⟨S, fb, mp, ch, cb, qk, h1, h2, h3, h4, h5, h6⟩ := h
  have hb2 : b < 4294967296 := by have := h5.l32; omega
  have hk : occ st.fr ≤ 65536 := by have := occ_le st.fr; have := h5.n2; omega
  have hgd : Good (fillT st j (b, x, d, n)) := h5.fill hy h1' h2' h3' hc' ho
  have hix : ix (st.fr.set j (some (b, x, d, n))) = fun z => if z = b then some j else ix st.fr z := by
    funext z
    exact ix_set h5.uq (lt_of_get hy) ho (fun u hu => by rw [hy] at hu; exact hn u (by simpa using hu)) z
  have hoc : (if (ix st.fr b).isSome then occ st.fr else occ st.fr + 1) = occ (st.fr.set j (some (b, x, d, n))) := by
    have e1 := occ_set (y := some (b, x, d, n)) hy
    cases y with
    | none =>
      have : ix st.fr b = none := ix_none_of fun i u hi e => by
        obtain rfl := ho i u hi e
        rw [hy] at hi; cases hi
      rw [this]
      simp at e1 ⊢
      omega
    | some u =>
      have e2 := hn u rfl
      have : ix st.fr b = some j := e2 ▸ ix_at h5.uq hy
      rw [this]
      simp at e1 ⊢
      omega
  refine (fill_any (q := (q, c)) h1 hy hr (fun hh => hq (h2 _ hh)) (fun hh => hq (h3 _ hh)) (fun i u hi _ => ?_) hb2 hk hoc).mono fun e w' ⟨he, hc, hi⟩ => ⟨he, ⟨q :: F, ?_, fun z hz => ?_⟩, hi.mono fun y hy => h3 y (List.mem_cons_of_mem _ hy)⟩
  · rintro rfl; exact hq (h4 i u hi)
  · refine ⟨S, fb, mp, ch, cb, fun i => if i = j then (q, c) else qk i, ?_, fun z hz => List.mem_cons_of_mem _ (h2 z hz), fun z hz => List.mem_cons_of_mem _ (h3 z hz), fun i u hi' => ?_, hgd, fun z hz => ?_⟩
    · show CwW w' S p fb mp ch cb g _ _ (ix (st.fr.set j (some (b, x, d, n)))) (occ (st.fr.set j (some (b, x, d, n))))
      rw [hix]
      exact hc
    · have hi2 : (st.fr.set j (some (b, x, d, n)))[i]? = some (some u) := hi'
      by_cases e : i = j
      · simp [e]
      · rw [set_ne e] at hi2
        simp only [if_neg e]
        exact List.mem_cons_of_mem _ (h4 i u hi2)
    · rcases List.mem_cons.1 hz with rfl | hz
      · exact Nat.lt_of_lt_of_le hr.lt hi.size
      · exact Nat.lt_of_lt_of_le (h6 z hz) hi.size
  · rcases List.mem_cons.1 hz with rfl | hz
    · exact .inr rfl
    · exact .inl hz
theorem lst_last {a : Nat} : ∀ {l : List Nat} (x : Nat), l.getLast? = some a → lst x l = a
  | [], _, h => by cases h
  | [y], _, h => by simpa [lst] using h
  | y :: z :: r, _, h => by
    have := lst_last (l := z :: r) y (by simpa using h)
    simpa [lst] using this
set_option maxRecDepth 100000 in
theorem room_none (h : Cw w F p g st) (hr : st.row.getLast? = none) : Calls Try.prog 69 #[.pointer (some ⟨p, 0, none⟩)] w fun e w' => e = .returned (.tuple #[.int .i64 0, .int .i64 7]) ∧ Aft w w' F p g st := by
  have H := Lib.hid h
  obtain ⟨S, fb, mp, ch, cb, qk, h1, h2, h3, h4, h5, h6⟩ := h
  have cL := Lib.hid (CLast h1.cn)
  obtain ⟨-, -, -, c3⟩ := h1.cells
  have e0 : st.row = [] := by simpa using hr
  rw [e0] at cL
  simp only [lst, List.length_nil, Nat.lt_irrefl, decide_false] at cL
  clear h1 h2 h3 h4 h5 h6 hr e0
  go_enter Try.func69, Try.ntmps69
  go_wp2_with (go_at_call 90; refine cL.out.mono ?_; rintro e w1 ⟨rfl, hb⟩; have HB := Lib.hid hb; clear hb)
  exact bodyPost_ret (v := .tuple #[.int .i64 0, .int .i64 7]) (by simp [results, Try.results69, go_sem]) rfl ⟨rfl, Aft.same H.out HB.out⟩
theorem last_facts {a : Nat} {l : List Nat} (hr : l.getLast? = some a) : ((lst 0 l : Nat) : Int) = (a : Int) ∧ decide (0 < l.length) = true := by
  refine ⟨by rw [lst_last 0 hr], ?_⟩
  cases l with
  | nil => cases hr
  | cons x r => simp
set_option maxRecDepth 100000 in
theorem room_free (h : Cw w F p g st) {a : Nat} (hr : st.row.getLast? = some a) (hf : st.fr[a]? = some none) : Calls Try.prog 69 #[.pointer (some ⟨p, 0, none⟩)] w fun e w' => e = .returned (.tuple #[.int .i64 (a : Int), .int .i64 0]) ∧ Aft w w' F p g st := by
  have H := Lib.hid h
  obtain ⟨S, fb, mp, ch, cb, qk, h1, h2, h3, h4, h5, h6⟩ := h
  have cL := Lib.hid (CLast h1.cn)
  obtain ⟨-, -, -, c3⟩ := h1.cells
  obtain ⟨e1, e2⟩ := last_facts hr
  rw [e1, e2] at cL
  have HF := Lib.hid hf
  have hj := lt_of_get hf
  have H1 := Lib.hid h1
  have cE := fun w => Lib.hid (isEmpty_any (.int .u32 0) (.bool false) (.int .i64 0) none 0 0 w)
  obtain ⟨N, hN⟩ : ∃ N, N = st.fr.length := ⟨_, rfl⟩
  have HN := Lib.hid hN
  rw [← hN] at hj
  clear h1 h2 h3 h4 h5 h6 hr e1 e2 hf hN
  go_enter Try.func69, Try.ntmps69
  go_upto_region 4 with (go_at_call 90; refine cL.out.mono ?_; rintro e w1 ⟨rfl, hb⟩; have HB := Lib.hid hb; clear hb)
  have h1 := H1.out.kept HB.out
  obtain ⟨-, c1, -, -⟩ := h1.cells
  rw [← HN.out] at c1
  obtain ⟨d0, d1, d2, d3⟩ := h1.fw.cell HF.out
  simp only [f0, f1, f2, f3] at d0 d1 d2 d3
  clear h1 c3
  go_wp2_with (go_at_call 53; refine (cE _).out.mono ?_; rintro e w2 ⟨rfl, hb⟩; have HB2 := Lib.hid hb; clear hb)
  exact bodyPost_ret (v := .tuple #[.int .i64 (a : Int), .int .i64 0]) (by simp [results, Try.results69, go_sem]) rfl ⟨rfl, Aft.same H.out (below_all HB.out HB2.out (Nat.le_refl _))⟩
set_option maxRecDepth 100000 in
theorem room_used (h : Cw w F p g st) {a : Nat} {f : Fr} (hr : st.row.getLast? = some a) (hf : st.fr[a]? = some (some f)) (hs : st.s ≤ 1000000) : Calls Try.prog 69 #[.pointer (some ⟨p, 0, none⟩)] w fun e w' => e = .returned (.tuple #[.int .i64 (a : Int), .int .i64 0]) ∧ Aft w w' F p g (emptyT (cleanT st a) a) := by
  have H := Lib.hid h
  obtain ⟨S, fb, mp, ch, cb, qk, h1, h2, h3, h4, h5, h6⟩ := h
  obtain ⟨b, x, d, n⟩ := f
  have cL := Lib.hid (CLast h1.cn)
  obtain ⟨-, -, -, c3⟩ := h1.cells
  obtain ⟨e1, e2⟩ := last_facts hr
  rw [e1, e2] at cL
  have HF := Lib.hid hf
  have hj := lt_of_get hf
  have H1 := Lib.hid h1
  have HS := Lib.hid hs
  have cE := fun w => Lib.hid (isEmpty_any (.int .u32 (b : Int)) (.bool d) (.int .i64 (n : Int)) (some ⟨(qk a).1, 0, none⟩) x.length (qk a).2 w)
  simp only [Option.isNone_some] at cE
  obtain ⟨N, hN⟩ : ∃ N, N = st.fr.length := ⟨_, rfl⟩
  have HN := Lib.hid hN
  rw [← hN] at hj
  clear h1 h2 h3 h4 h5 h6 hr e1 e2 hf hN hs
  go_enter Try.func69, Try.ntmps69
  go_upto_region 4 with (go_at_call 90; refine cL.out.mono ?_; rintro e w1 ⟨rfl, hb⟩; have HB := Lib.hid hb; clear hb)
  have h1 := H1.out.kept HB.out
  obtain ⟨-, c1, -, -⟩ := h1.cells
  rw [← HN.out] at c1
  obtain ⟨d0, d1, d2, d3⟩ := h1.fw.cell HF.out
  simp only [f0, f1, f2, f3] at d0 d1 d2 d3
  clear h1 c3
  go_upto_region 5 with (go_at_call 53; refine (cE _).out.mono ?_; rintro e w2 ⟨rfl, hb⟩; have HB2 := Lib.hid hb; clear hb)
  have hb2 := below_all HB.out HB2.out (Nat.le_refl _)
  have h2 := H.out.kept hb2
  have cC := Lib.hid (Cclean h2 HF.out HS.out)
  have H2 := Lib.hid hb2
  clear h2 hb2 d0 d1 d2 d3 c1
  go_upto_region 6 with (go_at_call 81; refine cC.out.mono ?_; rintro e w3 ⟨rfl, ha⟩)
  have hA := Lib.hid (Aft.behind H2.out ha)
  clear ha
  obtain ⟨⟨F3, h3, hg3⟩, hi3⟩ := hA.out
  have cX := Lib.hid (Cempty h3 (clean_at HF.out))
  have HG3 := Lib.hid hg3
  have HI3 := Lib.hid hi3
  have H3 := Lib.hid h3
  clear h3 hg3 hi3
  go_wp2_with (go_at_call 80; refine cX.out.mono ?_; rintro e w4 ⟨rfl, ha⟩; have HA4 := Lib.hid ha; clear ha)
  refine bodyPost_ret (v := .tuple #[.int .i64 (a : Int), .int .i64 0]) (by simp [results, Try.results69, go_sem]) rfl ⟨rfl, ?_⟩
  obtain ⟨⟨F4, h4, hg4⟩, hi4⟩ := HA4.out
  refine ⟨⟨F4, h4, fun y hy => ?_⟩, into_more HI3.out hi4 HG3.out⟩
  rcases hg4 y hy with h' | h'
  · exact HG3.out y h'
  · exact .inr (Nat.le_trans HI3.out.size h')
/-- room, whatever there is -/
def roomPost (w w' : World) (F : List Nat) (p g : Nat) (st : St) (e : Ending) : Prop := match roomT st with
  | none => e = .returned (.tuple #[.int .i64 0, .int .i64 7]) ∧ Aft w w' F p g st
  | some (a, t) => e = .returned (.tuple #[.int .i64 (a : Int), .int .i64 0]) ∧ Aft w w' F p g t
theorem Croom (h : Cw w F p g st) (hs : st.s ≤ 1000000) : Calls Try.prog 69 #[.pointer (some ⟨p, 0, none⟩)] w fun e w' => roomPost w w' F p g st e := by
  cases hr : st.row.getLast? with
  | none =>
    refine (room_none h hr).mono fun e w' hh => ?_
    unfold roomPost roomT
    rw [hr]
    exact hh
  | some a =>
    have hlt := ((h.good.rw a).1 (List.mem_of_getLast? hr)).1
    cases hf : st.fr[a]? with
    | none => rw [List.getElem?_eq_none_iff] at hf; omega
    | some y =>
      cases y with
      | none =>
        refine (room_free h hr hf).mono fun e w' hh => ?_
        unfold roomPost roomT
        simp only [hr, hf]
        exact hh
      | some f =>
        refine (room_used h hr hf hs).mono fun e w' hh => ?_
        unfold roomPost roomT
        simp only [hr, hf]
        exact hh
end
end Ca
end Go.Proofs.Ytjnbdmimflhhiaa
