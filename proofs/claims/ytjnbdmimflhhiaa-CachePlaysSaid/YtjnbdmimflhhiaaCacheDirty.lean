/-
  Contracts of layer cache: Dirty.
-/
import Derived.Test.YtjnbdmimflhhiaaCacheAct3
import Derived.Test.YtjnbdmimflhhiaaSort32b
namespace Go.Proofs.Ytjnbdmimflhhiaa
open Go.RowKit Go.Maps
namespace Ca
open Mem Dv Cn Po So

theorem same_kl (a b : Nat) : (kl a).sameKey (kl b) = decide (a = b) := by
  simp only [kl, Lit.sameKey, true_and]
  by_cases h : a = b
  · subst h; simp
  · have : ¬ (a : Int) = (b : Int) := by omega
    simp [h, this]
/-- the blocks that were met and are dirty -/
structure DR (W wr : World) (st : St) (mp k : Nat) (D : DataW Unit) (left : Lit → Bool) (cnt : Nat) (A : Option Addr) (c : Nat) (L : List Nat) : Prop where
  rg : wr.ranges Try.prog 23 (plainElem Try.prog 3) mp W.heap.size k D left cnt
  vo : VO 23 wr (W.heap.size + 1) A c (L.map u32V)
  nd : L.Nodup
  mem : ∀ b, b ∈ L ↔ b < 4294967296 ∧ Maps.has D (kl b) = true ∧ left (kl b) = false ∧ dirtyP st b = true
  bd : L.length + cnt ≤ k
  nil : L.length = 0 → A = none
  bl : Below W.heap.size W wr
section
variable {W wr w1 w3 : World} {st : St} {mp k cnt cnt1 c c' : Nat} {D : DataW Unit} {left : Lit → Bool} {A A' : Option Addr} {L : List Nat} {b : Nat}
theorem DR.lt (h : DR W wr st mp k D left cnt A c L) : W.heap.size < wr.heap.size := h.rg.lt
theorem grown_below {a w w' : World} {r B : Nat} (h : Below B a w) (hg : w.grownBy w' (some r)) (hr : B ≤ r) (hB : B ≤ w.heap.size) : Below B a w' :=
  h.trans ⟨hg.os, hg.tape, hg.output, hg.size, fun i hi => hg.block i (by omega) (by simp; omega)⟩
/-- an entry has come: it is dirty, or not -/
theorem DR.skip (h : DR W wr st mp k D left cnt A c L) (hb : b < 4294967296) (hl : left (kl b) = true) (hr : w1.ranges Try.prog 23 (plainElem Try.prog 3) mp W.heap.size k D (fun z => left z && !z.sameKey (kl b)) cnt1) (hc : cnt1 < cnt) (hg : wr.grownBy w1 (some W.heap.size)) (hd : dirtyP st b = false) :
    DR W w1 st mp k D (fun z => left z && !z.sameKey (kl b)) cnt1 A c L := by
  refine ⟨hr, h.vo.keep fun a ha => ?_, h.nd, fun x => ?_, by have := h.bd; omega, h.nil, grown_below h.bl hg (Nat.le_refl _) h.bl.size⟩
  · obtain ⟨g1, g2⟩ := h.vo.at_ a ha
    exact hg.block _ g2 (by simp; omega)
  · rw [h.mem x]
    simp only [same_kl]
    by_cases e : x = b
    · subst e
      simp [hd]
    · simp [e]
theorem DR.more (h : DR W wr st mp k D left cnt A c L) (hb : b < 4294967296) (hh : Maps.has D (kl b) = true) (hl : left (kl b) = true) (hr : w1.ranges Try.prog 23 (plainElem Try.prog 3) mp W.heap.size k D (fun z => left z && !z.sameKey (kl b)) cnt1) (hc : cnt1 < cnt) (hg : wr.grownBy w1 (some W.heap.size)) (hd : dirtyP st b = true)
    (ha : Appd 23 (W.heap.size + 1) (w1.alloc (.cells #[.int .u32 (b : Int)] 23)) w3 A A' c' (L.map u32V ++ [.int .u32 (b : Int)])) :
    DR W w3 st mp k D (fun z => left z && !z.sameKey (kl b)) cnt1 A' c' (L ++ [b]) := by
  have hlt := h.lt
  have hrlt := hr.lt
  have hmlt := hr.owns.lt
  have hs1 : w1.heap.size < (w1.alloc (.cells #[.int .u32 (b : Int)] 23)).heap.size := by simp
  have hb1 : Below W.heap.size W w1 := grown_below h.bl hg (Nat.le_refl _) h.bl.size
  have hne := hr.ne
  have hAr : ∀ a, A = some a → W.heap.size + 1 ≤ a.block := fun a e => (h.vo.at_ a e).1
  have hgg : (w1.alloc (.cells #[.int .u32 (b : Int)] 23)).grownBy w3 (A.map (·.block)) := ⟨ha.below.os, ha.below.tape, ha.below.output, ha.below.size, fun i hi hn => ha.block i hi fun a e => by
    rintro rfl
    exact hn (by rw [e]; rfl)⟩
  refine ⟨?_, ?_, ?_, fun x => ?_, ?_, ?_, ?_⟩
  · refine (hr.alloc _).kept hgg ?_ ?_
    · rintro e
      cases hA : A with
      | none => rw [hA] at e; cases e
      | some a =>
        rw [hA] at e
        have e1 : mp = a.block := by simpa using e
        have hmw : w1.heap[mp]? = wr.heap[mp]? := by
          obtain ⟨g1, g2⟩ := h.vo.at_ a hA
          exact hg.block _ (by omega) (by simp; omega)
        obtain ⟨g1, g2⟩ := h.vo.at_ a hA
        obtain ⟨es, clock, hb', _⟩ := h.rg.owns
        obtain ⟨_, h2⟩ := h.vo
        rcases h2 with ⟨h2, _⟩ | ⟨g', cap', cur, he, _, hh', _⟩
        · rw [hA] at h2; cases h2
        · rw [hA] at he
          obtain ⟨rfl, _⟩ : a = ⟨g', 0, none⟩ ∧ c = cap' := by simpa using he
          have e2 : mp = g' := e1
          rw [e2, hh'] at hb'
          cases hb'
    · rintro e
      cases hA : A with
      | none => rw [hA] at e; cases e
      | some a =>
        rw [hA] at e
        have e1 : W.heap.size = a.block := by simpa using e
        have := hAr a hA
        omega
  · have := ha.vo
    rw [List.map_append]
    exact this
  · refine List.nodup_append.2 ⟨h.nd, by simp, fun x hx y hy e => ?_⟩
    obtain rfl : y = b := by simpa using hy
    subst e
    rw [((h.mem x).1 hx).2.2.1] at hl
    cases hl
  · rw [List.mem_append, h.mem x, List.mem_singleton]
    simp only [same_kl]
    by_cases e : x = b
    · subst e
      simp [hd, hh, hb]
    · simp [e]
  · have := h.bd
    simp
    omega
  · intro e; simp at e
  · exact (hb1.trans (((Below.refl _ _).alloc (Nat.le_refl _) _).mono hb1.size)).trans (ha.below.mono (Nat.le_succ _))
/-- the row of all that are dirty -/
theorem DR.done (h : DR W wr st mp k D left cnt A c L) (hl : ∀ z, left z = false) (hW : ∀ b, b < 4294967296 → Maps.has D (kl b) = (ix st.fr b).isSome) (hg : Good st) : L.Perm (dirtyL st) := by
  refine (List.perm_ext_iff_of_nodup h.nd (List.nodup_range.filter _)).2 fun x => ?_
  rw [h.mem x, List.mem_filter, List.mem_range]
  refine ⟨fun ⟨h1, h2, _, h4⟩ => ⟨?_, h4⟩, fun ⟨h1, h2⟩ => ⟨?_, ?_, hl _, h2⟩⟩
  · rw [hW x h1] at h2
    obtain ⟨j, hj⟩ := Option.isSome_iff_exists.1 h2
    obtain ⟨f, hf, rfl⟩ := ix_some hj
    exact (hg.blk j f hf).1
  · have := hg.l32; omega
  · rw [hW x (by have := hg.l32; omega)]
    unfold dirtyP at h2
    unfold ix
    cases e : look st.fr x with
    | none => rw [e] at h2; cases h2
    | some y => rfl
end
theorem srt_unique : ∀ {l l' : List Nat}, l.Perm l' → Srt l → Srt l' → l = l' := fun hp h h' => hp.eq_of_pairwise (fun _ _ _ _ => Nat.le_antisymm) h h'
theorem srt_dirty (st : St) : Srt (dirtyL st) := by
  unfold Srt dirtyL
  exact (List.pairwise_le_range).filter _
set_option maxRecDepth 100000 in
set_option maxHeartbeats 1000000 in
theorem Dirty_w {W : World} {S : List Nat} {p f mp ch cb g : Nat} {qk : Nat → Nat × Nat} {st : St} (h : CwW W S p f mp ch cb g qk st (ix st.fr) (occ st.fr)) (hg : Good st) (hl : st.ls.length ≤ 12) :
    Calls Try.prog 20 #[.pointer (some ⟨p, 0, none⟩)] W fun e w' => (∃ A c, e = .returned (.slice A (dirtyL st).length c) ∧ UL w' A (dirtyL st) ∧ ∀ a, A = some a → W.heap.size ≤ a.block) ∧ Below W.heap.size W w' := by
  have cM := Lib.hid (isMade_any h)
  obtain ⟨D, hown, hsz, hD⟩ := h.mc.own
  have hW : Hid (∀ b, b < 4294967296 → Maps.has D (kl b) = (ix st.fr b).isSome) := fun b hb => (hD b hb).2
  have hA : Hid (∀ b, b < 4294967296 → D.atKey (kl b) (el 0) = el ((ix st.fr b).getD 0)) := fun b hb => (hD b hb).1
  have hk : occ st.fr ≤ 64 := by have := occ_le st.fr; have := hg.n2; omega
  obtain ⟨-, -, c2, -⟩ := h.cells
  generalize occ st.fr = k at *
  have HL : Hid ((dirtyL st).length ≤ 12) := by
    have : (dirtyL st).length ≤ (List.range st.ls.length).length := List.length_filter_le _ _
    rw [List.length_range] at this
    exact Nat.le_trans this hl
  have HH := Lib.hid h
  have HG := Lib.hid hg
  have HO := Lib.hid hown
  have HZ := Lib.hid hsz
  have HK := Lib.hid hk
  clear h hg hl hown hsz hD hk
  go_enter Try.func20, Try.ntmps20
  go_wp2_with (first
    | (go_at_call 49; refine cM.out.mono ?_; rintro e w' ⟨rfl, rfl⟩)
    | (at_range; refine wpList_range_own _ rfl _ 78 rfl 23 3 keyed Try.underlying78 _ mp k _ rfl HO.out ?_; intro w0 hrg0 hg0 hs0))
  go_frame
  have H0 : Hid (DR W w0 st mp k D (Maps.has D) (Maps.size D) none 0 []) := by
    refine ⟨hrg0, VO.nil _ _ _, List.nodup_nil, fun b => ?_, by rw [HZ.out]; simp, fun _ => rfl, ⟨hg0.os, hg0.tape, hg0.output, hg0.size, fun i hi => hg0.block i hi (by simp)⟩⟩
    simp
    intro _ e
    simp [e]
  clear hrg0 hg0 hs0 c2
  go_loopg [3] (Maps.size D) (fun gk bv wr => ∃ (left : Lit → Bool) (A : Option Addr) (m c : Nat) (L : List Nat), bv = .slice A m c ∧ Hid (L.length = m) ∧ Hid (DR W wr st mp k D left gk A c L))
  case atStart => exact ⟨_, none, 0, 0, [], rfl, rfl, H0⟩
  case round =>
    obtain ⟨left, A, m, c, L, rfl, HLN, HR⟩ := hrel
    clear H0
    go_upto_region 5 with fail
    go_upto_region 6 with (at_next; refine wpList_next_ranges_ii _ rfl _ rfl 23 3 .u32 .i64 keyed Try.underlying23 Try.underlying3 mp W.heap.size k _ _ _ rfl HR.out.rg ?_ ?_)
    · intro h0 hl0
      have HP := Lib.hid (HR.out.done hl0 hW.out HG.out)
      have hm : m ≤ 12 := by
        have := HP.out.length_eq
        rw [HLN.out] at this
        rw [this]; exact HL.out
      have cS := Lib.hid (Sort_vo HR.out.vo HLN.out hm (fun e => HR.out.nil (HLN.out.trans e)))
      have HB := Lib.hid HR.out.bl
      have HLT := Lib.hid HR.out.lt
      have HAT := Lib.hid HR.out.vo.at_
      clear HR hl0 h0
      go_wp2_with (go_at_call 51; refine cS.out.mono ?_; rintro e w2 ⟨rfl, L', hv, hp, hs, hi⟩)
      have e1 : L' = dirtyL st := srt_unique (hp.trans HP.out) hs (srt_dirty st)
      subst e1
      have e2 : m = (dirtyL st).length := by rw [← HLN.out]; exact HP.out.length_eq
      rw [e2]
      go_ret
      refine ⟨⟨A, c, rfl, UL.of_vo hv, fun a ha => Nat.le_of_succ_le (hv.at_ a ha).1⟩, ?_⟩
      have hi2 := hi (match A with | some a => [a.block] | none => []) (fun a ha => by subst ha; simp)
      refine HB.out.trans ⟨hi2.os, hi2.tape, hi2.output, hi2.size, fun i hi' => hi2.block i (Nat.lt_trans hi' HLT.out) fun hm => ?_⟩
      cases A with
      | none => cases hm
      | some a =>
        obtain rfl : i = a.block := by simpa using hm
        have := (HAT.out a rfl).1
        omega
    · intro x z w1 cnt1 hwx hwz hlx hat hrg1 hlt hg1 hs1 hen
      obtain ⟨b, rfl, hb⟩ : ∃ b : Nat, x = (b : Int) ∧ b < 4294967296 := by
        have h1 : IntKind.u32.min = 0 := rfl
        have h2 : IntKind.u32.max = 4294967295 := rfl
        simp only [Lit.wf, Bool.and_eq_true, decide_eq_true_eq] at hwx
        exact ⟨x.toNat, by omega, by omega⟩
      have hh : Maps.has D (kl b) = true := Maps.has_true_of_atKey hat
      have hix := hW.out b hb
      rw [hh] at hix
      obtain ⟨j, hj⟩ := Option.isSome_iff_exists.1 hix.symm
      have hz := hA.out b hb
      rw [hj] at hz
      have hz2 := (hat (el 0)).symm.trans hz
      obtain rfl : z = (j : Int) := by simpa [el] using hz2
      obtain ⟨f, hf, hfb⟩ := ix_some hj
      subst hfb
      have hlk := look_at HG.out.uq hf
      obtain ⟨b, y, d, n⟩ := f
      have hd : dirtyP st b = d := by
        unfold dirtyP
        simp only at hlk
        rw [hlk]
      have h1 := HH.out.kept (grown_below HR.out.bl hg1 (Nat.le_refl _) HR.out.bl.size)
      obtain ⟨-, c1, -, -⟩ := h1.cells
      obtain ⟨-, -, d2, -⟩ := h1.fw.cell hf
      simp only [f2] at d2
      have hjl := lt_of_get hf
      obtain ⟨N, hN⟩ : ∃ N, N = st.fr.length := ⟨_, rfl⟩
      rw [← hN] at c1 hjl
      have HB := Lib.hid (And.intro hb (And.intro hh hlx))
      have HR1 := Lib.hid (And.intro hrg1 (And.intro hlt hg1))
      have HD := Lib.hid hd
      clear hwx hwz hlx hat hrg1 hlt hg1 hs1 hh hix hj hz hz2 hf hlk hd h1 hN
      cases d with
      | false =>
        have hnew := Lib.hid (HR.out.skip HB.out.1 HB.out.2.2 HR1.out.1 HR1.out.2.1 HR1.out.2.2 HD.out)
        have hlt := HR1.out.2.1
        clear HR HR1 HB
        go_wp2_with fail
        go_roundg cnt1
        case measure => omega
        case rel => exact ⟨_, A, m, c, L, rfl, HLN, hnew⟩
      | true =>
        have HX : Hid (Below w1.heap.size w1 (w1.alloc (.cells #[.int .u32 (b : Int)] 23))) := (Below.refl _ _).alloc (Nat.le_refl _) _
        have hcl : Hid ((w1.alloc (.cells #[.int .u32 (b : Int)] 23)).cell? ⟨w1.heap.size, 0, none⟩ = some (.int .u32 (b : Int))) := by unfold Hid; simp
        simp only at HB HR1 hen
        have HVO : Hid (VO 23 (w1.alloc (.cells #[.int .u32 (b : Int)] 23)) (W.heap.size + 1) A c (L.map u32V)) := by
          have hv1 : VO 23 w1 (W.heap.size + 1) A c (L.map u32V) := HR.out.vo.keep fun a ha => by
            obtain ⟨g1, g2⟩ := HR.out.vo.at_ a ha
            exact HR1.out.2.2.block _ g2 (by simp; omega)
          exact hv1.kept HX.out
        have HM2 : Hid ((L.map u32V).length = m) := by unfold Hid; rw [List.length_map, HLN.out]
        have hm65 : m + 1 ≤ 1048576 := by have := HR.out.bd; have := HLN.out; have := HK.out; omega
        have hBx : W.heap.size + 1 ≤ (w1.alloc (.cells #[.int .u32 (b : Int)] 23)).heap.size := by
          have h1 := HR.out.lt
          have h2 := HR1.out.2.2.size
          have h3 := HX.out.size
          omega
        go_wp2_with (with_reducible refine wpList_append_one rfl (.tmp 27) (.tmp 29) _ rfl 23 Try.underlying37 (.int .u32 0) 4 u32info rfl (by omega) (W.heap.size + 1) A m c (L.map u32V) rfl HM2.out HVO.out w1.heap.size 1 (.int .u32 (b : Int)) rfl hcl.out rfl hm65 hBx ?_; intro A' c' w3 hd3)
        have hnew := Lib.hid (HR.out.more HB.out.1 HB.out.2.1 HB.out.2.2 HR1.out.1 HR1.out.2.1 HR1.out.2.2 HD.out hd3.out)
        have hlt := HR1.out.2.1
        have HLN' : Hid ((L ++ [b]).length = m + 1) := by unfold Hid; rw [List.length_append, HLN.out]; rfl
        clear HR HR1 HB
        go_roundg cnt1
        case measure => omega
        case rel => exact ⟨_, A', m + 1, c', L ++ [b], rfl, HLN', hnew⟩
theorem CDirty {w : World} {F : List Nat} {p g : Nat} {st : St} (h : Cw w F p g st) (hl : st.ls.length ≤ 12) : Calls Try.prog 20 #[.pointer (some ⟨p, 0, none⟩)] w fun e w' => (∃ A c, e = .returned (.slice A (dirtyL st).length c) ∧ UL w' A (dirtyL st) ∧ ∀ a, A = some a → w.heap.size ≤ a.block) ∧ Below w.heap.size w w' := by
  obtain ⟨S, fb, mp, ch, cb, qk, h1, h2, h3, h4, h5, h6⟩ := h
  exact Dirty_w h1 h5 hl
end Ca
end Go.Proofs.Ytjnbdmimflhhiaa
