/-
  CacheDoc12 CacheDoc13 CacheDoc14 CacheDoc15 CacheDoc16 CacheRel CacheRel2 CacheWant CacheWants CacheApart, in one text. Written by merge.py.
-/
import Derived.Test.YtjnbdmimflhhiaaCacheDocA
import Derived.Test.YtjnbdmimflhhiaaCacheCur

namespace Go.Proofs.Ytjnbdmimflhhiaa
open Go.RowKit
namespace Ca
open Mem Dv Cn Po

/-- a cache of the document's, cell by cell -/
structure Raw (w : World) (t : Dt) (zm zr zs zo : Int) (h nl hc N c nr d : Nat) (A B : Option Addr) : Prop where
  dl : DL w t h hc A c B
  em : (t.m : Int) = zm
  er : (t.r : Int) = zr
  es : (t.s : Int) = zs
  eo : (t.most : Int) = zo
  en : t.ls.length = nl
  eN : t.L.length = N
  enr : t.row.length = nr
theorem box_kept {w w' : World} {b : Nat} {o : Obj} (h : w.heap[b]? = some o) (hb : Below w.heap.size w w') : w'.heap[b]? = some o := (hb.block b (Array.getElem?_eq_some_iff.1 h).1).trans h
theorem box_into {w w' : World} {b : Nat} {o : Obj} {T : List Nat} (h : w.heap[b]? = some o) (hi : Flow.Into T w w') (hn : b ∉ T) : w'.heap[b]? = some o := (hi.block b (Array.getElem?_eq_some_iff.1 h).1 hn).trans h
theorem box_lt {w : World} {b : Nat} {o : Obj} (h : w.heap[b]? = some o) : b < w.heap.size := (Array.getElem?_eq_some_iff.1 h).1
theorem bel_call {W w w' : World} (h : Below W.heap.size W w) (hb : Below w.heap.size w w') : Below W.heap.size W w' := h.trans (hb.mono h.size)
theorem bel_into {W w w' : World} {b : Nat} (h : Below W.heap.size W w) (hi : Flow.Into [b] w w') (hb : W.heap.size ≤ b) : Below W.heap.size W w' := h.trans (below_in hi hb h.size)
section
variable {w w' : World} {t : Dt} {zm zr zs zo : Int} {h nl hc N c nr d : Nat} {A B : Option Addr}
theorem Raw.of (d : Nat) (H : DL w t h hc A c B) : Raw w t t.m t.r t.s t.most h t.ls.length hc t.L.length c t.row.length d A B := ⟨H, rfl, rfl, rfl, rfl, rfl, rfl, rfl⟩
theorem Raw.val (H : Raw w t zm zr zs zo h nl hc N c nr d A B) : dvV t h hc A c B d = .agg #[.int .i64 zm, .slice (some ⟨h, 0, none⟩) nl hc, .int .i64 zr, .int .i64 zs, .slice A N c, .int .i64 zo, .slice B nr d] := by
  obtain ⟨_, rfl, rfl, rfl, rfl, rfl, rfl, rfl⟩ := H
  rfl
theorem Raw.res {v : Value} (H : DRes w t v) : ∃ (zm zr zs zo : Int) (h nl hc N c nr d : Nat) (A B : Option Addr), v = .agg #[.int .i64 zm, .slice (some ⟨h, 0, none⟩) nl hc, .int .i64 zr, .int .i64 zs, .slice A N c, .int .i64 zo, .slice B nr d] ∧ Raw w t zm zr zs zo h nl hc N c nr d A B := by
  obtain ⟨h, hc, A, c, B, d, rfl, hd⟩ := H
  exact ⟨_, _, _, _, h, _, hc, _, c, _, d, A, B, rfl, Raw.of d hd⟩
theorem Raw.to (H : Raw w t zm zr zs zo h nl hc N c nr d A B) : DRes w t (.agg #[.int .i64 zm, .slice (some ⟨h, 0, none⟩) nl hc, .int .i64 zr, .int .i64 zs, .slice A N c, .int .i64 zo, .slice B nr d]) := ⟨h, hc, A, c, B, d, H.val.symm, H.dl⟩
theorem Raw.kept (H : Raw w t zm zr zs zo h nl hc N c nr d A B) (hb : Below w.heap.size w w') : Raw w' t zm zr zs zo h nl hc N c nr d A B := ⟨H.dl.kept hb, H.em, H.er, H.es, H.eo, H.en, H.eN, H.enr⟩
theorem Raw.lN (H : Raw w t zm zr zs zo h nl hc N c nr d A B) : N ≤ 100 := by rw [← H.eN]; exact H.dl.l0
theorem Raw.lr (H : Raw w t zm zr zs zo h nl hc N c nr d A B) : nr ≤ 100 := by rw [← H.enr]; exact H.dl.r0
theorem Raw.ll (H : Raw w t zm zr zs zo h nl hc N c nr d A B) : nl ≤ 65536 := by rw [← H.en]; exact H.dl.rf.hi
/-- a box of a cache, or of a frame, lies in none of the lists -/
theorem UL.ne_box {R : List Nat} {b : Nat} {v : Value} {x : Array Value} {U : TypeId} {z : Nat × Nat} (H : UL w B R) (h0 : 0 < R.length) (hx : w.heap[b]? = some (.cells x U z)) (h1 : x[0]? = some v) (hv : ∀ i : Int, v ≠ .int .u32 i) : ∃ g, B = some ⟨g, 0, none⟩ ∧ g ≠ b := by
  obtain ⟨g, rfl, _, hc⟩ := H h0
  refine ⟨g, rfl, ?_⟩
  rintro rfl
  have := hc 0 h0
  simp only [World.cell?, hx, h1, Option.isSome_none, Bool.false_eq_true, if_false, Option.some.injEq] at this
  exact hv _ this
theorem UL.keep {R : List Nat} (H : UL w B R) (hs : w.heap.size ≤ w'.heap.size) (hk : 0 < R.length → ∀ a, B = some a → w'.heap[a.block]? = w.heap[a.block]?) : UL w' B R := fun h0 => by
  obtain ⟨g, rfl, hl, hc⟩ := H h0
  refine ⟨g, rfl, Nat.lt_of_lt_of_le hl hs, fun i hi => ?_⟩
  rw [← hc i hi]
  exact World.cell?_of_block (w := w) (a := ⟨g, i, none⟩) (hk h0 ⟨g, 0, none⟩ rfl)
theorem UT.keep {R : List Nat} (H : UT w B R) (hs : w.heap.size ≤ w'.heap.size) (hk : 0 < R.length → ∀ a, B = some a → w'.heap[a.block]? = w.heap[a.block]?) : UT w' B R :=
  ⟨UL.keep H.ul hs hk, fun h0 a ha => by
    obtain ⟨C, z, hc⟩ := H.ty h0 a ha
    exact ⟨C, z, (hk h0 a ha).trans hc⟩⟩
theorem V4.ne_box {b : Nat} {L : List Fr} {x : Array Value} {U : TypeId} {z : Nat × Nat} (H : V4 w 0 A c L) (hx : w.heap[b]? = some (.cells x U z)) (hU : U ≠ 94) : ∀ a, A = some a → a.block ≠ b := by
  rintro a rfl rfl
  obtain ⟨_, h2⟩ := H
  rcases h2 with ⟨h2, _⟩ | ⟨g, cap, cur, he, _, hh, _⟩
  · cases h2
  obtain ⟨rfl, _⟩ : a = ⟨g, 0, none⟩ ∧ c = cap := by simpa using he
  rw [hh] at hx
  injection hx with hx
  injection hx with _ e _
  exact hU e.symm
theorem Rf.ne_box {b n : Nat} {ls : List (List UInt8)} {x : Array Value} {U : TypeId} {z : Nat × Nat} (H : Rf w h c n ls) (hx : w.heap[b]? = some (.cells x U z)) (hU : U ≠ 9) : h ≠ b := by
  rintro rfl
  obtain ⟨_, h2⟩ := H.ow
  rcases h2 with ⟨h2, _⟩ | ⟨g, cap, cur, he, _, hh, _⟩
  · cases h2
  obtain ⟨rfl, _⟩ : h = g ∧ c = cap := by simpa using he
  rw [hh] at hx
  injection hx with hx
  injection hx with _ e _
  exact hU e.symm
theorem Raw.box {b : Nat} {zq : Int} {x : Array Value} {z : Nat × Nat} (H : Raw w t zm zr zs zo h nl hc N c nr d A B) (hi : Flow.Into [b] w w') (hx : w.heap[b]? = some (.cells x 39 z)) (h1 : x[0]? = some (.int .i64 zq)) : Raw w' t zm zr zs zo h nl hc N c nr d A B := by
  refine ⟨⟨H.dl.rf.into hi ?_, H.dl.v4.into hi fun a ha => ?_, UT.keep H.dl.ul hi.size fun h0 a ha => ?_, H.dl.l0, H.dl.r0⟩, H.em, H.er, H.es, H.eo, H.en, H.eN, H.enr⟩
  · simpa using Rf.ne_box H.dl.rf hx (by decide)
  · simpa using V4.ne_box H.dl.v4 hx (by decide) a ha
  · obtain ⟨g, e, hg⟩ := UL.ne_box H.dl.ul.ul h0 hx h1 (fun i e => by cases e)
    rw [e] at ha
    obtain rfl := Option.some.inj ha
    obtain ⟨g', e', hl, _⟩ := H.dl.ul.ul h0
    rw [e] at e'
    obtain rfl : g = g' := by simpa using e'
    exact hi.block _ hl (by simpa using hg)
/-- a block that was laid behind it is in none of the lists -/
def Apart (t : Dt) (A B : Option Addr) (b : Nat) : Prop := (∀ a, A = some a → a.block ≠ b) ∧ (0 < t.row.length → ∀ a, B = some a → a.block ≠ b)
theorem Raw.apart {b : Nat} (H : Raw w t zm zr zs zo h nl hc N c nr d A B) (hb : w.heap.size ≤ b) : Apart t A B b := by
  refine ⟨fun a ha => ?_, fun h0 a ha => ?_⟩
  · have := (H.dl.v4.at_ a ha).2
    omega
  · obtain ⟨g', e', hl, _⟩ := H.dl.ul.ul h0
    rw [e'] at ha
    obtain rfl := Option.some.inj ha
    show g' ≠ b
    omega
/-- a store into a frame's box -/
theorem Raw.boxF {b : Nat} {x : Array Value} {z : Nat × Nat} (H : Raw w t zm zr zs zo h nl hc N c nr d A B) (hi : Flow.Into [b] w w') (hx : w.heap[b]? = some (.cells x 94 z)) (hp : Apart t A B b) : Raw w' t zm zr zs zo h nl hc N c nr d A B := by
  refine ⟨⟨H.dl.rf.into hi ?_, H.dl.v4.into hi fun a ha => ?_, UT.keep H.dl.ul hi.size fun h0 a ha => ?_, H.dl.l0, H.dl.r0⟩, H.em, H.er, H.es, H.eo, H.en, H.eN, H.enr⟩
  · simpa using Rf.ne_box H.dl.rf hx (by decide)
  · simpa using hp.1 a ha
  · obtain ⟨g', e', hl, _⟩ := H.dl.ul.ul h0
    have := hp.2 h0 a ha
    rw [e'] at ha
    obtain rfl := Option.some.inj ha
    exact hi.block _ hl (by simpa using this)
/-- a store into a box behind which none of the lists lies -/
theorem Raw.far {b B0 : Nat} (H : Raw w t zm zr zs zo h nl hc N c nr d A B) (hi : Flow.Into [b] w w') (hb : B0 ≤ b) (h1 : h < B0) (h2 : ∀ a, A = some a → a.block < B0) (h3 : 0 < t.row.length → ∀ a, B = some a → a.block < B0) : Raw w' t zm zr zs zo h nl hc N c nr d A B := by
  refine ⟨⟨H.dl.rf.into hi (by simp; omega), H.dl.v4.into hi fun a ha => ?_, UT.keep H.dl.ul hi.size fun h0 a ha => ?_, H.dl.l0, H.dl.r0⟩, H.em, H.er, H.es, H.eo, H.en, H.eN, H.enr⟩
  · have := h2 a ha
    simp; omega
  · obtain ⟨g', e', hl, _⟩ := H.dl.ul.ul h0
    have := h3 h0 a ha
    rw [e'] at ha
    obtain rfl := Option.some.inj ha
    exact hi.block _ hl (by simp; show ¬ g' = b; have : g' < B0 := this; omega)
/-- a store into a new box: all the lists were there before it -/
theorem Raw.new {w0 : World} {b : Nat} (H0 : Raw w0 t zm zr zs zo h nl hc N c nr d A B) (hb : w0.heap.size ≤ b) (H : Raw w t zm zr zs zo h nl hc N c nr d A B) (hi : Flow.Into [b] w w') : Raw w' t zm zr zs zo h nl hc N c nr d A B :=
  H.far hi hb H0.dl.rf.lt (fun a ha => (H0.dl.v4.at_ a ha).2) fun h0 a ha => by
    obtain ⟨g', e', hl, _⟩ := H0.dl.ul.ul h0
    rw [e'] at ha
    obtain rfl := Option.some.inj ha
    exact hl
theorem Raw.rows (H : Raw w t zm zr zs zo h nl hc N c nr d A B) {B2 : Option Addr} {n2 d2 : Nat} {R : List Nat} (hu : UT w B2 R) (hn : R.length = n2) (hl : R.length ≤ 100) : Raw w { t with row := R } zm zr zs zo h nl hc N c n2 d2 A B2 := ⟨⟨H.dl.rf, H.dl.v4, hu, H.dl.l0, hl⟩, H.em, H.er, H.es, H.eo, H.en, H.eN, hn⟩
theorem Raw.frames (H : Raw w t zm zr zs zo h nl hc N c nr d A B) {A2 : Option Addr} {N2 c2 : Nat} {L : List Fr} (hv : V4 w 0 A2 c2 L) (hn : L.length = N2) (hl : L.length ≤ 100) : Raw w { t with L := L } zm zr zs zo h nl hc N2 c2 nr d A2 B := ⟨⟨H.dl.rf, hv, H.dl.ul, hl, H.dl.r0⟩, H.em, H.er, H.es, H.eo, H.en, hn, H.enr⟩
theorem Raw.device (H : Raw w t zm zr zs zo h nl hc N c nr d A B) {h2 hc2 r2 s2 : Nat} {yr ys : Int} {ls : List (List UInt8)} (hf : Rf w h2 hc2 ls.length ls) (hn : ls.length = nl) (hr : (r2 : Int) = yr) (hs : (s2 : Int) = ys) : Raw w { t with ls := ls, r := r2, s := s2 } zm yr ys zo h2 nl hc2 N c nr d A B := ⟨⟨hf, H.dl.v4, H.dl.ul, H.dl.l0, H.dl.r0⟩, H.em, hr, hs, H.eo, hn, H.eN, H.enr⟩
/-! ### the calls -/
theorem RcFind (H : Raw w t zm zr zs zo h nl hc N c nr d A B) (b : Nat) {z : Int} (hz : fZ t.L b = z) : Calls Try.prog 50 #[.agg #[.int .i64 zm, .slice (some ⟨h, 0, none⟩) nl hc, .int .i64 zr, .int .i64 zs, .slice A N c, .int .i64 zo, .slice B nr d], .int .u32 (b : Int)] w fun e w' => e = .returned (.int .i64 z) ∧ Below w.heap.size w w' := by
  rw [← H.val, ← hz]
  exact Find_any H.dl b
theorem RcWo (H : Raw w t zm zr zs zo h nl hc N c nr d A B) (b : Nat) : Calls Try.prog 73 #[.slice B nr d, .int .u32 (b : Int)] w fun e w' => (∃ B2 n2 d2, e = .returned (.slice B2 n2 d2) ∧ Raw w' { t with row := woD t.row b } zm zr zs zo h nl hc N c n2 d2 A B2) ∧ Below w.heap.size w w' := by
  rw [← H.enr]
  refine (without_any H.dl.ul H.dl.r0 b).mono fun e w' he => ?_
  obtain ⟨⟨A', c', rfl, hv⟩, hb⟩ := he
  exact ⟨⟨A', _, c', rfl, (H.kept hb).rows (UT.of_vo hv) rfl (Nat.le_trans (woD_le _ _) H.dl.r0)⟩, hb⟩
theorem RcWith (H : Raw w t zm zr zs zo h nl hc N c nr d A B) (f : Fr) {zp : Int} (hp : (f.2.2.2 : Int) = zp) {sx : ByteArray} (hs : strOf f.2.1 = sx) {dy : Bool} (hd : f.2.2.1 = dy) (hl : (withD t.L f).length ≤ 100) : Calls Try.prog 74 #[.agg #[.int .i64 zm, .slice (some ⟨h, 0, none⟩) nl hc, .int .i64 zr, .int .i64 zs, .slice A N c, .int .i64 zo, .slice B nr d], .agg #[.int .u32 (f.1 : Int), .string sx, .bool dy, .int .i64 zp]] w fun e w' => (∃ A2 N2 c2, e = .returned (.agg #[.int .i64 zm, .slice (some ⟨h, 0, none⟩) nl hc, .int .i64 zr, .int .i64 zs, .slice A2 N2 c2, .int .i64 zo, .slice B nr d]) ∧ Raw w' { t with L := withD t.L f } zm zr zs zo h nl hc N2 c2 nr d A2 B) ∧ Below w.heap.size w w' := by
  have hc := with_any H.dl f (d := d)
  rw [H.val] at hc
  subst hp hs hd
  refine hc.mono fun e w' he => ?_
  obtain ⟨⟨A', c', rfl, hv⟩, hb⟩ := he
  have H2 := (H.kept hb).frames (hv.mono (Nat.zero_le _)) rfl hl
  exact ⟨⟨A', _, c', by rw [← H2.val], H2⟩, hb⟩
theorem RcDRead (H : Raw w t zm zr zs zo h nl hc N c nr d A B) {b : Nat} {x : List UInt8} (hx : t.ls[b]? = some x) (hr : t.r ≤ 1000000) : Calls Try.prog 76 #[.agg #[.int .i64 zm, .slice (some ⟨h, 0, none⟩) nl hc, .int .i64 zr, .int .i64 zs], .int .u32 (b : Int)] w fun e w' => e = .returned (.tuple #[.agg #[.int .i64 zm, .slice (some ⟨h, 0, none⟩) nl hc, .int .i64 (zr + 1), .int .i64 zs], .string (strOf x), .int .i64 0]) ∧ Raw w' { t with r := t.r + 1 } zm (zr + 1) zs zo h nl hc N c nr d A B ∧ Below w.heap.size w w' := by
  obtain ⟨hd, rfl, rfl, rfl, rfl, rfl, rfl, rfl⟩ := H
  refine (RRead_in t.m t.ls.length hc b h t.r t.s t.ls x w hd.rf hx hr).mono fun e w' he => ?_
  obtain ⟨rfl, hb⟩ := he
  exact ⟨rfl, ⟨⟨hd.rf.kept hb, hd.v4.kept hb, hd.ul.kept hb, hd.l0, hd.r0⟩, rfl, by simp, rfl, rfl, rfl, rfl, rfl⟩, hb⟩
theorem RcDWrite (H : Raw w t zm zr zs zo h nl hc N c nr d A B) {b : Nat} {x : List UInt8} (hb : b < t.ls.length) (hx : x.length = t.m) (hs : t.s ≤ 1000000) : Calls Try.prog 78 #[.agg #[.int .i64 zm, .slice (some ⟨h, 0, none⟩) nl hc, .int .i64 zr, .int .i64 zs], .int .u32 (b : Int), .string (strOf x)] w fun e w' => (∃ h2 c2, e = .returned (.tuple #[.agg #[.int .i64 zm, .slice (some ⟨h2, 0, none⟩) nl c2, .int .i64 zr, .int .i64 (zs + 1)], .int .i64 0]) ∧ Raw w' { t with ls := t.ls.set b x, s := t.s + 1 } zm zr (zs + 1) zo h2 nl c2 N c nr d A B) ∧ Below w.heap.size w w' := by
  obtain ⟨hd, rfl, rfl, rfl, rfl, rfl, rfl, rfl⟩ := H
  refine (RWrite_in t.m t.ls.length hc b h t.r t.s t.ls x w hd.rf hb hx hs).mono fun e w' he => ?_
  obtain ⟨⟨h2, c2, rfl, hf, _⟩, hb⟩ := he
  exact ⟨⟨h2, c2, rfl, ⟨⟨by simpa using hf, hd.v4.kept hb, hd.ul.kept hb, hd.l0, hd.r0⟩, rfl, rfl, by simp, rfl, by simp, rfl, rfl⟩⟩, hb⟩
end
end Ca
end Go.Proofs.Ytjnbdmimflhhiaa

namespace Go.Proofs.Ytjnbdmimflhhiaa
open Go.RowKit
namespace Ca
open Mem Dv Cn Po

set_option maxRecDepth 100000 in
set_option maxHeartbeats 2000000 in
theorem DPin_out {W : World} {t : Dt} {zm zr zs zo : Int} {h nl hc N c nr d : Nat} {A B : Option Addr} (H : Raw W t zm zr zs zo h nl hc N c nr d A B) {b : Nat} (hb : nl ≤ b) (hb2 : b < 4294967296) : Calls Try.prog 36 #[.agg #[.int .i64 zm, .slice (some ⟨h, 0, none⟩) nl hc, .int .i64 zr, .int .i64 zs, .slice A N c, .int .i64 zo, .slice B nr d], .int .u32 (b : Int)] W fun e w' => (∃ v, e = .returned (.tuple #[v, .int .i64 4]) ∧ DRes w' t v) ∧ Below W.heap.size W w' := by
  have hq : decide (b < nl) = false := by simp; omega
  have HNl := Lib.hid H.lN
  have hNl := H.lN
  have hnl := H.ll
  have hnr := H.lr
  go_enter Try.func36, Try.ntmps36
  go_upto_region 1 with fail
  obtain ⟨hb2, hx0, hx1, hs⟩ := two_allocs W (.cells #[.int .i64 zm, .slice (some ⟨h, 0, none⟩) nl hc, .int .i64 zr, .int .i64 zs, .slice A N c, .int .i64 zo, .slice B nr d] 39) (.cells #[.int .i64 0, .slice none 0 0, .int .i64 0, .int .i64 0, .slice none 0 0, .int .i64 0, .slice none 0 0] 39)
  generalize (W.alloc (.cells #[.int .i64 zm, .slice (some ⟨h, 0, none⟩) nl hc, .int .i64 zr, .int .i64 zs, .slice A N c, .int .i64 zo, .slice B nr d] 39)).alloc (.cells #[.int .i64 0, .slice none 0 0, .int .i64 0, .int .i64 0, .slice none 0 0, .int .i64 0, .slice none 0 0] 39) = w1 at *
  have HR0 := Lib.hid H
  have HR1 := Lib.hid (H.kept hb2)
  obtain ⟨b0, hb0⟩ : ∃ b0, b0 = W.heap.size := ⟨_, rfl⟩
  rw [← hb0] at hx0 hx1 hs ⊢
  have HW := Lib.hid hb0
  have HB1 := Lib.hid hb2
  have HY01 := Lib.hid hx0
  have HY11 := Lib.hid hx1
  clear hx0 hx1 hs hb2 hb0 H
  obtain ⟨q0, q1, q2, q3, q4, q5, q6⟩ := box7 HY01.out
  obtain ⟨u0, u1, u2, u3, u4, u5, u6⟩ := box7 HY11.out
  have f0 := free7 HY11.out 0
  have f1 := free7 HY11.out 1
  have f2 := free7 HY11.out 2
  have f3 := free7 HY11.out 3
  have f4 := free7 HY11.out 4
  have f5 := free7 HY11.out 5
  have f6 := free7 HY11.out 6
  go_wp2_with fail
  have g7 := set7_at HY11.out (.int .i64 zm) (.slice (some ⟨h, 0, none⟩) nl hc) (.int .i64 zr) (.int .i64 zs) (.slice A N c) (.int .i64 zo) (.slice B nr d)
  have i7 := set7_into w1 (b0 + 1) (.int .i64 zm) (.slice (some ⟨h, 0, none⟩) nl hc) (.int .i64 zr) (.int .i64 zs) (.slice A N c) (.int .i64 zo) (.slice B nr d)
  unfold set7 at g7 i7
  generalize ((((((w1.setCell ⟨b0 + 1, 0, none⟩ (.int .i64 zm)).setCell ⟨b0 + 1, 1, none⟩ (.slice (some ⟨h, 0, none⟩) nl hc)).setCell ⟨b0 + 1, 2, none⟩ (.int .i64 zr)).setCell ⟨b0 + 1, 3, none⟩ (.int .i64 zs)).setCell ⟨b0 + 1, 4, none⟩ (.slice A N c)).setCell ⟨b0 + 1, 5, none⟩ (.int .i64 zo)).setCell ⟨b0 + 1, 6, none⟩ (.slice B nr d) = w2 at *
  have hr7 := Raw.box HR1.out i7 HY11.out rfl
  have hb7 := bel_into HB1.out i7 (by have := HW.out; omega)
  obtain ⟨o0, o1, o2, o3, o4, o5, o6⟩ := box7 g7
  exact bodyPost_ret (v := .tuple #[.agg #[.int .i64 zm, .slice (some ⟨h, 0, none⟩) nl hc, .int .i64 zr, .int .i64 zs, .slice A N c, .int .i64 zo, .slice B nr d], .int .i64 4]) (by simp [results, Try.results36, go_sem, o0, o1, o2, o3, o4, o5, o6]) rfl ⟨⟨_, rfl, hr7.to⟩, hb7⟩
set_option maxRecDepth 100000 in
set_option maxHeartbeats 2000000 in
theorem DPin_have {W : World} {t : Dt} {zm zr zs zo : Int} {h nl hc N c nr d : Nat} {A B : Option Addr} (H : Raw W t zm zr zs zo h nl hc N c nr d A B) {b k : Nat} {f : Fr} (hb : b < nl) (hb2 : b < 4294967296) (hk : fk t.L b = some k) (hf : t.L[k]? = some f) (hp : f.2.2.2 ≤ 1000000) : Calls Try.prog 36 #[.agg #[.int .i64 zm, .slice (some ⟨h, 0, none⟩) nl hc, .int .i64 zr, .int .i64 zs, .slice A N c, .int .i64 zo, .slice B nr d], .int .u32 (b : Int)] W fun e w' => (∃ v, e = .returned (.tuple #[v, .int .i64 0]) ∧ DRes w' { t with row := woD t.row b, L := withD t.L (f.1, f.2.1, f.2.2.1, f.2.2.2 + 1) } v) ∧ Below W.heap.size W w' := by
  have hz := fZ_some hk
  have hkN : k < N := by rw [← H.eN]; exact lt_of_get hf
  have HF := Lib.hid hf
  have HL : Hid ((withD t.L (f.1, f.2.1, f.2.2.1, f.2.2.2 + 1)).length ≤ 100) := Nat.le_trans (withD_le (x := (f.1, f.2.1, f.2.2.1, f.2.2.2 + 1)) hf rfl) H.dl.l0
  have hq0 : decide (k < 0) = false := by simp
  clear hk hf
  have HNl := Lib.hid H.lN
  have hNl := H.lN
  have hnl := H.ll
  have hnr := H.lr
  go_enter Try.func36, Try.ntmps36
  go_upto_region 1 with fail
  obtain ⟨hb2, hx0, hx1, hs⟩ := two_allocs W (.cells #[.int .i64 zm, .slice (some ⟨h, 0, none⟩) nl hc, .int .i64 zr, .int .i64 zs, .slice A N c, .int .i64 zo, .slice B nr d] 39) (.cells #[.int .i64 0, .slice none 0 0, .int .i64 0, .int .i64 0, .slice none 0 0, .int .i64 0, .slice none 0 0] 39)
  generalize (W.alloc (.cells #[.int .i64 zm, .slice (some ⟨h, 0, none⟩) nl hc, .int .i64 zr, .int .i64 zs, .slice A N c, .int .i64 zo, .slice B nr d] 39)).alloc (.cells #[.int .i64 0, .slice none 0 0, .int .i64 0, .int .i64 0, .slice none 0 0, .int .i64 0, .slice none 0 0] 39) = w1 at *
  have HR0 := Lib.hid H
  have HR1 := Lib.hid (H.kept hb2)
  obtain ⟨b0, hb0⟩ : ∃ b0, b0 = W.heap.size := ⟨_, rfl⟩
  rw [← hb0] at hx0 hx1 hs ⊢
  have HW := Lib.hid hb0
  have HB1 := Lib.hid hb2
  have HY01 := Lib.hid hx0
  have HY11 := Lib.hid hx1
  clear hx0 hx1 hs hb2 hb0 H
  obtain ⟨q0, q1, q2, q3, q4, q5, q6⟩ := box7 HY01.out
  have c1 := Lib.hid (RcFind HR1.out b hz)
  go_wp2_with fail
  refine c1.out.mono ?_
  rintro e w2 ⟨rfl, hb3⟩
  clear c1 q0 q1 q2 q3 q4 q5 q6
  have HY02 := Lib.hid (box_kept HY01.out hb3)
  have HY13 := Lib.hid (box_kept HY11.out hb3)
  have HR4 := Lib.hid (Raw.kept HR1.out hb3)
  have HB5 := Lib.hid (bel_call HB1.out hb3)
  clear HY01 HY11 HR1 HB1 hb3
  obtain ⟨q0, q1, q2, q3, q4, q5, q6⟩ := box7 HY02.out
  obtain ⟨g, hg, e0, e1, e2, e3⟩ := HR4.out.dl.v4.cell HF.out
  subst hg
  go_upto_region 6 with fail
  have hx : Below w2.heap.size w2 (w2.alloc (.cells #[.int .u32 (f.1 : Int), .string (strOf f.2.1), .bool f.2.2.1, .int .i64 (f.2.2.2 : Int)] 94)) := (Below.refl _ _).alloc (Nat.le_refl _) _
  have hs := heap_alloc_new w2 (.cells #[.int .u32 (f.1 : Int), .string (strOf f.2.1), .bool f.2.2.1, .int .i64 (f.2.2.2 : Int)] 94)
  obtain ⟨s, es⟩ : ∃ s, s = w2.heap.size := ⟨_, rfl⟩
  generalize w2.alloc (.cells #[.int .u32 (f.1 : Int), .string (strOf f.2.1), .bool f.2.2.1, .int .i64 (f.2.2.2 : Int)] 94) = w3 at *
  rw [← es] at hs ⊢
  have HSB : Hid (b0 + 2 ≤ s) := by rw [es]; exact box_lt HY13.out
  have HSE := Lib.hid es
  have HS6 := Lib.hid (hs)
  have HY07 := Lib.hid (box_kept HY02.out hx)
  have HY18 := Lib.hid (box_kept HY13.out hx)
  have HR9 := Lib.hid (Raw.kept HR4.out hx)
  have HB10 := Lib.hid (bel_call HB5.out hx)
  obtain ⟨r0, r1, r2, r3⟩ := boxf hs
  have f3 := free7 hs 3
  clear hs hx es q0 q1 q2 q3 q4 q5 q6 e0 e1 e2 e3
  go_upto_region 7 with fail
  have i4 := into_setCell w3 ⟨s, 3, none⟩ (.int .i64 ((f.2.2.2 : Int) + 1))
  have hg4 : (w3.setCell ⟨s, 3, none⟩ (.int .i64 ((f.2.2.2 : Int) + 1))).heap[s]? = some (.cells #[.int .u32 (f.1 : Int), .string (strOf f.2.1), .bool f.2.2.1, .int .i64 ((f.2.2.2 : Int) + 1)] 94 (0, 0)) := by
    have := HS6.out
    simp [World.setCell, Array.getElem?_modify, this]
  generalize w3.setCell ⟨s, 3, none⟩ (.int .i64 ((f.2.2.2 : Int) + 1)) = w4 at *
  clear r0 r1 r2 r3 f3
  have HS11 := Lib.hid (hg4)
  have HY012 := Lib.hid (box_into HY07.out i4 (by have := HSB.out; simp; omega))
  have HY113 := Lib.hid (box_into HY18.out i4 (by have := HSB.out; simp; omega))
  have HR14 := Lib.hid (Raw.new HR4.out (Nat.le_of_eq HSE.out.symm) HR9.out i4)
  have HB15 := Lib.hid (bel_into HB10.out i4 (by have := HSB.out; have := HW.out; show W.heap.size ≤ s; omega))
  clear hg4 i4
  obtain ⟨q0, q1, q2, q3, q4, q5, q6⟩ := box7 HY012.out
  have c2 := Lib.hid (RcWo HR14.out b)
  go_wp2_with fail
  refine c2.out.mono ?_
  rintro e w5 ⟨⟨B2, n2, d2, rfl, hr5⟩, hb5⟩
  clear c2 q0 q1 q2 q3 q4 q5 q6
  have HS16 := Lib.hid (box_kept HS11.out hb5)
  have HY017 := Lib.hid (box_kept HY012.out hb5)
  have HY118 := Lib.hid (box_kept HY113.out hb5)
  have HB19 := Lib.hid (bel_call HB15.out hb5)
  clear HS11 HY012 HY113 HB15 hb5
  have HR20 := Lib.hid (hr5)
  clear hr5
  obtain ⟨q0, q1, q2, q3, q4, q5, q6⟩ := box7 HY017.out
  have f6 := free7 HY017.out 6
  go_upto_region 8 with fail
  have i6 := into_setCell w5 ⟨b0, 6, none⟩ (.slice B2 n2 d2)
  have hg6 : (w5.setCell ⟨b0, 6, none⟩ (.slice B2 n2 d2)).heap[b0]? = some (.cells #[.int .i64 zm, .slice (some ⟨h, 0, none⟩) nl hc, .int .i64 zr, .int .i64 zs, .slice (some ⟨g, 0, none⟩) N c, .int .i64 zo, .slice B2 n2 d2] 39 (0, 0)) := by
    have := HY017.out
    simp [World.setCell, Array.getElem?_modify, this]
  generalize w5.setCell ⟨b0, 6, none⟩ (.slice B2 n2 d2) = w6 at *
  clear q0 q1 q2 q3 q4 q5 q6 f6
  have HR21 := Lib.hid (Raw.box HR20.out i6 HY017.out rfl)
  have HY022 := Lib.hid (hg6)
  have HY123 := Lib.hid (box_into HY118.out i6 (by simp))
  have HS24 := Lib.hid (box_into HS16.out i6 (by have := HSB.out; simp; omega))
  have HB25 := Lib.hid (bel_into HB19.out i6 (by have := HW.out; show W.heap.size ≤ b0; omega))
  clear hg6 i6
  obtain ⟨q0, q1, q2, q3, q4, q5, q6⟩ := box7 HY022.out
  obtain ⟨r0, r1, r2, r3⟩ := boxf HS24.out
  have c3 := Lib.hid (RcWith HR21.out (f.1, f.2.1, f.2.2.1, f.2.2.2 + 1) (zp := ((f.2.2.2 : Int) + 1)) (by simp) rfl rfl HL.out)
  go_wp2_with fail
  refine c3.out.mono ?_
  rintro e w7 ⟨⟨A3, N3, k3, rfl, hr7⟩, hb7⟩
  clear c3 q0 q1 q2 q3 q4 q5 q6 r0 r1 r2 r3
  have HY026 := Lib.hid (box_kept HY022.out hb7)
  have HY127 := Lib.hid (box_kept HY123.out hb7)
  have HB28 := Lib.hid (bel_call HB25.out hb7)
  clear HY022 HY123 HB25 hb7
  have HR29 := Lib.hid (hr7)
  clear hr7
  obtain ⟨u0, u1, u2, u3, u4, u5, u6⟩ := box7 HY127.out
  have f0 := free7 HY127.out 0
  have f1 := free7 HY127.out 1
  have f2 := free7 HY127.out 2
  have f3 := free7 HY127.out 3
  have f4 := free7 HY127.out 4
  have f5 := free7 HY127.out 5
  have f6 := free7 HY127.out 6
  go_wp2_with fail
  have g7 := set7_at HY127.out (.int .i64 zm) (.slice (some ⟨h, 0, none⟩) nl hc) (.int .i64 zr) (.int .i64 zs) (.slice A3 N3 k3) (.int .i64 zo) (.slice B2 n2 d2)
  have i7 := set7_into w7 (b0 + 1) (.int .i64 zm) (.slice (some ⟨h, 0, none⟩) nl hc) (.int .i64 zr) (.int .i64 zs) (.slice A3 N3 k3) (.int .i64 zo) (.slice B2 n2 d2)
  unfold set7 at g7 i7
  generalize ((((((w7.setCell ⟨b0 + 1, 0, none⟩ (.int .i64 zm)).setCell ⟨b0 + 1, 1, none⟩ (.slice (some ⟨h, 0, none⟩) nl hc)).setCell ⟨b0 + 1, 2, none⟩ (.int .i64 zr)).setCell ⟨b0 + 1, 3, none⟩ (.int .i64 zs)).setCell ⟨b0 + 1, 4, none⟩ (.slice A3 N3 k3)).setCell ⟨b0 + 1, 5, none⟩ (.int .i64 zo)).setCell ⟨b0 + 1, 6, none⟩ (.slice B2 n2 d2) = w30 at *
  have hr7 := Raw.box HR29.out i7 HY127.out rfl
  have hb7 := bel_into HB28.out i7 (by have := HW.out; omega)
  obtain ⟨o0, o1, o2, o3, o4, o5, o6⟩ := box7 g7
  exact bodyPost_ret (v := .tuple #[.agg #[.int .i64 zm, .slice (some ⟨h, 0, none⟩) nl hc, .int .i64 zr, .int .i64 zs, .slice A3 N3 k3, .int .i64 zo, .slice B2 n2 d2], .int .i64 0]) (by simp [results, Try.results36, go_sem, o0, o1, o2, o3, o4, o5, o6]) rfl ⟨⟨_, rfl, hr7.to⟩, hb7⟩
set_option maxRecDepth 100000 in
set_option maxHeartbeats 2000000 in
theorem DPin_full {W : World} {t : Dt} {zm zr zs zo : Int} {h nl hc N c nr d : Nat} {A B : Option Addr} (H : Raw W t zm zr zs zo h nl hc N c nr d A B) {b : Nat} (hb : b < nl) (hb2 : b < 4294967296) (hk : fk t.L b = none) (hr : ∀ w, Below W.heap.size W w → Hid (Calls Try.prog 75 #[.agg #[.int .i64 zm, .slice (some ⟨h, 0, none⟩) nl hc, .int .i64 zr, .int .i64 zs, .slice A N c, .int .i64 zo, .slice B nr d]] w fun e w' => e = .returned (.tuple #[.agg #[.int .i64 zm, .slice (some ⟨h, 0, none⟩) nl hc, .int .i64 zr, .int .i64 zs, .slice A N c, .int .i64 zo, .slice B nr d], .bool false]) ∧ Below w.heap.size w w')) : Calls Try.prog 36 #[.agg #[.int .i64 zm, .slice (some ⟨h, 0, none⟩) nl hc, .int .i64 zr, .int .i64 zs, .slice A N c, .int .i64 zo, .slice B nr d], .int .u32 (b : Int)] W fun e w' => (∃ v, e = .returned (.tuple #[v, .int .i64 7]) ∧ DRes w' t v) ∧ Below W.heap.size W w' := by
  have hz := fZ_none hk
  have hq0 : decide ((0 : Int) ≤ -1) = false := by decide
  clear hk
  have HNl := Lib.hid H.lN
  have hNl := H.lN
  have hnl := H.ll
  have hnr := H.lr
  go_enter Try.func36, Try.ntmps36
  go_upto_region 1 with fail
  obtain ⟨hb2, hx0, hx1, hs⟩ := two_allocs W (.cells #[.int .i64 zm, .slice (some ⟨h, 0, none⟩) nl hc, .int .i64 zr, .int .i64 zs, .slice A N c, .int .i64 zo, .slice B nr d] 39) (.cells #[.int .i64 0, .slice none 0 0, .int .i64 0, .int .i64 0, .slice none 0 0, .int .i64 0, .slice none 0 0] 39)
  generalize (W.alloc (.cells #[.int .i64 zm, .slice (some ⟨h, 0, none⟩) nl hc, .int .i64 zr, .int .i64 zs, .slice A N c, .int .i64 zo, .slice B nr d] 39)).alloc (.cells #[.int .i64 0, .slice none 0 0, .int .i64 0, .int .i64 0, .slice none 0 0, .int .i64 0, .slice none 0 0] 39) = w1 at *
  have HR0 := Lib.hid H
  have HR1 := Lib.hid (H.kept hb2)
  obtain ⟨b0, hb0⟩ : ∃ b0, b0 = W.heap.size := ⟨_, rfl⟩
  rw [← hb0] at hx0 hx1 hs ⊢
  have HW := Lib.hid hb0
  have HB1 := Lib.hid hb2
  have HY01 := Lib.hid hx0
  have HY11 := Lib.hid hx1
  clear hx0 hx1 hs hb2 hb0 H
  obtain ⟨q0, q1, q2, q3, q4, q5, q6⟩ := box7 HY01.out
  have c1 := Lib.hid (RcFind HR1.out b hz)
  go_wp2_with fail
  refine c1.out.mono ?_
  rintro e w2 ⟨rfl, hb3⟩
  clear c1 q0 q1 q2 q3 q4 q5 q6
  have HY02 := Lib.hid (box_kept HY01.out hb3)
  have HY13 := Lib.hid (box_kept HY11.out hb3)
  have HR4 := Lib.hid (Raw.kept HR1.out hb3)
  have HB5 := Lib.hid (bel_call HB1.out hb3)
  clear HY01 HY11 HR1 HB1 hb3
  obtain ⟨q0, q1, q2, q3, q4, q5, q6⟩ := box7 HY02.out
  have c2 := Lib.hid ((hr _ HB5.out).out)
  go_wp2_with fail
  refine c2.out.mono ?_
  rintro e w3 ⟨rfl, hb4⟩
  clear c2 q0 q1 q2 q3 q4 q5 q6
  have HY06 := Lib.hid (box_kept HY02.out hb4)
  have HY17 := Lib.hid (box_kept HY13.out hb4)
  have HR8 := Lib.hid (Raw.kept HR4.out hb4)
  have HB9 := Lib.hid (bel_call HB5.out hb4)
  clear HY02 HY13 HR4 HB5 hb4
  clear hr
  obtain ⟨q0, q1, q2, q3, q4, q5, q6⟩ := box7 HY06.out
  have f0 := free7 HY06.out 0
  have f1 := free7 HY06.out 1
  have f2 := free7 HY06.out 2
  have f3 := free7 HY06.out 3
  have f4 := free7 HY06.out 4
  have f5 := free7 HY06.out 5
  have f6 := free7 HY06.out 6
  go_upto_region 10 with fail
  have i6 := set7_into w3 b0 (.int .i64 zm) (.slice (some ⟨h, 0, none⟩) nl hc) (.int .i64 zr) (.int .i64 zs) (.slice A N c) (.int .i64 zo) (.slice B nr d)
  have hg6 := set7_at HY06.out (.int .i64 zm) (.slice (some ⟨h, 0, none⟩) nl hc) (.int .i64 zr) (.int .i64 zs) (.slice A N c) (.int .i64 zo) (.slice B nr d)
  unfold set7 at i6 hg6
  generalize ((((((w3.setCell ⟨b0, 0, none⟩ (.int .i64 zm)).setCell ⟨b0, 1, none⟩ (.slice (some ⟨h, 0, none⟩) nl hc)).setCell ⟨b0, 2, none⟩ (.int .i64 zr)).setCell ⟨b0, 3, none⟩ (.int .i64 zs)).setCell ⟨b0, 4, none⟩ (.slice A N c)).setCell ⟨b0, 5, none⟩ (.int .i64 zo)).setCell ⟨b0, 6, none⟩ (.slice B nr d) = w4 at *
  have HR10 := Lib.hid (Raw.box HR8.out i6 HY06.out rfl)
  have HY011 := Lib.hid (hg6)
  have HY112 := Lib.hid (box_into HY17.out i6 (by simp))
  have HB13 := Lib.hid (bel_into HB9.out i6 (by have := HW.out; omega))
  clear hg6 i6
  clear q0 q1 q2 q3 q4 q5 q6 f0 f1 f2 f3 f4 f5 f6
  obtain ⟨q0, q1, q2, q3, q4, q5, q6⟩ := box7 HY011.out
  obtain ⟨u0, u1, u2, u3, u4, u5, u6⟩ := box7 HY112.out
  have f0 := free7 HY112.out 0
  have f1 := free7 HY112.out 1
  have f2 := free7 HY112.out 2
  have f3 := free7 HY112.out 3
  have f4 := free7 HY112.out 4
  have f5 := free7 HY112.out 5
  have f6 := free7 HY112.out 6
  go_wp2_with fail
  have g7 := set7_at HY112.out (.int .i64 zm) (.slice (some ⟨h, 0, none⟩) nl hc) (.int .i64 zr) (.int .i64 zs) (.slice A N c) (.int .i64 zo) (.slice B nr d)
  have i7 := set7_into w4 (b0 + 1) (.int .i64 zm) (.slice (some ⟨h, 0, none⟩) nl hc) (.int .i64 zr) (.int .i64 zs) (.slice A N c) (.int .i64 zo) (.slice B nr d)
  unfold set7 at g7 i7
  generalize ((((((w4.setCell ⟨b0 + 1, 0, none⟩ (.int .i64 zm)).setCell ⟨b0 + 1, 1, none⟩ (.slice (some ⟨h, 0, none⟩) nl hc)).setCell ⟨b0 + 1, 2, none⟩ (.int .i64 zr)).setCell ⟨b0 + 1, 3, none⟩ (.int .i64 zs)).setCell ⟨b0 + 1, 4, none⟩ (.slice A N c)).setCell ⟨b0 + 1, 5, none⟩ (.int .i64 zo)).setCell ⟨b0 + 1, 6, none⟩ (.slice B nr d) = w14 at *
  have hr7 := Raw.box HR10.out i7 HY112.out rfl
  have hb7 := bel_into HB13.out i7 (by have := HW.out; omega)
  obtain ⟨o0, o1, o2, o3, o4, o5, o6⟩ := box7 g7
  exact bodyPost_ret (v := .tuple #[.agg #[.int .i64 zm, .slice (some ⟨h, 0, none⟩) nl hc, .int .i64 zr, .int .i64 zs, .slice A N c, .int .i64 zo, .slice B nr d], .int .i64 7]) (by simp [results, Try.results36, go_sem, o0, o1, o2, o3, o4, o5, o6]) rfl ⟨⟨_, rfl, hr7.to⟩, hb7⟩
set_option maxRecDepth 100000 in
set_option maxHeartbeats 2000000 in
theorem DPin_new {W : World} {t : Dt} {zm zr zs zo : Int} {h nl hc N c nr d : Nat} {A B : Option Addr} (H : Raw W t zm zr zs zo h nl hc N c nr d A B) {t2 : Dt} {b : Nat} {x : List UInt8} (hb : b < nl) (hb2 : b < 4294967296) (hk : fk t.L b = none) (hx : t2.ls[b]? = some x) (h2r : t2.r ≤ 1000000) (h2l : (withD t2.L (b, x, false, 1)).length ≤ 100) (hr : ∀ w, Below W.heap.size W w → Hid (Calls Try.prog 75 #[.agg #[.int .i64 zm, .slice (some ⟨h, 0, none⟩) nl hc, .int .i64 zr, .int .i64 zs, .slice A N c, .int .i64 zo, .slice B nr d]] w fun e w' => (∃ v, e = .returned (.tuple #[v, .bool true]) ∧ DRes w' t2 v) ∧ Below w.heap.size w w')) : Calls Try.prog 36 #[.agg #[.int .i64 zm, .slice (some ⟨h, 0, none⟩) nl hc, .int .i64 zr, .int .i64 zs, .slice A N c, .int .i64 zo, .slice B nr d], .int .u32 (b : Int)] W fun e w' => (∃ v, e = .returned (.tuple #[v, .int .i64 0]) ∧ DRes w' { t2 with r := t2.r + 1, L := withD t2.L (b, x, false, 1) } v) ∧ Below W.heap.size W w' := by
  have hz := fZ_none hk
  have hq0 : decide ((0 : Int) ≤ -1) = false := by decide
  have HL := Lib.hid h2l
  have HXX := Lib.hid hx
  clear hk hx h2l
  have HNl := Lib.hid H.lN
  have hNl := H.lN
  have hnl := H.ll
  have hnr := H.lr
  go_enter Try.func36, Try.ntmps36
  go_upto_region 1 with fail
  obtain ⟨hb2, hx0, hx1, hs⟩ := two_allocs W (.cells #[.int .i64 zm, .slice (some ⟨h, 0, none⟩) nl hc, .int .i64 zr, .int .i64 zs, .slice A N c, .int .i64 zo, .slice B nr d] 39) (.cells #[.int .i64 0, .slice none 0 0, .int .i64 0, .int .i64 0, .slice none 0 0, .int .i64 0, .slice none 0 0] 39)
  generalize (W.alloc (.cells #[.int .i64 zm, .slice (some ⟨h, 0, none⟩) nl hc, .int .i64 zr, .int .i64 zs, .slice A N c, .int .i64 zo, .slice B nr d] 39)).alloc (.cells #[.int .i64 0, .slice none 0 0, .int .i64 0, .int .i64 0, .slice none 0 0, .int .i64 0, .slice none 0 0] 39) = w1 at *
  have HR0 := Lib.hid H
  have HR1 := Lib.hid (H.kept hb2)
  obtain ⟨b0, hb0⟩ : ∃ b0, b0 = W.heap.size := ⟨_, rfl⟩
  rw [← hb0] at hx0 hx1 hs ⊢
  have HW := Lib.hid hb0
  have HB1 := Lib.hid hb2
  have HY01 := Lib.hid hx0
  have HY11 := Lib.hid hx1
  clear hx0 hx1 hs hb2 hb0 H
  obtain ⟨q0, q1, q2, q3, q4, q5, q6⟩ := box7 HY01.out
  have c1 := Lib.hid (RcFind HR1.out b hz)
  go_wp2_with fail
  refine c1.out.mono ?_
  rintro e w2 ⟨rfl, hb3⟩
  clear c1 q0 q1 q2 q3 q4 q5 q6
  have HY02 := Lib.hid (box_kept HY01.out hb3)
  have HY13 := Lib.hid (box_kept HY11.out hb3)
  have HR4 := Lib.hid (Raw.kept HR1.out hb3)
  have HB5 := Lib.hid (bel_call HB1.out hb3)
  clear HY01 HY11 HR1 HB1 hb3
  obtain ⟨q0, q1, q2, q3, q4, q5, q6⟩ := box7 HY02.out
  have c2 := hr _ HB5.out
  clear hr
  go_wp2_with fail
  refine c2.out.mono ?_
  rintro e w3 ⟨⟨v, rfl, hv⟩, hb4⟩
  obtain ⟨zm2, zr2, zs2, zo2, h2, nl2, hc2, N2, k2, nr2, d2, A2, B2, rfl, hr3⟩ := Raw.res hv
  clear c2 hv q0 q1 q2 q3 q4 q5 q6
  have HY06 := Lib.hid (box_kept HY02.out hb4)
  have HY17 := Lib.hid (box_kept HY13.out hb4)
  have HB8 := Lib.hid (bel_call HB5.out hb4)
  clear HR4
  have HR9 := Lib.hid (hr3)
  clear hr3 hb4
  obtain ⟨q0, q1, q2, q3, q4, q5, q6⟩ := box7 HY06.out
  have f0 := free7 HY06.out 0
  have f1 := free7 HY06.out 1
  have f2 := free7 HY06.out 2
  have f3 := free7 HY06.out 3
  have f4 := free7 HY06.out 4
  have f5 := free7 HY06.out 5
  have f6 := free7 HY06.out 6
  go_upto_region 10 with fail
  have i6 := set7_into w3 b0 (.int .i64 zm2) (.slice (some ⟨h2, 0, none⟩) nl2 hc2) (.int .i64 zr2) (.int .i64 zs2) (.slice A2 N2 k2) (.int .i64 zo2) (.slice B2 nr2 d2)
  have hg6 := set7_at HY06.out (.int .i64 zm2) (.slice (some ⟨h2, 0, none⟩) nl2 hc2) (.int .i64 zr2) (.int .i64 zs2) (.slice A2 N2 k2) (.int .i64 zo2) (.slice B2 nr2 d2)
  unfold set7 at i6 hg6
  generalize ((((((w3.setCell ⟨b0, 0, none⟩ (.int .i64 zm2)).setCell ⟨b0, 1, none⟩ (.slice (some ⟨h2, 0, none⟩) nl2 hc2)).setCell ⟨b0, 2, none⟩ (.int .i64 zr2)).setCell ⟨b0, 3, none⟩ (.int .i64 zs2)).setCell ⟨b0, 4, none⟩ (.slice A2 N2 k2)).setCell ⟨b0, 5, none⟩ (.int .i64 zo2)).setCell ⟨b0, 6, none⟩ (.slice B2 nr2 d2) = w4 at *
  have HR10 := Lib.hid (Raw.box HR9.out i6 HY06.out rfl)
  have HY011 := Lib.hid (hg6)
  have HY112 := Lib.hid (box_into HY17.out i6 (by simp))
  have HB13 := Lib.hid (bel_into HB8.out i6 (by have := HW.out; omega))
  clear hg6 i6
  clear q0 q1 q2 q3 q4 q5 q6 f0 f1 f2 f3 f4 f5 f6
  obtain ⟨q0, q1, q2, q3, q4, q5, q6⟩ := box7 HY011.out
  have c3 := Lib.hid (RcDRead HR10.out HXX.out h2r)
  go_wp2_with fail
  refine c3.out.mono ?_
  rintro e w5 ⟨rfl, hr5, hb5⟩
  clear c3 q0 q1 q2 q3 q4 q5 q6
  have HY014 := Lib.hid (box_kept HY011.out hb5)
  have HY115 := Lib.hid (box_kept HY112.out hb5)
  have HB16 := Lib.hid (bel_call HB13.out hb5)
  clear HR10
  have HR17 := Lib.hid (hr5)
  clear hr5 hb5
  go_upto_region 13 with fail
  have hx := heap_alloc_new w5 (.cells #[.int .i64 zm2, .slice (some ⟨h2, 0, none⟩) nl2 hc2, .int .i64 (zr2 + 1), .int .i64 zs2] 34)
  have hb6 : Below w5.heap.size w5 (w5.alloc (.cells #[.int .i64 zm2, .slice (some ⟨h2, 0, none⟩) nl2 hc2, .int .i64 (zr2 + 1), .int .i64 zs2] 34)) := (Below.refl _ _).alloc (Nat.le_refl _) _
  obtain ⟨s, es⟩ : ∃ s, s = w5.heap.size := ⟨_, rfl⟩
  generalize w5.alloc (.cells #[.int .i64 zm2, .slice (some ⟨h2, 0, none⟩) nl2 hc2, .int .i64 (zr2 + 1), .int .i64 zs2] 34) = w6 at *
  rw [← es] at hx ⊢
  have HSB : Hid (b0 + 2 ≤ s) := by rw [es]; exact box_lt HY115.out
  have HS18 := Lib.hid (hx)
  have HY019 := Lib.hid (box_kept HY014.out hb6)
  have HY120 := Lib.hid (box_kept HY115.out hb6)
  have HR21 := Lib.hid (Raw.kept HR17.out hb6)
  have HB22 := Lib.hid (bel_call HB16.out hb6)
  obtain ⟨r0, r1, r2, r3⟩ := boxf hx
  clear hx hb6 es
  obtain ⟨q0, q1, q2, q3, q4, q5, q6⟩ := box7 HY019.out
  have f0 := free7 HY019.out 0
  have f1 := free7 HY019.out 1
  have f2 := free7 HY019.out 2
  have f3 := free7 HY019.out 3
  go_upto_region 14 with fail
  clear r0 r1 r2 r3 f0 f1 f2 f3 q0 q1 q2 q3 q4 q5 q6
  have i6 := set4_into w6 b0 (.int .i64 zm2) (.slice (some ⟨h2, 0, none⟩) nl2 hc2) (.int .i64 (zr2 + 1)) (.int .i64 zs2)
  have hg6 : (set4 w6 b0 (.int .i64 zm2) (.slice (some ⟨h2, 0, none⟩) nl2 hc2) (.int .i64 (zr2 + 1)) (.int .i64 zs2)).heap[b0]? = some (.cells #[.int .i64 zm2, .slice (some ⟨h2, 0, none⟩) nl2 hc2, .int .i64 (zr2 + 1), .int .i64 zs2, .slice A2 N2 k2, .int .i64 zo2, .slice B2 nr2 d2] 39 (0, 0)) := by
    have := HY019.out
    unfold set4
    simp [World.setCell, Array.getElem?_modify, this]
  unfold set4 at i6 hg6
  generalize (((w6.setCell ⟨b0, 0, none⟩ (.int .i64 zm2)).setCell ⟨b0, 1, none⟩ (.slice (some ⟨h2, 0, none⟩) nl2 hc2)).setCell ⟨b0, 2, none⟩ (.int .i64 (zr2 + 1))).setCell ⟨b0, 3, none⟩ (.int .i64 zs2) = w7 at *
  have HR23 := Lib.hid (Raw.box HR21.out i6 HY019.out rfl)
  have HY024 := Lib.hid (hg6)
  have HY125 := Lib.hid (box_into HY120.out i6 (by simp))
  have HS26 := Lib.hid (box_into HS18.out i6 (by have := HSB.out; simp; omega))
  have HB27 := Lib.hid (bel_into HB22.out i6 (by have := HW.out; omega))
  clear hg6 i6
  obtain ⟨q0, q1, q2, q3, q4, q5, q6⟩ := box7 HY024.out
  have c4 := Lib.hid (RcWith HR23.out (b, x, false, 1) (zp := 1) rfl rfl rfl HL.out)
  go_wp2_with fail
  refine c4.out.mono ?_
  rintro e w8 ⟨⟨A3, N3, k3, rfl, hr8⟩, hb8⟩
  clear c4 q0 q1 q2 q3 q4 q5 q6
  have HY028 := Lib.hid (box_kept HY024.out hb8)
  have HY129 := Lib.hid (box_kept HY125.out hb8)
  have HB30 := Lib.hid (bel_call HB27.out hb8)
  clear HY024 HY125 HB27 hb8
  have HR31 := Lib.hid (hr8)
  clear hr8
  obtain ⟨u0, u1, u2, u3, u4, u5, u6⟩ := box7 HY129.out
  have f0 := free7 HY129.out 0
  have f1 := free7 HY129.out 1
  have f2 := free7 HY129.out 2
  have f3 := free7 HY129.out 3
  have f4 := free7 HY129.out 4
  have f5 := free7 HY129.out 5
  have f6 := free7 HY129.out 6
  go_wp2_with fail
  have g7 := set7_at HY129.out (.int .i64 zm2) (.slice (some ⟨h2, 0, none⟩) nl2 hc2) (.int .i64 (zr2 + 1)) (.int .i64 zs2) (.slice A3 N3 k3) (.int .i64 zo2) (.slice B2 nr2 d2)
  have i7 := set7_into w8 (b0 + 1) (.int .i64 zm2) (.slice (some ⟨h2, 0, none⟩) nl2 hc2) (.int .i64 (zr2 + 1)) (.int .i64 zs2) (.slice A3 N3 k3) (.int .i64 zo2) (.slice B2 nr2 d2)
  unfold set7 at g7 i7
  generalize ((((((w8.setCell ⟨b0 + 1, 0, none⟩ (.int .i64 zm2)).setCell ⟨b0 + 1, 1, none⟩ (.slice (some ⟨h2, 0, none⟩) nl2 hc2)).setCell ⟨b0 + 1, 2, none⟩ (.int .i64 (zr2 + 1))).setCell ⟨b0 + 1, 3, none⟩ (.int .i64 zs2)).setCell ⟨b0 + 1, 4, none⟩ (.slice A3 N3 k3)).setCell ⟨b0 + 1, 5, none⟩ (.int .i64 zo2)).setCell ⟨b0 + 1, 6, none⟩ (.slice B2 nr2 d2) = w32 at *
  have hr7 := Raw.box HR31.out i7 HY129.out rfl
  have hb7 := bel_into HB30.out i7 (by have := HW.out; omega)
  obtain ⟨o0, o1, o2, o3, o4, o5, o6⟩ := box7 g7
  exact bodyPost_ret (v := .tuple #[.agg #[.int .i64 zm2, .slice (some ⟨h2, 0, none⟩) nl2 hc2, .int .i64 (zr2 + 1), .int .i64 zs2, .slice A3 N3 k3, .int .i64 zo2, .slice B2 nr2 d2], .int .i64 0]) (by simp [results, Try.results36, go_sem, o0, o1, o2, o3, o4, o5, o6]) rfl ⟨⟨_, rfl, hr7.to⟩, hb7⟩
end Ca
end Go.Proofs.Ytjnbdmimflhhiaa

namespace Go.Proofs.Ytjnbdmimflhhiaa
open Go.RowKit
namespace Ca
open Mem Dv Cn Po

/-- what the last step of Fresh answers -/
def EvWith (t : Dt) (zm zr zs zo : Int) (h nl hc nr d : Nat) (B : Option Addr) (v : Value) (w : World) : Prop := ∃ (A : Option Addr) (N c : Nat), v = .agg #[.int .i64 zm, .slice (some ⟨h, 0, none⟩) nl hc, .int .i64 zr, .int .i64 zs, .slice A N c, .int .i64 zo, .slice B nr d] ∧ Raw w t zm zr zs zo h nl hc N c nr d A B
/-- bytes that are 0 -/
def zeros (m : Nat) : List UInt8 := List.replicate m 0
theorem zeros_text {m g : Nat} {w : World} (h : w.heap[g]? = some (.cells (Array.replicate m (Value.int .u8 0)) 5 (0, 0))) : (convert 42 9 (.slice (some ⟨g, 0, none⟩) m m)).run Try.prog w = .ok (.string (strOf (zeros m))) w := by
  have hr : Row 5 w g (zeros m) := by
    unfold Row zeros
    simpa [bytesV, byteV] using h
  exact run_text_n Try.underlying42 Try.underlying5 Try.underlying9 hr.bl (by simp [zeros]) m
set_option maxRecDepth 100000 in
set_option maxHeartbeats 2000000 in
theorem DFresh_out {W : World} {t : Dt} {zm zr zs zo : Int} {h nl hc N c nr d : Nat} {A B : Option Addr} (H : Raw W t zm zr zs zo h nl hc N c nr d A B) {b : Nat} (hb : nl ≤ b) (hb2 : b < 4294967296) : Calls Try.prog 37 #[.agg #[.int .i64 zm, .slice (some ⟨h, 0, none⟩) nl hc, .int .i64 zr, .int .i64 zs, .slice A N c, .int .i64 zo, .slice B nr d], .int .u32 (b : Int)] W fun e w' => (∃ v, e = .returned (.tuple #[v, .int .i64 4]) ∧ DRes w' t v) ∧ Below W.heap.size W w' := by
  have hq : decide (b < nl) = false := by simp; omega
  have HNl := Lib.hid H.lN
  have hNl := H.lN
  have hnl := H.ll
  have hnr := H.lr
  go_enter Try.func37, Try.ntmps37
  go_upto_region 1 with fail
  obtain ⟨hb2, hx0, hx1, hs⟩ := two_allocs W (.cells #[.int .i64 zm, .slice (some ⟨h, 0, none⟩) nl hc, .int .i64 zr, .int .i64 zs, .slice A N c, .int .i64 zo, .slice B nr d] 39) (.cells #[.int .i64 0, .slice none 0 0, .int .i64 0, .int .i64 0, .slice none 0 0, .int .i64 0, .slice none 0 0] 39)
  generalize (W.alloc (.cells #[.int .i64 zm, .slice (some ⟨h, 0, none⟩) nl hc, .int .i64 zr, .int .i64 zs, .slice A N c, .int .i64 zo, .slice B nr d] 39)).alloc (.cells #[.int .i64 0, .slice none 0 0, .int .i64 0, .int .i64 0, .slice none 0 0, .int .i64 0, .slice none 0 0] 39) = w1 at *
  have HR0 := Lib.hid H
  have HR1 := Lib.hid (H.kept hb2)
  obtain ⟨b0, hb0⟩ : ∃ b0, b0 = W.heap.size := ⟨_, rfl⟩
  rw [← hb0] at hx0 hx1 hs ⊢
  have HW := Lib.hid hb0
  have HB1 := Lib.hid hb2
  have HY01 := Lib.hid hx0
  have HY11 := Lib.hid hx1
  clear hx0 hx1 hs hb2 hb0 H
  obtain ⟨q0, q1, q2, q3, q4, q5, q6⟩ := box7 HY01.out
  obtain ⟨u0, u1, u2, u3, u4, u5, u6⟩ := box7 HY11.out
  have f0 := free7 HY11.out 0
  have f1 := free7 HY11.out 1
  have f2 := free7 HY11.out 2
  have f3 := free7 HY11.out 3
  have f4 := free7 HY11.out 4
  have f5 := free7 HY11.out 5
  have f6 := free7 HY11.out 6
  go_wp2_with fail
  have g7 := set7_at HY11.out (.int .i64 zm) (.slice (some ⟨h, 0, none⟩) nl hc) (.int .i64 zr) (.int .i64 zs) (.slice A N c) (.int .i64 zo) (.slice B nr d)
  have i7 := set7_into w1 (b0 + 1) (.int .i64 zm) (.slice (some ⟨h, 0, none⟩) nl hc) (.int .i64 zr) (.int .i64 zs) (.slice A N c) (.int .i64 zo) (.slice B nr d)
  unfold set7 at g7 i7
  generalize ((((((w1.setCell ⟨b0 + 1, 0, none⟩ (.int .i64 zm)).setCell ⟨b0 + 1, 1, none⟩ (.slice (some ⟨h, 0, none⟩) nl hc)).setCell ⟨b0 + 1, 2, none⟩ (.int .i64 zr)).setCell ⟨b0 + 1, 3, none⟩ (.int .i64 zs)).setCell ⟨b0 + 1, 4, none⟩ (.slice A N c)).setCell ⟨b0 + 1, 5, none⟩ (.int .i64 zo)).setCell ⟨b0 + 1, 6, none⟩ (.slice B nr d) = w2 at *
  have hr7 := Raw.box HR1.out i7 HY11.out rfl
  have hb7 := bel_into HB1.out i7 (by have := HW.out; omega)
  obtain ⟨o0, o1, o2, o3, o4, o5, o6⟩ := box7 g7
  exact bodyPost_ret (v := .tuple #[.agg #[.int .i64 zm, .slice (some ⟨h, 0, none⟩) nl hc, .int .i64 zr, .int .i64 zs, .slice A N c, .int .i64 zo, .slice B nr d], .int .i64 4]) (by simp [results, Try.results37, go_sem, o0, o1, o2, o3, o4, o5, o6]) rfl ⟨⟨_, rfl, hr7.to⟩, hb7⟩
set_option maxRecDepth 100000 in
set_option maxHeartbeats 2000000 in
theorem DFresh_pinned {W : World} {t : Dt} {zm zr zs zo : Int} {h nl hc N c nr d : Nat} {A B : Option Addr} (H : Raw W t zm zr zs zo h nl hc N c nr d A B) {b k : Nat} {f : Fr} (hb : b < nl) (hb2 : b < 4294967296) (hk : fk t.L b = some k) (hf : t.L[k]? = some f) (hp : 0 < f.2.2.2) : Calls Try.prog 37 #[.agg #[.int .i64 zm, .slice (some ⟨h, 0, none⟩) nl hc, .int .i64 zr, .int .i64 zs, .slice A N c, .int .i64 zo, .slice B nr d], .int .u32 (b : Int)] W fun e w' => (∃ v, e = .returned (.tuple #[v, .int .i64 8]) ∧ DRes w' t v) ∧ Below W.heap.size W w' := by
  have hz := fZ_some hk
  have hkN : k < N := by rw [← H.eN]; exact lt_of_get hf
  have HF := Lib.hid hf
  have hq0 : decide (k < 0) = false := by simp
  have hq1 : decide (0 < f.2.2.2) = true := by simpa using hp
  clear hk hf
  have HNl := Lib.hid H.lN
  have hNl := H.lN
  have hnl := H.ll
  have hnr := H.lr
  go_enter Try.func37, Try.ntmps37
  go_upto_region 1 with fail
  obtain ⟨hb2, hx0, hx1, hs⟩ := two_allocs W (.cells #[.int .i64 zm, .slice (some ⟨h, 0, none⟩) nl hc, .int .i64 zr, .int .i64 zs, .slice A N c, .int .i64 zo, .slice B nr d] 39) (.cells #[.int .i64 0, .slice none 0 0, .int .i64 0, .int .i64 0, .slice none 0 0, .int .i64 0, .slice none 0 0] 39)
  generalize (W.alloc (.cells #[.int .i64 zm, .slice (some ⟨h, 0, none⟩) nl hc, .int .i64 zr, .int .i64 zs, .slice A N c, .int .i64 zo, .slice B nr d] 39)).alloc (.cells #[.int .i64 0, .slice none 0 0, .int .i64 0, .int .i64 0, .slice none 0 0, .int .i64 0, .slice none 0 0] 39) = w1 at *
  have HR0 := Lib.hid H
  have HR1 := Lib.hid (H.kept hb2)
  obtain ⟨b0, hb0⟩ : ∃ b0, b0 = W.heap.size := ⟨_, rfl⟩
  rw [← hb0] at hx0 hx1 hs ⊢
  have HW := Lib.hid hb0
  have HB1 := Lib.hid hb2
  have HY01 := Lib.hid hx0
  have HY11 := Lib.hid hx1
  clear hx0 hx1 hs hb2 hb0 H
  obtain ⟨q0, q1, q2, q3, q4, q5, q6⟩ := box7 HY01.out
  have c1 := Lib.hid (RcFind HR1.out b hz)
  go_wp2_with fail
  refine c1.out.mono ?_
  rintro e w2 ⟨rfl, hb3⟩
  clear c1 q0 q1 q2 q3 q4 q5 q6
  have HY02 := Lib.hid (box_kept HY01.out hb3)
  have HY13 := Lib.hid (box_kept HY11.out hb3)
  have HR4 := Lib.hid (Raw.kept HR1.out hb3)
  have HB5 := Lib.hid (bel_call HB1.out hb3)
  clear HY01 HY11 HR1 HB1 hb3
  obtain ⟨g, hg, e0, e1, e2, e3⟩ := HR4.out.dl.v4.cell HF.out
  subst hg
  obtain ⟨q0, q1, q2, q3, q4, q5, q6⟩ := box7 HY02.out
  obtain ⟨u0, u1, u2, u3, u4, u5, u6⟩ := box7 HY13.out
  have f0 := free7 HY13.out 0
  have f1 := free7 HY13.out 1
  have f2 := free7 HY13.out 2
  have f3 := free7 HY13.out 3
  have f4 := free7 HY13.out 4
  have f5 := free7 HY13.out 5
  have f6 := free7 HY13.out 6
  go_wp2_with fail
  have g7 := set7_at HY13.out (.int .i64 zm) (.slice (some ⟨h, 0, none⟩) nl hc) (.int .i64 zr) (.int .i64 zs) (.slice (some ⟨g, 0, none⟩) N c) (.int .i64 zo) (.slice B nr d)
  have i7 := set7_into w2 (b0 + 1) (.int .i64 zm) (.slice (some ⟨h, 0, none⟩) nl hc) (.int .i64 zr) (.int .i64 zs) (.slice (some ⟨g, 0, none⟩) N c) (.int .i64 zo) (.slice B nr d)
  unfold set7 at g7 i7
  generalize ((((((w2.setCell ⟨b0 + 1, 0, none⟩ (.int .i64 zm)).setCell ⟨b0 + 1, 1, none⟩ (.slice (some ⟨h, 0, none⟩) nl hc)).setCell ⟨b0 + 1, 2, none⟩ (.int .i64 zr)).setCell ⟨b0 + 1, 3, none⟩ (.int .i64 zs)).setCell ⟨b0 + 1, 4, none⟩ (.slice (some ⟨g, 0, none⟩) N c)).setCell ⟨b0 + 1, 5, none⟩ (.int .i64 zo)).setCell ⟨b0 + 1, 6, none⟩ (.slice B nr d) = w6 at *
  have hr7 := Raw.box HR4.out i7 HY13.out rfl
  have hb7 := bel_into HB5.out i7 (by have := HW.out; omega)
  obtain ⟨o0, o1, o2, o3, o4, o5, o6⟩ := box7 g7
  exact bodyPost_ret (v := .tuple #[.agg #[.int .i64 zm, .slice (some ⟨h, 0, none⟩) nl hc, .int .i64 zr, .int .i64 zs, .slice (some ⟨g, 0, none⟩) N c, .int .i64 zo, .slice B nr d], .int .i64 8]) (by simp [results, Try.results37, go_sem, o0, o1, o2, o3, o4, o5, o6]) rfl ⟨⟨_, rfl, hr7.to⟩, hb7⟩
set_option maxRecDepth 100000 in
set_option maxHeartbeats 2000000 in
theorem DFresh_have {W : World} {t : Dt} {zm zr zs zo : Int} {h nl hc N c nr d : Nat} {A B : Option Addr} (H : Raw W t zm zr zs zo h nl hc N c nr d A B) {b k : Nat} {f : Fr} (hb : b < nl) (hb2 : b < 4294967296) {m : Nat} (hm : t.m = m) (hm2 : m ≤ 65536) (hk : fk t.L b = some k) (hf : t.L[k]? = some f) (hfb : f.1 = b) (hp : f.2.2.2 = 0) : Calls Try.prog 37 #[.agg #[.int .i64 zm, .slice (some ⟨h, 0, none⟩) nl hc, .int .i64 zr, .int .i64 zs, .slice A N c, .int .i64 zo, .slice B nr d], .int .u32 (b : Int)] W fun e w' => (∃ v, e = .returned (.tuple #[v, .int .i64 0]) ∧ DRes w' { t with row := woD t.row b, L := withD t.L (b, zeros m, true, 1) } v) ∧ Below W.heap.size W w' := by
  obtain rfl : zm = (m : Int) := by rw [← hm]; exact H.em.symm
  have hz := fZ_some hk
  have hkN : k < N := by rw [← H.eN]; exact lt_of_get hf
  have HF := Lib.hid hf
  have HL : Hid ((withD t.L (b, zeros m, true, 1)).length ≤ 100) := Nat.le_trans (withD_le (x := (b, zeros m, true, 1)) hf hfb) H.dl.l0
  have hq0 : decide (k < 0) = false := by simp
  clear hk hf hm hfb
  have HNl := Lib.hid H.lN
  have hNl := H.lN
  have hnl := H.ll
  have hnr := H.lr
  go_enter Try.func37, Try.ntmps37
  go_upto_region 1 with fail
  obtain ⟨hb2, hx0, hx1, hs⟩ := two_allocs W (.cells #[.int .i64 (m : Int), .slice (some ⟨h, 0, none⟩) nl hc, .int .i64 zr, .int .i64 zs, .slice A N c, .int .i64 zo, .slice B nr d] 39) (.cells #[.int .i64 0, .slice none 0 0, .int .i64 0, .int .i64 0, .slice none 0 0, .int .i64 0, .slice none 0 0] 39)
  generalize (W.alloc (.cells #[.int .i64 (m : Int), .slice (some ⟨h, 0, none⟩) nl hc, .int .i64 zr, .int .i64 zs, .slice A N c, .int .i64 zo, .slice B nr d] 39)).alloc (.cells #[.int .i64 0, .slice none 0 0, .int .i64 0, .int .i64 0, .slice none 0 0, .int .i64 0, .slice none 0 0] 39) = w1 at *
  have HR0 := Lib.hid H
  have HR1 := Lib.hid (H.kept hb2)
  obtain ⟨b0, hb0⟩ : ∃ b0, b0 = W.heap.size := ⟨_, rfl⟩
  rw [← hb0] at hx0 hx1 hs ⊢
  have HW := Lib.hid hb0
  have HB1 := Lib.hid hb2
  have HY01 := Lib.hid hx0
  have HY11 := Lib.hid hx1
  clear hx0 hx1 hs hb2 hb0 H
  obtain ⟨q0, q1, q2, q3, q4, q5, q6⟩ := box7 HY01.out
  have c1 := Lib.hid (RcFind HR1.out b hz)
  go_wp2_with fail
  refine c1.out.mono ?_
  rintro e w2 ⟨rfl, hb3⟩
  clear c1 q0 q1 q2 q3 q4 q5 q6
  have HY02 := Lib.hid (box_kept HY01.out hb3)
  have HY13 := Lib.hid (box_kept HY11.out hb3)
  have HR4 := Lib.hid (Raw.kept HR1.out hb3)
  have HB5 := Lib.hid (bel_call HB1.out hb3)
  clear HY01 HY11 HR1 HB1 hb3
  obtain ⟨g, hg, e0, e1, e2, e3⟩ := HR4.out.dl.v4.cell HF.out
  subst hg
  obtain ⟨q0, q1, q2, q3, q4, q5, q6⟩ := box7 HY02.out
  rw [hp] at e3
  go_upto_region 11 with fail
  clear e0 e1 e2 e3 q0 q1 q2 q3 q4 q5 q6
  obtain ⟨q0, q1, q2, q3, q4, q5, q6⟩ := box7 HY02.out
  have c6 := Lib.hid (RcWo HR4.out b)
  go_wp2_with fail
  refine c6.out.mono ?_
  rintro e w6 ⟨⟨B3, n3, d3, rfl, hr5⟩, hb5⟩
  clear c6 q0 q1 q2 q3 q4 q5 q6
  have HY09 := Lib.hid (box_kept HY02.out hb5)
  have HY110 := Lib.hid (box_kept HY13.out hb5)
  have HB11 := Lib.hid (bel_call HB5.out hb5)
  clear HY02 HY13 HB5 hb5
  have HR12 := Lib.hid (hr5)
  clear hr5
  obtain ⟨q0, q1, q2, q3, q4, q5, q6⟩ := box7 HY09.out
  have f6 := free7 HY09.out 6
  go_upto_region 12 with fail
  have i6 := into_setCell w6 ⟨b0, 6, none⟩ (.slice B3 n3 d3)
  have hg6 : (w6.setCell ⟨b0, 6, none⟩ (.slice B3 n3 d3)).heap[b0]? = some (.cells #[.int .i64 (m : Int), .slice (some ⟨h, 0, none⟩) nl hc, .int .i64 zr, .int .i64 zs, .slice (some ⟨g, 0, none⟩) N c, .int .i64 zo, .slice B3 n3 d3] 39 (0, 0)) := by
    have := HY09.out
    simp [World.setCell, Array.getElem?_modify, this]
  generalize w6.setCell ⟨b0, 6, none⟩ (.slice B3 n3 d3) = w7 at *
  clear q0 q1 q2 q3 q4 q5 q6 f6
  have HR13 := Lib.hid (Raw.box HR12.out i6 HY09.out rfl)
  have HY014 := Lib.hid (hg6)
  have HY115 := Lib.hid (box_into HY110.out i6 (by simp))
  have HB16 := Lib.hid (bel_into HB11.out i6 (by have := HW.out; show W.heap.size ≤ b0; omega))
  clear hg6 i6
  obtain ⟨q0, q1, q2, q3, q4, q5, q6⟩ := box7 HY014.out
  have hmk := fun w => run_make_at (P := Try.prog) Try.underlying42 u8info rfl (by omega) m (by omega) w
  have z0 := fun q : Drift.Tide [] w7 [] => Drift.Tide.cell q0 (by simp) q
  have z1 := fun q : Drift.Tide [] w7 [] => Drift.Tide.cell q1 (by simp) q
  have z2 := fun q : Drift.Tide [] w7 [] => Drift.Tide.cell q2 (by simp) q
  have z3 := fun q : Drift.Tide [] w7 [] => Drift.Tide.cell q3 (by simp) q
  have z4 := fun q : Drift.Tide [] w7 [] => Drift.Tide.cell q4 (by simp) q
  have z5 := fun q : Drift.Tide [] w7 [] => Drift.Tide.cell q5 (by simp) q
  have z6 := fun q : Drift.Tide [] w7 [] => Drift.Tide.cell q6 (by simp) q
  clear q0 q1 q2 q3 q4 q5 q6
  refine Drift.wp_region_drift [] [(0,[]),(1,[]),(2,[]),(3,[]),(4,[]),(5,[]),(6,[]),(7,[]),(8,[])] [8] [5] (by kernel_rfl) (by kernel_rfl) (by simp) ?_
  simp only [Drift.pick, Drift.opsAt, List.getElem?_toArray, List.getElem?_cons_zero, List.getElem?_cons_succ, List.cons_append, List.nil_append, List.filterMap_cons, List.filterMap_nil]
  repeat (refine Drift.walk_step (fun K hK => ?_); go_simp; (refine hK _ ?_; clear hK K))
  refine Drift.walk_make rfl Drift.mkwalk_nil (fun g => .slice (some ⟨g, 0, none⟩) m m) (.cells (Array.replicate m (Value.int .u8 0)) 5) (fun W => by go_simp) (fun gz _ hT => ?_)
  have hcv : ∀ q : Drift.Tide [] w7 [(gz, .cells (Array.replicate m (Value.int .u8 0)) 5)], (convert 42 9 (.slice (some ⟨gz, 0, none⟩) m m)).run Try.prog q.sea = .ok (.string (strOf (zeros m))) q.sea := fun q => zeros_text (q.has (gz, .cells (Array.replicate m (Value.int .u8 0)) 5) (by simp))
  repeat (refine Drift.walk_step (fun K hK => ?_); go_simp; (refine hK _ ?_; clear hK K))
  refine Drift.walk_event rfl Drift.mkwalk_nil (EvWith { t with row := woD t.row b, L := withD t.L (b, zeros m, true, 1) } (m : Int) zr zs zo h nl hc n3 d3 B3) (fun W hk _ => ?_) (fun v w1 hv hI _ hTd => ?_)
  · have c7 := RcWith (Raw.kept HR13.out hk) (b, zeros m, true, 1) (zp := 1) rfl rfl rfl HL.out
    go_simp
    go_at_call 74
    refine c7.mono ?_
    rintro e w' ⟨⟨A4, N4, k4, rfl, hr8⟩, hb8⟩
    exact ⟨_, rfl, ⟨A4, N4, k4, rfl, hr8⟩, Flow.Into.of_below hb8⟩
  · obtain ⟨A4, N4, k4, rfl, hr8⟩ := hv
    refine Drift.walk_nil ?_
    intro w8 hb9 _
    have hb8 := hI.below.trans (hb9.mono hI.size)
    have hr9 := Raw.kept hr8 hb9
    clear hmk z0 z1 z2 z3 z4 z5 z6 hcv hT hr8 hI hb9 hTd
    simp only [List.length_cons, List.length_nil, List.drop_succ_cons, List.drop_zero, Nat.zero_add, Nat.reduceAdd]
    have HY017 := Lib.hid (box_kept HY014.out hb8)
    have HY118 := Lib.hid (box_kept HY115.out hb8)
    have HB19 := Lib.hid (bel_call HB16.out hb8)
    clear HR13
    have HR20 := Lib.hid (hr9)
    clear hr9 hb8
    obtain ⟨u0, u1, u2, u3, u4, u5, u6⟩ := box7 HY118.out
    have f0 := free7 HY118.out 0
    have f1 := free7 HY118.out 1
    have f2 := free7 HY118.out 2
    have f3 := free7 HY118.out 3
    have f4 := free7 HY118.out 4
    have f5 := free7 HY118.out 5
    have f6 := free7 HY118.out 6
    go_wp2_with fail
    have g7 := set7_at HY118.out (.int .i64 (m : Int)) (.slice (some ⟨h, 0, none⟩) nl hc) (.int .i64 zr) (.int .i64 zs) (.slice A4 N4 k4) (.int .i64 zo) (.slice B3 n3 d3)
    have i7 := set7_into w8 (b0 + 1) (.int .i64 (m : Int)) (.slice (some ⟨h, 0, none⟩) nl hc) (.int .i64 zr) (.int .i64 zs) (.slice A4 N4 k4) (.int .i64 zo) (.slice B3 n3 d3)
    unfold set7 at g7 i7
    generalize ((((((w8.setCell ⟨b0 + 1, 0, none⟩ (.int .i64 (m : Int))).setCell ⟨b0 + 1, 1, none⟩ (.slice (some ⟨h, 0, none⟩) nl hc)).setCell ⟨b0 + 1, 2, none⟩ (.int .i64 zr)).setCell ⟨b0 + 1, 3, none⟩ (.int .i64 zs)).setCell ⟨b0 + 1, 4, none⟩ (.slice A4 N4 k4)).setCell ⟨b0 + 1, 5, none⟩ (.int .i64 zo)).setCell ⟨b0 + 1, 6, none⟩ (.slice B3 n3 d3) = w21 at *
    have hr7 := Raw.box HR20.out i7 HY118.out rfl
    have hb7 := bel_into HB19.out i7 (by have := HW.out; omega)
    obtain ⟨o0, o1, o2, o3, o4, o5, o6⟩ := box7 g7
    exact bodyPost_ret (v := .tuple #[.agg #[.int .i64 (m : Int), .slice (some ⟨h, 0, none⟩) nl hc, .int .i64 zr, .int .i64 zs, .slice A4 N4 k4, .int .i64 zo, .slice B3 n3 d3], .int .i64 0]) (by simp [results, Try.results37, go_sem, o0, o1, o2, o3, o4, o5, o6]) rfl ⟨⟨_, rfl, hr7.to⟩, hb7⟩
set_option maxRecDepth 100000 in
set_option maxHeartbeats 2000000 in
theorem DFresh_full {W : World} {t : Dt} {zm zr zs zo : Int} {h nl hc N c nr d : Nat} {A B : Option Addr} (H : Raw W t zm zr zs zo h nl hc N c nr d A B) {b : Nat} (hb : b < nl) (hb2 : b < 4294967296) (hk : fk t.L b = none) (hr : ∀ w, Below W.heap.size W w → Hid (Calls Try.prog 75 #[.agg #[.int .i64 zm, .slice (some ⟨h, 0, none⟩) nl hc, .int .i64 zr, .int .i64 zs, .slice A N c, .int .i64 zo, .slice B nr d]] w fun e w' => e = .returned (.tuple #[.agg #[.int .i64 zm, .slice (some ⟨h, 0, none⟩) nl hc, .int .i64 zr, .int .i64 zs, .slice A N c, .int .i64 zo, .slice B nr d], .bool false]) ∧ Below w.heap.size w w')) : Calls Try.prog 37 #[.agg #[.int .i64 zm, .slice (some ⟨h, 0, none⟩) nl hc, .int .i64 zr, .int .i64 zs, .slice A N c, .int .i64 zo, .slice B nr d], .int .u32 (b : Int)] W fun e w' => (∃ v, e = .returned (.tuple #[v, .int .i64 7]) ∧ DRes w' t v) ∧ Below W.heap.size W w' := by
  have hz := fZ_none hk
  have hq0 : decide ((0 : Int) ≤ -1) = false := by decide
  clear hk
  have HNl := Lib.hid H.lN
  have hNl := H.lN
  have hnl := H.ll
  have hnr := H.lr
  go_enter Try.func37, Try.ntmps37
  go_upto_region 1 with fail
  obtain ⟨hb2, hx0, hx1, hs⟩ := two_allocs W (.cells #[.int .i64 zm, .slice (some ⟨h, 0, none⟩) nl hc, .int .i64 zr, .int .i64 zs, .slice A N c, .int .i64 zo, .slice B nr d] 39) (.cells #[.int .i64 0, .slice none 0 0, .int .i64 0, .int .i64 0, .slice none 0 0, .int .i64 0, .slice none 0 0] 39)
  generalize (W.alloc (.cells #[.int .i64 zm, .slice (some ⟨h, 0, none⟩) nl hc, .int .i64 zr, .int .i64 zs, .slice A N c, .int .i64 zo, .slice B nr d] 39)).alloc (.cells #[.int .i64 0, .slice none 0 0, .int .i64 0, .int .i64 0, .slice none 0 0, .int .i64 0, .slice none 0 0] 39) = w1 at *
  have HR0 := Lib.hid H
  have HR1 := Lib.hid (H.kept hb2)
  obtain ⟨b0, hb0⟩ : ∃ b0, b0 = W.heap.size := ⟨_, rfl⟩
  rw [← hb0] at hx0 hx1 hs ⊢
  have HW := Lib.hid hb0
  have HB1 := Lib.hid hb2
  have HY01 := Lib.hid hx0
  have HY11 := Lib.hid hx1
  clear hx0 hx1 hs hb2 hb0 H
  obtain ⟨q0, q1, q2, q3, q4, q5, q6⟩ := box7 HY01.out
  have c1 := Lib.hid (RcFind HR1.out b hz)
  go_wp2_with fail
  refine c1.out.mono ?_
  rintro e w2 ⟨rfl, hb3⟩
  clear c1 q0 q1 q2 q3 q4 q5 q6
  have HY02 := Lib.hid (box_kept HY01.out hb3)
  have HY13 := Lib.hid (box_kept HY11.out hb3)
  have HR4 := Lib.hid (Raw.kept HR1.out hb3)
  have HB5 := Lib.hid (bel_call HB1.out hb3)
  clear HY01 HY11 HR1 HB1 hb3
  obtain ⟨q0, q1, q2, q3, q4, q5, q6⟩ := box7 HY02.out
  have c2 := Lib.hid ((hr _ HB5.out).out)
  go_wp2_with fail
  refine c2.out.mono ?_
  rintro e w3 ⟨rfl, hb4⟩
  clear c2 q0 q1 q2 q3 q4 q5 q6
  have HY06 := Lib.hid (box_kept HY02.out hb4)
  have HY17 := Lib.hid (box_kept HY13.out hb4)
  have HR8 := Lib.hid (Raw.kept HR4.out hb4)
  have HB9 := Lib.hid (bel_call HB5.out hb4)
  clear HY02 HY13 HR4 HB5 hb4
  clear hr
  go_upto_region 8 with fail
  have hx := heap_alloc_new w3 (.cells #[.int .i64 zm, .slice (some ⟨h, 0, none⟩) nl hc, .int .i64 zr, .int .i64 zs, .slice A N c, .int .i64 zo, .slice B nr d] 39)
  have hb6 : Below w3.heap.size w3 (w3.alloc (.cells #[.int .i64 zm, .slice (some ⟨h, 0, none⟩) nl hc, .int .i64 zr, .int .i64 zs, .slice A N c, .int .i64 zo, .slice B nr d] 39)) := (Below.refl _ _).alloc (Nat.le_refl _) _
  obtain ⟨s, es⟩ : ∃ s, s = w3.heap.size := ⟨_, rfl⟩
  generalize w3.alloc (.cells #[.int .i64 zm, .slice (some ⟨h, 0, none⟩) nl hc, .int .i64 zr, .int .i64 zs, .slice A N c, .int .i64 zo, .slice B nr d] 39) = w4 at *
  rw [← es] at hx ⊢
  have HSB : Hid (b0 + 2 ≤ s) := by rw [es]; exact box_lt HY17.out
  have HS10 := Lib.hid (hx)
  have HY011 := Lib.hid (box_kept HY06.out hb6)
  have HY112 := Lib.hid (box_kept HY17.out hb6)
  have HR13 := Lib.hid (Raw.kept HR8.out hb6)
  have HB14 := Lib.hid (bel_call HB9.out hb6)
  clear hx hb6 es
  obtain ⟨q0, q1, q2, q3, q4, q5, q6⟩ := box7 HY011.out
  obtain ⟨u0, u1, u2, u3, u4, u5, u6⟩ := box7 HY112.out
  have f0 := free7 HY112.out 0
  have f1 := free7 HY112.out 1
  have f2 := free7 HY112.out 2
  have f3 := free7 HY112.out 3
  have f4 := free7 HY112.out 4
  have f5 := free7 HY112.out 5
  have f6 := free7 HY112.out 6
  go_wp2_with fail
  have g7 := set7_at HY112.out (.int .i64 zm) (.slice (some ⟨h, 0, none⟩) nl hc) (.int .i64 zr) (.int .i64 zs) (.slice A N c) (.int .i64 zo) (.slice B nr d)
  have i7 := set7_into w4 (b0 + 1) (.int .i64 zm) (.slice (some ⟨h, 0, none⟩) nl hc) (.int .i64 zr) (.int .i64 zs) (.slice A N c) (.int .i64 zo) (.slice B nr d)
  unfold set7 at g7 i7
  generalize ((((((w4.setCell ⟨b0 + 1, 0, none⟩ (.int .i64 zm)).setCell ⟨b0 + 1, 1, none⟩ (.slice (some ⟨h, 0, none⟩) nl hc)).setCell ⟨b0 + 1, 2, none⟩ (.int .i64 zr)).setCell ⟨b0 + 1, 3, none⟩ (.int .i64 zs)).setCell ⟨b0 + 1, 4, none⟩ (.slice A N c)).setCell ⟨b0 + 1, 5, none⟩ (.int .i64 zo)).setCell ⟨b0 + 1, 6, none⟩ (.slice B nr d) = w15 at *
  have hr7 := Raw.box HR13.out i7 HY112.out rfl
  have hb7 := bel_into HB14.out i7 (by have := HW.out; omega)
  obtain ⟨o0, o1, o2, o3, o4, o5, o6⟩ := box7 g7
  exact bodyPost_ret (v := .tuple #[.agg #[.int .i64 zm, .slice (some ⟨h, 0, none⟩) nl hc, .int .i64 zr, .int .i64 zs, .slice A N c, .int .i64 zo, .slice B nr d], .int .i64 7]) (by simp [results, Try.results37, go_sem, o0, o1, o2, o3, o4, o5, o6]) rfl ⟨⟨_, rfl, hr7.to⟩, hb7⟩
set_option maxRecDepth 100000 in
set_option maxHeartbeats 2000000 in
theorem DFresh_new {W : World} {t : Dt} {zm zr zs zo : Int} {h nl hc N c nr d : Nat} {A B : Option Addr} (H : Raw W t zm zr zs zo h nl hc N c nr d A B) {t2 : Dt} {b : Nat} (hb : b < nl) (hb2 : b < 4294967296) {m : Nat} (hm : t2.m = m) (hm2 : m ≤ 65536) (hk : fk t.L b = none) (h2l : (withD t2.L (b, zeros m, true, 1)).length ≤ 100) (hr : ∀ w, Below W.heap.size W w → Hid (Calls Try.prog 75 #[.agg #[.int .i64 zm, .slice (some ⟨h, 0, none⟩) nl hc, .int .i64 zr, .int .i64 zs, .slice A N c, .int .i64 zo, .slice B nr d]] w fun e w' => (∃ v, e = .returned (.tuple #[v, .bool true]) ∧ DRes w' t2 v) ∧ Below w.heap.size w w')) : Calls Try.prog 37 #[.agg #[.int .i64 zm, .slice (some ⟨h, 0, none⟩) nl hc, .int .i64 zr, .int .i64 zs, .slice A N c, .int .i64 zo, .slice B nr d], .int .u32 (b : Int)] W fun e w' => (∃ v, e = .returned (.tuple #[v, .int .i64 0]) ∧ DRes w' { t2 with row := woD t2.row b, L := withD t2.L (b, zeros m, true, 1) } v) ∧ Below W.heap.size W w' := by
  have hz := fZ_none hk
  have hq0 : decide ((0 : Int) ≤ -1) = false := by decide
  have HL := Lib.hid h2l
  have HM := Lib.hid hm
  clear hk h2l hm
  have HNl := Lib.hid H.lN
  have hNl := H.lN
  have hnl := H.ll
  have hnr := H.lr
  go_enter Try.func37, Try.ntmps37
  go_upto_region 1 with fail
  obtain ⟨hb2, hx0, hx1, hs⟩ := two_allocs W (.cells #[.int .i64 zm, .slice (some ⟨h, 0, none⟩) nl hc, .int .i64 zr, .int .i64 zs, .slice A N c, .int .i64 zo, .slice B nr d] 39) (.cells #[.int .i64 0, .slice none 0 0, .int .i64 0, .int .i64 0, .slice none 0 0, .int .i64 0, .slice none 0 0] 39)
  generalize (W.alloc (.cells #[.int .i64 zm, .slice (some ⟨h, 0, none⟩) nl hc, .int .i64 zr, .int .i64 zs, .slice A N c, .int .i64 zo, .slice B nr d] 39)).alloc (.cells #[.int .i64 0, .slice none 0 0, .int .i64 0, .int .i64 0, .slice none 0 0, .int .i64 0, .slice none 0 0] 39) = w1 at *
  have HR0 := Lib.hid H
  have HR1 := Lib.hid (H.kept hb2)
  obtain ⟨b0, hb0⟩ : ∃ b0, b0 = W.heap.size := ⟨_, rfl⟩
  rw [← hb0] at hx0 hx1 hs ⊢
  have HW := Lib.hid hb0
  have HB1 := Lib.hid hb2
  have HY01 := Lib.hid hx0
  have HY11 := Lib.hid hx1
  clear hx0 hx1 hs hb2 hb0 H
  obtain ⟨q0, q1, q2, q3, q4, q5, q6⟩ := box7 HY01.out
  have c1 := Lib.hid (RcFind HR1.out b hz)
  go_wp2_with fail
  refine c1.out.mono ?_
  rintro e w2 ⟨rfl, hb3⟩
  clear c1 q0 q1 q2 q3 q4 q5 q6
  have HY02 := Lib.hid (box_kept HY01.out hb3)
  have HY13 := Lib.hid (box_kept HY11.out hb3)
  have HR4 := Lib.hid (Raw.kept HR1.out hb3)
  have HB5 := Lib.hid (bel_call HB1.out hb3)
  clear HY01 HY11 HR1 HB1 hb3
  obtain ⟨q0, q1, q2, q3, q4, q5, q6⟩ := box7 HY02.out
  have c2 := hr _ HB5.out
  clear hr
  go_wp2_with fail
  refine c2.out.mono ?_
  rintro e w3 ⟨⟨v, rfl, hv⟩, hb4⟩
  obtain ⟨zm2, zr2, zs2, zo2, h2, nl2, hc2, N2, k2, nr2, d2, A2, B2, rfl, hr3⟩ := Raw.res hv
  obtain rfl : zm2 = (m : Int) := by rw [← HM.out]; exact hr3.em.symm
  clear c2 hv q0 q1 q2 q3 q4 q5 q6
  have HY06 := Lib.hid (box_kept HY02.out hb4)
  have HY17 := Lib.hid (box_kept HY13.out hb4)
  have HB8 := Lib.hid (bel_call HB5.out hb4)
  clear HR4
  have HR9 := Lib.hid (hr3)
  clear hr3 hb4
  go_upto_region 8 with fail
  have hx := heap_alloc_new w3 (.cells #[.int .i64 (m : Int), .slice (some ⟨h2, 0, none⟩) nl2 hc2, .int .i64 zr2, .int .i64 zs2, .slice A2 N2 k2, .int .i64 zo2, .slice B2 nr2 d2] 39)
  have hb6 : Below w3.heap.size w3 (w3.alloc (.cells #[.int .i64 (m : Int), .slice (some ⟨h2, 0, none⟩) nl2 hc2, .int .i64 zr2, .int .i64 zs2, .slice A2 N2 k2, .int .i64 zo2, .slice B2 nr2 d2] 39)) := (Below.refl _ _).alloc (Nat.le_refl _) _
  obtain ⟨s, es⟩ : ∃ s, s = w3.heap.size := ⟨_, rfl⟩
  generalize w3.alloc (.cells #[.int .i64 (m : Int), .slice (some ⟨h2, 0, none⟩) nl2 hc2, .int .i64 zr2, .int .i64 zs2, .slice A2 N2 k2, .int .i64 zo2, .slice B2 nr2 d2] 39) = w4 at *
  rw [← es] at hx ⊢
  have HSB : Hid (b0 + 2 ≤ s) := by rw [es]; exact box_lt HY17.out
  have HS10 := Lib.hid (hx)
  have HY011 := Lib.hid (box_kept HY06.out hb6)
  have HY112 := Lib.hid (box_kept HY17.out hb6)
  have HR13 := Lib.hid (Raw.kept HR9.out hb6)
  have HB14 := Lib.hid (bel_call HB8.out hb6)
  clear hx hb6 es
  obtain ⟨l0, l1, l2, l3, l4, l5, l6⟩ := box7 HS10.out
  obtain ⟨q0, q1, q2, q3, q4, q5, q6⟩ := box7 HY011.out
  have f0 := free7 HY011.out 0
  have f1 := free7 HY011.out 1
  have f2 := free7 HY011.out 2
  have f3 := free7 HY011.out 3
  have f4 := free7 HY011.out 4
  have f5 := free7 HY011.out 5
  have f6 := free7 HY011.out 6
  go_upto_region 11 with fail
  clear HS10
  have i6 := set7_into w4 b0 (.int .i64 (m : Int)) (.slice (some ⟨h2, 0, none⟩) nl2 hc2) (.int .i64 zr2) (.int .i64 zs2) (.slice A2 N2 k2) (.int .i64 zo2) (.slice B2 nr2 d2)
  have hg6 := set7_at HY011.out (.int .i64 (m : Int)) (.slice (some ⟨h2, 0, none⟩) nl2 hc2) (.int .i64 zr2) (.int .i64 zs2) (.slice A2 N2 k2) (.int .i64 zo2) (.slice B2 nr2 d2)
  unfold set7 at i6 hg6
  generalize ((((((w4.setCell ⟨b0, 0, none⟩ (.int .i64 (m : Int))).setCell ⟨b0, 1, none⟩ (.slice (some ⟨h2, 0, none⟩) nl2 hc2)).setCell ⟨b0, 2, none⟩ (.int .i64 zr2)).setCell ⟨b0, 3, none⟩ (.int .i64 zs2)).setCell ⟨b0, 4, none⟩ (.slice A2 N2 k2)).setCell ⟨b0, 5, none⟩ (.int .i64 zo2)).setCell ⟨b0, 6, none⟩ (.slice B2 nr2 d2) = w5 at *
  have HR15 := Lib.hid (Raw.box HR13.out i6 HY011.out rfl)
  have HY016 := Lib.hid (hg6)
  have HY117 := Lib.hid (box_into HY112.out i6 (by simp))
  have HB18 := Lib.hid (bel_into HB14.out i6 (by have := HW.out; omega))
  clear hg6 i6
  clear q0 q1 q2 q3 q4 q5 q6 f0 f1 f2 f3 f4 f5 f6 l0 l1 l2 l3 l4 l5 l6
  obtain ⟨q0, q1, q2, q3, q4, q5, q6⟩ := box7 HY016.out
  have c6 := Lib.hid (RcWo HR15.out b)
  go_wp2_with fail
  refine c6.out.mono ?_
  rintro e w19 ⟨⟨B3, n3, d3, rfl, hr5⟩, hb5⟩
  clear c6 q0 q1 q2 q3 q4 q5 q6
  have HY022 := Lib.hid (box_kept HY016.out hb5)
  have HY123 := Lib.hid (box_kept HY117.out hb5)
  have HB24 := Lib.hid (bel_call HB18.out hb5)
  clear HY016 HY117 HB18 hb5
  have HR25 := Lib.hid (hr5)
  clear hr5
  obtain ⟨q0, q1, q2, q3, q4, q5, q6⟩ := box7 HY022.out
  have f6 := free7 HY022.out 6
  go_upto_region 12 with fail
  have i6 := into_setCell w19 ⟨b0, 6, none⟩ (.slice B3 n3 d3)
  have hg6 : (w19.setCell ⟨b0, 6, none⟩ (.slice B3 n3 d3)).heap[b0]? = some (.cells #[.int .i64 (m : Int), .slice (some ⟨h2, 0, none⟩) nl2 hc2, .int .i64 zr2, .int .i64 zs2, .slice A2 N2 k2, .int .i64 zo2, .slice B3 n3 d3] 39 (0, 0)) := by
    have := HY022.out
    simp [World.setCell, Array.getElem?_modify, this]
  generalize w19.setCell ⟨b0, 6, none⟩ (.slice B3 n3 d3) = w20 at *
  clear q0 q1 q2 q3 q4 q5 q6 f6
  have HR26 := Lib.hid (Raw.box HR25.out i6 HY022.out rfl)
  have HY027 := Lib.hid (hg6)
  have HY128 := Lib.hid (box_into HY123.out i6 (by simp))
  have HB29 := Lib.hid (bel_into HB24.out i6 (by have := HW.out; show W.heap.size ≤ b0; omega))
  clear hg6 i6
  obtain ⟨q0, q1, q2, q3, q4, q5, q6⟩ := box7 HY027.out
  have hmk := fun w => run_make_at (P := Try.prog) Try.underlying42 u8info rfl (by omega) m (by omega) w
  have z0 := fun q : Drift.Tide [] w20 [] => Drift.Tide.cell q0 (by simp) q
  have z1 := fun q : Drift.Tide [] w20 [] => Drift.Tide.cell q1 (by simp) q
  have z2 := fun q : Drift.Tide [] w20 [] => Drift.Tide.cell q2 (by simp) q
  have z3 := fun q : Drift.Tide [] w20 [] => Drift.Tide.cell q3 (by simp) q
  have z4 := fun q : Drift.Tide [] w20 [] => Drift.Tide.cell q4 (by simp) q
  have z5 := fun q : Drift.Tide [] w20 [] => Drift.Tide.cell q5 (by simp) q
  have z6 := fun q : Drift.Tide [] w20 [] => Drift.Tide.cell q6 (by simp) q
  clear q0 q1 q2 q3 q4 q5 q6
  refine Drift.wp_region_drift [] [(0,[]),(1,[]),(2,[]),(3,[]),(4,[]),(5,[]),(6,[]),(7,[]),(8,[])] [8] [5] (by kernel_rfl) (by kernel_rfl) (by simp) ?_
  simp only [Drift.pick, Drift.opsAt, List.getElem?_toArray, List.getElem?_cons_zero, List.getElem?_cons_succ, List.cons_append, List.nil_append, List.filterMap_cons, List.filterMap_nil]
  repeat (refine Drift.walk_step (fun K hK => ?_); go_simp; (refine hK _ ?_; clear hK K))
  refine Drift.walk_make rfl Drift.mkwalk_nil (fun g => .slice (some ⟨g, 0, none⟩) m m) (.cells (Array.replicate m (Value.int .u8 0)) 5) (fun W => by go_simp) (fun gz _ hT => ?_)
  have hcv : ∀ q : Drift.Tide [] w20 [(gz, .cells (Array.replicate m (Value.int .u8 0)) 5)], (convert 42 9 (.slice (some ⟨gz, 0, none⟩) m m)).run Try.prog q.sea = .ok (.string (strOf (zeros m))) q.sea := fun q => zeros_text (q.has (gz, .cells (Array.replicate m (Value.int .u8 0)) 5) (by simp))
  repeat (refine Drift.walk_step (fun K hK => ?_); go_simp; (refine hK _ ?_; clear hK K))
  refine Drift.walk_event rfl Drift.mkwalk_nil (EvWith { t2 with row := woD t2.row b, L := withD t2.L (b, zeros m, true, 1) } (m : Int) zr2 zs2 zo2 h2 nl2 hc2 n3 d3 B3) (fun W hk _ => ?_) (fun v w1 hv hI _ hTd => ?_)
  · have c7 := RcWith (Raw.kept HR26.out hk) (b, zeros m, true, 1) (zp := 1) rfl rfl rfl HL.out
    go_simp
    go_at_call 74
    refine c7.mono ?_
    rintro e w' ⟨⟨A4, N4, k4, rfl, hr8⟩, hb8⟩
    exact ⟨_, rfl, ⟨A4, N4, k4, rfl, hr8⟩, Flow.Into.of_below hb8⟩
  · obtain ⟨A4, N4, k4, rfl, hr8⟩ := hv
    refine Drift.walk_nil ?_
    intro w21 hb9 _
    have hb8 := hI.below.trans (hb9.mono hI.size)
    have hr9 := Raw.kept hr8 hb9
    clear hmk z0 z1 z2 z3 z4 z5 z6 hcv hT hr8 hI hb9 hTd
    simp only [List.length_cons, List.length_nil, List.drop_succ_cons, List.drop_zero, Nat.zero_add, Nat.reduceAdd]
    have HY030 := Lib.hid (box_kept HY027.out hb8)
    have HY131 := Lib.hid (box_kept HY128.out hb8)
    have HB32 := Lib.hid (bel_call HB29.out hb8)
    clear HR26
    have HR33 := Lib.hid (hr9)
    clear hr9 hb8
    obtain ⟨u0, u1, u2, u3, u4, u5, u6⟩ := box7 HY131.out
    have f0 := free7 HY131.out 0
    have f1 := free7 HY131.out 1
    have f2 := free7 HY131.out 2
    have f3 := free7 HY131.out 3
    have f4 := free7 HY131.out 4
    have f5 := free7 HY131.out 5
    have f6 := free7 HY131.out 6
    go_wp2_with fail
    have g7 := set7_at HY131.out (.int .i64 (m : Int)) (.slice (some ⟨h2, 0, none⟩) nl2 hc2) (.int .i64 zr2) (.int .i64 zs2) (.slice A4 N4 k4) (.int .i64 zo2) (.slice B3 n3 d3)
    have i7 := set7_into w21 (b0 + 1) (.int .i64 (m : Int)) (.slice (some ⟨h2, 0, none⟩) nl2 hc2) (.int .i64 zr2) (.int .i64 zs2) (.slice A4 N4 k4) (.int .i64 zo2) (.slice B3 n3 d3)
    unfold set7 at g7 i7
    generalize ((((((w21.setCell ⟨b0 + 1, 0, none⟩ (.int .i64 (m : Int))).setCell ⟨b0 + 1, 1, none⟩ (.slice (some ⟨h2, 0, none⟩) nl2 hc2)).setCell ⟨b0 + 1, 2, none⟩ (.int .i64 zr2)).setCell ⟨b0 + 1, 3, none⟩ (.int .i64 zs2)).setCell ⟨b0 + 1, 4, none⟩ (.slice A4 N4 k4)).setCell ⟨b0 + 1, 5, none⟩ (.int .i64 zo2)).setCell ⟨b0 + 1, 6, none⟩ (.slice B3 n3 d3) = w34 at *
    have hr7 := Raw.box HR33.out i7 HY131.out rfl
    have hb7 := bel_into HB32.out i7 (by have := HW.out; omega)
    obtain ⟨o0, o1, o2, o3, o4, o5, o6⟩ := box7 g7
    exact bodyPost_ret (v := .tuple #[.agg #[.int .i64 (m : Int), .slice (some ⟨h2, 0, none⟩) nl2 hc2, .int .i64 zr2, .int .i64 zs2, .slice A4 N4 k4, .int .i64 zo2, .slice B3 n3 d3], .int .i64 0]) (by simp [results, Try.results37, go_sem, o0, o1, o2, o3, o4, o5, o6]) rfl ⟨⟨_, rfl, hr7.to⟩, hb7⟩
end Ca
end Go.Proofs.Ytjnbdmimflhhiaa

namespace Go.Proofs.Ytjnbdmimflhhiaa
open Go.RowKit
namespace Ca
open Mem Dv Cn Po

/-- is a block in a frame, and dirty? -/
def dP (L : List Fr) (i : Nat) : Bool := match fk L i with
  | some j => match L[j]? with
    | some f => f.2.2.1
    | none => false
  | none => false
theorem dP_none {L : List Fr} {i : Nat} (h : fk L i = none) : dP L i = false := by simp [dP, h]
theorem dP_some {L : List Fr} {i j : Nat} {f : Fr} (h : fk L i = some j) (hf : L[j]? = some f) : dP L i = f.2.2.1 := by simp [dP, h, hf]
/-- the dirty blocks below n -/
def dN (L : List Fr) (n : Nat) : List Nat := (List.range n).filter (dP L)
theorem dN_next (L : List Fr) (k : Nat) : dN L (k + 1) = dN L k ++ (if dP L k then [k] else []) := by
  unfold dN
  rw [List.range_succ, List.filter_append]
  congr 1
  cases h : dP L k <;> simp [h]
set_option maxRecDepth 100000 in
set_option maxHeartbeats 2000000 in
theorem DDirty_any {W : World} {t : Dt} {zm zr zs zo : Int} {h nl hc N c nr d : Nat} {A B : Option Addr} (H : Raw W t zm zr zs zo h nl hc N c nr d A B) : Calls Try.prog 21 #[.agg #[.int .i64 zm, .slice (some ⟨h, 0, none⟩) nl hc, .int .i64 zr, .int .i64 zs, .slice A N c, .int .i64 zo, .slice B nr d]] W fun e w' => (∃ A' n' c', e = .returned (.slice A' n' c') ∧ (dN t.L t.ls.length).length = n' ∧ VO 23 w' W.heap.size A' c' ((dN t.L t.ls.length).map u32V)) ∧ Below W.heap.size W w' := by
  have hNl := H.lN
  have hnl := H.ll
  rw [H.en]
  go_enter Try.func21, Try.ntmps21
  go_upto_region 1 with fail
  have hx := heap_alloc_new W (.cells #[.int .i64 zm, .slice (some ⟨h, 0, none⟩) nl hc, .int .i64 zr, .int .i64 zs, .slice A N c, .int .i64 zo, .slice B nr d] 39)
  have hb0 : Below W.heap.size W (W.alloc (.cells #[.int .i64 zm, .slice (some ⟨h, 0, none⟩) nl hc, .int .i64 zr, .int .i64 zs, .slice A N c, .int .i64 zo, .slice B nr d] 39)) := (Below.refl _ _).alloc (Nat.le_refl _) _
  obtain ⟨b0, es⟩ : ∃ b0, b0 = W.heap.size := ⟨_, rfl⟩
  generalize W.alloc (.cells #[.int .i64 zm, .slice (some ⟨h, 0, none⟩) nl hc, .int .i64 zr, .int .i64 zs, .slice A N c, .int .i64 zo, .slice B nr d] 39) = w1 at *
  have HR1 := Lib.hid (H.kept hb0)
  rw [← es] at hx ⊢
  have HW := Lib.hid es
  have HB1 := Lib.hid hb0
  have HX1 := Lib.hid hx
  clear H hx hb0 es
  go_upto_region 2 with fail
  have HV0 : Hid (VO 23 (w1.alloc (.cells #[] 23)) w1.heap.size (some ⟨w1.heap.size, 0, none⟩) 0 ([].map u32V)) := VO.none_ 23 w1 w1.heap.size (Nat.le_refl _)
  have HB0 : Hid (Below w1.heap.size w1 (w1.alloc (.cells #[] 23))) := (Below.refl _ _).alloc (Nat.le_refl _) _
  generalize w1.alloc (.cells #[] 23) = w2 at *
  go_wp2_with fail
  go_loopg [3, 4] nl (fun gk bv iv wr => ∃ (k m c' : Nat) (A' : Option Addr), k ≤ nl ∧ gk = nl - k ∧ iv = .int .u32 (k : Int) ∧ bv = .slice A' m c' ∧ m ≤ k ∧ Hid ((dN t.L k).length = m) ∧ Hid (VO 23 wr w1.heap.size A' c' ((dN t.L k).map u32V)) ∧ Hid (Below w1.heap.size w1 wr))
  case atStart => exact ⟨0, 0, 0, _, Nat.zero_le _, rfl, rfl, rfl, Nat.le_refl _, rfl, HV0, HB0⟩
  case round =>
    obtain ⟨k, m, c', A', hk, rfl, rfl, rfl, hm, HM, HV', HB⟩ := hrel
    clear HV0 HB0
    have hxr := box_kept HX1.out HB.out
    obtain ⟨q0, q1, q2, q3, q4, q5, q6⟩ := box7 hxr
    by_cases hlt : k < nl
    · have HRr := Lib.hid (Raw.kept HR1.out HB.out)
      have HXr := Lib.hid hxr
      have hwk : IntKind.u32.wrap ((k : Int) + 1) = ((k + 1 : Nat) : Int) := by rw [IntKind.wrap_u32]; omega
      have hstep := dN_next t.L k
      clear hxr
      have skip : ∀ (hd : dP t.L k = false), Hid (dN t.L (k + 1) = dN t.L k) := fun hd => by
        unfold Hid
        rw [dN_next, hd]
        simp
      by_cases hfk : ∃ j, fk t.L k = some j
      · obtain ⟨j, hj⟩ := hfk
        obtain ⟨f, hf, -⟩ := fk_some hj
        have hjN : j < N := by rw [← HR1.out.eN]; exact lt_of_get hf
        have hd := dP_some hj hf
        have HF := Lib.hid hf
        have c1 := Lib.hid (RcFind HRr.out k (fZ_some hj))
        have hq0 : decide (j < 0) = false := by simp
        clear hj hf
        go_wp2_with fail
        refine c1.out.mono ?_
        rintro e w3 ⟨rfl, hb3⟩
        clear c1 q0 q1 q2 q3 q4 q5 q6
        have HR3 := Lib.hid (Raw.kept HRr.out hb3)
        have hx3 := box_kept HXr.out hb3
        have HV3 := Lib.hid (HV'.out.kept hb3)
        have HB3 := Lib.hid (bel_call HB.out hb3)
        obtain ⟨q0, q1, q2, q3, q4, q5, q6⟩ := box7 hx3
        obtain ⟨g, hg, e0, e1, e2, e3⟩ := HR3.out.dl.v4.cell HF.out
        subst hg
        clear hb3 HV' HB HRr HXr hx3
        by_cases hdt : f.2.2.1 = true
        · rw [hdt] at e2
          have HS : Hid (dN t.L (k + 1) = dN t.L k ++ [k]) := by
            unfold Hid
            rw [dN_next, hd, hdt]
            rfl
          have hX : Below w3.heap.size w3 (w3.alloc (.cells #[.int .u32 (k : Int)] 23)) := (Below.refl _ _).alloc (Nat.le_refl _) _
          have hcl : Hid ((w3.alloc (.cells #[.int .u32 (k : Int)] 23)).cell? ⟨w3.heap.size, 0, none⟩ = some (.int .u32 (k : Int))) := by
            unfold Hid
            rw [World.cell?, heap_alloc_new]
            rfl
          have HVX : Hid (VO 23 (w3.alloc (.cells #[.int .u32 (k : Int)] 23)) w1.heap.size A' c' ((dN t.L k).map u32V)) := HV3.out.kept hX
          have HM2 : Hid (((dN t.L k).map u32V).length = m) := by unfold Hid; rw [List.length_map]; exact HM.out
          have hm65 : m + 1 ≤ 1048576 := by omega
          have hBx : w1.heap.size ≤ (w3.alloc (.cells #[.int .u32 (k : Int)] 23)).heap.size := Nat.le_trans HB3.out.size hX.size
          have HX2 := Lib.hid (hX.mono HB3.out.size)
          clear hstep skip hd hdt hX HF
          go_wp2_with (with_reducible refine wpList_append_one rfl (.tmp 30) (.tmp 32) _ rfl 23 Try.underlying37 (.int .u32 0) 4 u32info rfl (by omega) w1.heap.size A' m c' ((dN t.L k).map u32V) rfl HM2.out HVX.out w3.heap.size 1 (.int .u32 (k : Int)) rfl hcl.out rfl hm65 hBx ?_; intro A2 c2' w4 hd)
          go_roundg (nl - (k + 1))
          case measure => omega
          case rel =>
            refine ⟨k + 1, m + 1, c2', A2, hlt, rfl, by go_num, rfl, by omega, ?_, ?_, ?_⟩
            · unfold Hid; rw [HS.out, List.length_append, HM.out]; rfl
            · unfold Hid; rw [HS.out, List.map_append]; exact hd.out.vo
            · exact (HB3.out.trans HX2.out).trans hd.out.below
        · have hdf : f.2.2.1 = false := by simpa using hdt
          rw [hdf] at e2
          have HS := skip (hd.trans hdf)
          clear hstep skip hd hdt hdf
          go_wp2_with fail
          go_roundg (nl - (k + 1))
          case measure => omega
          case rel => exact ⟨k + 1, m, c', A', hlt, rfl, by go_num, rfl, by omega, by unfold Hid; rw [HS.out]; exact HM.out, by unfold Hid; rw [HS.out]; exact HV3.out, HB3⟩
      · have hj : fk t.L k = none := by
          cases hh : fk t.L k with
          | none => rfl
          | some j => exact absurd ⟨j, hh⟩ hfk
        have HS := skip (dP_none hj)
        have c1 := Lib.hid (RcFind HRr.out k (fZ_none hj))
        have hq0 : decide ((0 : Int) ≤ -1) = false := by decide
        clear hj hfk hstep skip
        go_wp2_with fail
        refine c1.out.mono ?_
        rintro e w3 ⟨rfl, hb3⟩
        clear c1 q0 q1 q2 q3 q4 q5 q6
        have HV3 := Lib.hid (HV'.out.kept hb3)
        have HB3 := Lib.hid (bel_call HB.out hb3)
        clear hb3
        go_wp2_with fail
        go_roundg (nl - (k + 1))
        case measure => omega
        case rel => exact ⟨k + 1, m, c', A', hlt, rfl, by go_num, rfl, by omega, by unfold Hid; rw [HS.out]; exact HM.out, by unfold Hid; rw [HS.out]; exact HV3.out, HB3⟩
    · obtain rfl : k = nl := by omega
      have hq : decide (k < k) = false := by simp
      clear hlt hxr
      go_wp2_with fail
      go_ret
      exact ⟨⟨A', m, c', rfl, HM.out, HV'.out.mono HB1.out.size⟩, HB1.out.trans (HB.out.mono HB1.out.size)⟩
end Ca
end Go.Proofs.Ytjnbdmimflhhiaa

namespace Go.Proofs.Ytjnbdmimflhhiaa
open Go.RowKit
namespace Ca
open Mem Dv Cn Po

/-- one block is written back -/
def CleanD (t t' : Dt) (i : Nat) : Prop := ∃ j f, fk t.L i = some j ∧ t.L[j]? = some f ∧ f.1 = i ∧ i < t.ls.length ∧ f.2.1.length = t.m ∧ t.s ≤ 1000000 ∧ t' = { t with ls := t.ls.set i f.2.1, s := t.s + 1, L := withD t.L (i, f.2.1, false, f.2.2.2) }
set_option maxRecDepth 100000 in
set_option maxHeartbeats 4000000 in
theorem DFlush_any {W : World} {t : Dt} {zm zr zs zo : Int} {h nl hc N c nr d : Nat} {A B : Option Addr} (H : Raw W t zm zr zs zo h nl hc N c nr d A B) (T : Nat → Dt) (h0 : T 0 = t) (hok : ∀ k i, (dN t.L t.ls.length)[k]? = some i → CleanD (T k) (T (k + 1)) i) : Calls Try.prog 41 #[.agg #[.int .i64 zm, .slice (some ⟨h, 0, none⟩) nl hc, .int .i64 zr, .int .i64 zs, .slice A N c, .int .i64 zo, .slice B nr d]] W fun e w' => (∃ v, e = .returned v ∧ DRes w' (T (dN t.L t.ls.length).length) v) ∧ Below W.heap.size W w' := by
  have hnl := H.ll
  have HOK := Lib.hid hok
  have HT0 := Lib.hid h0
  have hDn : (dN t.L t.ls.length).length ≤ 65536 := by
    have h1 : (dN t.L t.ls.length).length ≤ (List.range t.ls.length).length := List.length_filter_le _ _
    rw [List.length_range] at h1
    have := H.en
    omega
  clear hok h0
  go_enter Try.func41, Try.ntmps41
  go_upto_region 1 with fail
  obtain ⟨hb2, hx0, hx1, hs⟩ := two_allocs W (.cells #[.int .i64 zm, .slice (some ⟨h, 0, none⟩) nl hc, .int .i64 zr, .int .i64 zs, .slice A N c, .int .i64 zo, .slice B nr d] 39) (.cells #[.int .i64 0, .slice none 0 0, .int .i64 0, .int .i64 0, .slice none 0 0, .int .i64 0, .slice none 0 0] 39)
  generalize (W.alloc (.cells #[.int .i64 zm, .slice (some ⟨h, 0, none⟩) nl hc, .int .i64 zr, .int .i64 zs, .slice A N c, .int .i64 zo, .slice B nr d] 39)).alloc (.cells #[.int .i64 0, .slice none 0 0, .int .i64 0, .int .i64 0, .slice none 0 0, .int .i64 0, .slice none 0 0] 39) = w1 at *
  have HR1 := Lib.hid (H.kept hb2)
  obtain ⟨b0, hb0⟩ : ∃ b0, b0 = W.heap.size := ⟨_, rfl⟩
  rw [← hb0] at hx0 hx1 hs ⊢
  have HW := Lib.hid hb0
  have HB1 := Lib.hid hb2
  have HY01 := Lib.hid hx0
  have HY11 := Lib.hid hx1
  obtain ⟨q0, q1, q2, q3, q4, q5, q6⟩ := box7 hx0
  have c1 := Lib.hid (DDirty_any HR1.out)
  have HS1 := Lib.hid hs
  clear hx0 hx1 hs hb2 hb0 H
  generalize hD : dN t.L t.ls.length = D at *
  have HD := Lib.hid hD
  clear hD
  go_wp2_with fail
  refine c1.out.mono ?_
  rintro e w2 ⟨⟨A', n', c', rfl, hn', hv⟩, hb3⟩
  clear c1 q0 q1 q2 q3 q4 q5 q6
  rw [hn'] at hDn
  have HN := Lib.hid hn'
  have HV2 : Hid (VO 23 w2 (b0 + 2) A' c' (D.map u32V)) := hv.mono (by have := HS1.out; omega)
  have HR2 : Hid (Raw w2 (T 0) zm zr zs zo h nl hc N c nr d A B) := by rw [HT0.out]; exact Raw.kept HR1.out hb3
  have HY02 := Lib.hid (box_kept HY01.out hb3)
  have HY12 := Lib.hid (box_kept HY11.out hb3)
  have HB2 := Lib.hid (bel_call HB1.out hb3)
  clear hn' hv hb3 HR1 HY01 HY11 HB1 HS1 HT0
  go_wp2_with fail
  go_loopg [4] n' (fun gk iv wr => ∃ (k : Nat) (zm2 zr2 zs2 zo2 : Int) (h2 nl2 hc2 N2 k2 nr2 d2 : Nat) (A2 B2 : Option Addr), k ≤ n' ∧ gk = n' - k ∧ iv = .int .i64 (k : Int) ∧ Hid (wr.heap[b0]? = some (.cells #[.int .i64 zm2, .slice (some ⟨h2, 0, none⟩) nl2 hc2, .int .i64 zr2, .int .i64 zs2, .slice A2 N2 k2, .int .i64 zo2, .slice B2 nr2 d2] 39 (0, 0))) ∧ Hid (Raw wr (T k) zm2 zr2 zs2 zo2 h2 nl2 hc2 N2 k2 nr2 d2 A2 B2) ∧ Hid (wr.heap[b0 + 1]? = some (.cells #[.int .i64 0, .slice none 0 0, .int .i64 0, .int .i64 0, .slice none 0 0, .int .i64 0, .slice none 0 0] 39 (0, 0))) ∧ Hid (Below W.heap.size W wr) ∧ Hid (VO 23 wr (b0 + 2) A' c' (D.map u32V)))
  case atStart => exact ⟨0, zm, zr, zs, zo, h, nl, hc, N, c, nr, d, A, B, Nat.zero_le _, rfl, rfl, HY02, HR2, HY12, HB2, HV2⟩
  case round =>
    obtain ⟨k, zm2, zr2, zs2, zo2, h2, nl2, hc2, N2, k2, nr2, d2, A2, B2, hk, rfl, rfl, HY0, HR, HY1, HB, HV⟩ := hrel
    clear HY02 HR2 HY12 HB2 HV2
    by_cases hlt : k < n'
    · have hkD : k < D.length := by rw [HN.out]; exact hlt
      have hf : D[k]? = some D[k] := List.getElem?_eq_getElem hkD
      obtain ⟨i, hi⟩ : ∃ i, i = D[k] := ⟨_, rfl⟩
      rw [← hi] at hf
      obtain ⟨j, f, hj, hfj, hfi, hin, hfl, hts, hT1⟩ := HOK.out k i hf
      obtain ⟨gA, hgA, hcA⟩ := HV.out.cell (by simpa using Nat.lt_of_le_of_lt (Nat.zero_le _) hkD)
      subst hgA
      have hcell : wr.cell? ⟨gA, k, none⟩ = some (.int .u32 (i : Int)) := by
        rw [hcA k (by simpa using hkD)]
        simp [u32V, ← hi]
      have hwk : IntKind.i64.wrap ((k : Int) + 1) = ((k + 1 : Nat) : Int) := by rw [IntKind.wrap_i64]; omega
      have hjN : j < N2 := by rw [← HR.out.eN]; exact lt_of_get hfj
      have hN100 := HR.out.lN
      have HL : Hid ((withD (T k).L (i, f.2.1, false, f.2.2.2)).length ≤ 100) := Nat.le_trans (withD_le (x := (i, f.2.1, false, f.2.2.2)) hfj hfi) HR.out.dl.l0
      have hz := fZ_some hj
      have HT1 := Lib.hid hT1
      have HFL := Lib.hid hfl
      have HIN := Lib.hid hin
      have HTS := Lib.hid hts
      obtain ⟨q0, q1, q2, q3, q4, q5, q6⟩ := box7 HY0.out
      obtain ⟨g, hg, e0, e1, e2, e3⟩ := HR.out.dl.v4.cell hfj
      rw [hfi] at e0
      subst hg
      clear hf hi hj hfj hfi hin hfl hts hT1 hcA hkD HOK
      go_upto_region 5 with fail
      have z0 := fun q : Drift.Tide [] wr [] => Drift.Tide.cell q0 (by simp) q
      have z1 := fun q : Drift.Tide [] wr [] => Drift.Tide.cell q1 (by simp) q
      have z2 := fun q : Drift.Tide [] wr [] => Drift.Tide.cell q2 (by simp) q
      have z3 := fun q : Drift.Tide [] wr [] => Drift.Tide.cell q3 (by simp) q
      have z4 := fun q : Drift.Tide [] wr [] => Drift.Tide.cell q4 (by simp) q
      have z5 := fun q : Drift.Tide [] wr [] => Drift.Tide.cell q5 (by simp) q
      have z6 := fun q : Drift.Tide [] wr [] => Drift.Tide.cell q6 (by simp) q
      have x0 := fun q : Drift.Tide [] wr [] => Drift.Tide.cell e0 (by simp) q
      have x1 := fun q : Drift.Tide [] wr [] => Drift.Tide.cell e1 (by simp) q
      have x2 := fun q : Drift.Tide [] wr [] => Drift.Tide.cell e2 (by simp) q
      have x3 := fun q : Drift.Tide [] wr [] => Drift.Tide.cell e3 (by simp) q
      have y0 := fun q : Drift.Tide [] wr [] => Drift.Tide.cell hcell (by simp) q
      have cFF := fun q : Drift.Tide [] wr [] => Lib.hid (RcFind (Raw.kept HR.out q.into.below) i hz)
      clear q0 q1 q2 q3 q4 q5 q6 e0 e1 e2 e3 hcell hz
      refine Drift.wp_region_drift [] [(0,[]),(1,[]),(2,[]),(3,[]),(4,[]),(5,[]),(6,[]),(7,[]),(8,[]),(9,[]),(10,[])] [] [10] (by kernel_rfl) (by kernel_rfl) (by simp) ?_
      simp only [Drift.pick, Drift.opsAt, List.getElem?_toArray, List.getElem?_cons_zero, List.getElem?_cons_succ, List.cons_append, List.nil_append, List.filterMap_cons, List.filterMap_nil]
      repeat (refine Drift.walk_step (fun K hK => ?_); go_simp; first | (refine hK _ ?_; clear hK K) | (apply Exists.intro; refine ⟨fun q => ?_, hK _ ?_⟩; (go_at_call 50; exact (cFF q).out); clear hK K))
      refine Drift.walk_make rfl Drift.mkwalk_nil (fun b => .pointer (some ⟨b, 0, none⟩)) (.cells #[.int .u32 0, .string ⟨#[]⟩, .bool false, .int .i64 0] 94) (fun W => by go_simp) (fun s hs _ => ?_)
      refine Drift.walk_nil ?_
      intro w3 hb3 hl3
      have hsx : w3.heap[s]? = some (.cells #[.int .u32 0, .string ⟨#[]⟩, .bool false, .int .i64 0] 94 (0, 0)) := hl3 (s, .cells #[.int .u32 0, .string ⟨#[]⟩, .bool false, .int .i64 0] 94) (by simp)
      obtain ⟨r0, r1, r2, r3⟩ := boxf hsx
      have f0 := free7 hsx 0
      have f1 := free7 hsx 1
      have f2 := free7 hsx 2
      have f3 := free7 hsx 3
      have HSX := Lib.hid hsx
      have HSB : Hid (b0 + 2 ≤ s) := Nat.le_trans (box_lt HY1.out) hs
      have HSW := Lib.hid hs
      have HAP : Hid (Apart { T k with ls := (T k).ls.set i f.2.1, s := (T k).s + 1 } (some ⟨g, 0, none⟩) B2 s) := HR.out.apart hs
      have HGA : Hid (gA ≠ s) := by
        have h1 : gA < wr.heap.size := (HV.out.at_ _ rfl).2
        unfold Hid
        omega
      have HY03 := Lib.hid (box_kept HY0.out hb3)
      have HY13 := Lib.hid (box_kept HY1.out hb3)
      have HR3 := Lib.hid (Raw.kept HR.out hb3)
      have HB3 := Lib.hid (bel_call HB.out hb3)
      have HV3 := Lib.hid (HV.out.kept hb3)
      clear hsx hl3 hb3 hs cFF z0 z1 z2 z3 z4 z5 z6 x0 x1 x2 x3 y0 HY0 HY1 HB
      simp only [List.length_cons, List.length_nil, List.drop_succ_cons, List.drop_zero, Nat.zero_add, Nat.reduceAdd]
      go_upto_region 6 with fail
      have i4 := set4_into w3 s (.int .u32 (i : Int)) (.string (strOf f.2.1)) (.bool f.2.2.1) (.int .i64 (f.2.2.2 : Int))
      have g4 := set4_at HSX.out (.int .u32 (i : Int)) (.string (strOf f.2.1)) (.bool f.2.2.1) (.int .i64 (f.2.2.2 : Int))
      unfold set4 at i4 g4
      clear r0 r1 r2 r3 f0 f1 f2 f3 HSX
      generalize (((w3.setCell ⟨s, 0, none⟩ (.int .u32 (i : Int))).setCell ⟨s, 1, none⟩ (.string (strOf f.2.1))).setCell ⟨s, 2, none⟩ (.bool f.2.2.1)).setCell ⟨s, 3, none⟩ (.int .i64 (f.2.2.2 : Int)) = w4 at *
      have HY04 := Lib.hid (box_into HY03.out i4 (by have := HSB.out; simp; omega))
      have HY14 := Lib.hid (box_into HY13.out i4 (by have := HSB.out; simp; omega))
      have HR4 := Lib.hid (Raw.new HR.out HSW.out HR3.out i4)
      have HB4 := Lib.hid (bel_into HB3.out i4 (by have := HSB.out; have := HW.out; omega))
      have HV4 : Hid (VO 23 w4 (b0 + 2) (some ⟨gA, 0, none⟩) c' (D.map u32V)) := HV3.out.into i4 (fun a ha => by
        have := (HV.out.at_ a ha).2
        have := HSW.out
        simp; omega)
      have HS4 := Lib.hid g4
      obtain ⟨r0, r1, r2, r3⟩ := boxf g4
      obtain ⟨q0, q1, q2, q3, q4, q5, q6⟩ := box7 HY04.out
      clear i4 g4 HY03 HY13 HR3 HR HB3 HV3 HV HSW
      have c5 := Lib.hid (RcDWrite HR4.out HIN.out HFL.out HTS.out)
      go_wp2_with fail
      refine c5.out.mono ?_
      rintro e w5 ⟨⟨h5, c5', rfl, hr5⟩, hb5⟩
      have HY05 := Lib.hid (box_kept HY04.out hb5)
      have HY15 := Lib.hid (box_kept HY14.out hb5)
      have HS5 := Lib.hid (box_kept HS4.out hb5)
      have HB5 := Lib.hid (bel_call HB4.out hb5)
      have HV5 := Lib.hid (HV4.out.kept hb5)
      have HR5 := Lib.hid hr5
      clear c5 q0 q1 q2 q3 q4 q5 q6 r0 r1 r2 r3 hr5 hb5 HR4 HY04 HY14 HS4 HB4 HV4
      obtain ⟨q0, q1, q2, q3, q4, q5, q6⟩ := box7 HY05.out
      have f0 := free7 HY05.out 0
      have f1 := free7 HY05.out 1
      have f2 := free7 HY05.out 2
      have f3 := free7 HY05.out 3
      go_upto_region 7 with fail
      have i6 := set4_into w5 b0 (.int .i64 zm2) (.slice (some ⟨h5, 0, none⟩) nl2 c5') (.int .i64 zr2) (.int .i64 (zs2 + 1))
      have g6 : (set4 w5 b0 (.int .i64 zm2) (.slice (some ⟨h5, 0, none⟩) nl2 c5') (.int .i64 zr2) (.int .i64 (zs2 + 1))).heap[b0]? = some (.cells #[.int .i64 zm2, .slice (some ⟨h5, 0, none⟩) nl2 c5', .int .i64 zr2, .int .i64 (zs2 + 1), .slice (some ⟨g, 0, none⟩) N2 k2, .int .i64 zo2, .slice B2 nr2 d2] 39 (0, 0)) := by
        have := HY05.out
        unfold set4
        simp [World.setCell, Array.getElem?_modify, this]
      unfold set4 at i6 g6
      generalize (((w5.setCell ⟨b0, 0, none⟩ (.int .i64 zm2)).setCell ⟨b0, 1, none⟩ (.slice (some ⟨h5, 0, none⟩) nl2 c5')).setCell ⟨b0, 2, none⟩ (.int .i64 zr2)).setCell ⟨b0, 3, none⟩ (.int .i64 (zs2 + 1)) = w6 at *
      have HR6 := Lib.hid (Raw.box HR5.out i6 HY05.out rfl)
      have HY06 := Lib.hid g6
      have HY16 := Lib.hid (box_into HY15.out i6 (by simp))
      have HS6 := Lib.hid (box_into HS5.out i6 (by have := HSB.out; simp; omega))
      have HB6 := Lib.hid (bel_into HB5.out i6 (by have := HW.out; omega))
      have HV6 : Hid (VO 23 w6 (b0 + 2) (some ⟨gA, 0, none⟩) c' (D.map u32V)) := HV5.out.into i6 (fun a ha => by
        have := (HV5.out.at_ a ha).1
        simp; omega)
      clear q0 q1 q2 q3 q4 q5 q6 f0 f1 f2 f3 i6 g6 HR5 HY05 HY15 HS5 HB5 HV5
      obtain ⟨r0, r1, r2, r3⟩ := boxf HS6.out
      have f2 := free7 HS6.out 2
      go_upto_region 8 with fail
      have i7 := into_setCell w6 ⟨s, 2, none⟩ (.bool false)
      have g7 : (w6.setCell ⟨s, 2, none⟩ (.bool false)).heap[s]? = some (.cells #[.int .u32 (i : Int), .string (strOf f.2.1), .bool false, .int .i64 (f.2.2.2 : Int)] 94 (0, 0)) := by
        have := HS6.out
        simp [World.setCell, Array.getElem?_modify, this]
      generalize w6.setCell ⟨s, 2, none⟩ (.bool false) = w7 at *
      have HS7 := Lib.hid g7
      have HY07 := Lib.hid (box_into HY06.out i7 (by have := HSB.out; simp; omega))
      have HY17 := Lib.hid (box_into HY16.out i7 (by have := HSB.out; simp; omega))
      have HR7 := Lib.hid (Raw.boxF HR6.out i7 HS6.out HAP.out)
      have HB7 := Lib.hid (bel_into HB6.out i7 (by have := HSB.out; have := HW.out; show W.heap.size ≤ s; omega))
      have HV7 : Hid (VO 23 w7 (b0 + 2) (some ⟨gA, 0, none⟩) c' (D.map u32V)) := HV6.out.into i7 (fun a ha => by
        obtain rfl := Option.some.inj ha
        simpa using HGA.out)
      clear r0 r1 r2 r3 f2 i7 g7 HS6 HY06 HY16 HR6 HB6 HV6
      obtain ⟨r0, r1, r2, r3⟩ := boxf HS7.out
      obtain ⟨q0, q1, q2, q3, q4, q5, q6⟩ := box7 HY07.out
      have c8 := Lib.hid (RcWith HR7.out (i, f.2.1, false, f.2.2.2) rfl rfl rfl HL.out)
      go_wp2_with fail
      refine c8.out.mono ?_
      rintro e w8 ⟨⟨A8, N8, k8, rfl, hr8⟩, hb8⟩
      have HR8 : Hid (Raw w8 (T (k + 1)) zm2 zr2 (zs2 + 1) zo2 h5 nl2 c5' N8 k8 nr2 d2 A8 B2) := by rw [HT1.out]; exact hr8
      have HY08 := Lib.hid (box_kept HY07.out hb8)
      have HY18 := Lib.hid (box_kept HY17.out hb8)
      have HB8 := Lib.hid (bel_call HB7.out hb8)
      have HV8 := Lib.hid (HV7.out.kept hb8)
      clear c8 r0 r1 r2 r3 q0 q1 q2 q3 q4 q5 q6 hr8 hb8 HR7 HY07 HY17 HB7 HV7 HS7 HSB
      obtain ⟨q0, q1, q2, q3, q4, q5, q6⟩ := box7 HY08.out
      have f0 := free7 HY08.out 0
      have f1 := free7 HY08.out 1
      have f2 := free7 HY08.out 2
      have f3 := free7 HY08.out 3
      have f4 := free7 HY08.out 4
      have f5 := free7 HY08.out 5
      have f6 := free7 HY08.out 6
      go_wp2_with fail
      have i9 := set7_into w8 b0 (.int .i64 zm2) (.slice (some ⟨h5, 0, none⟩) nl2 c5') (.int .i64 zr2) (.int .i64 (zs2 + 1)) (.slice A8 N8 k8) (.int .i64 zo2) (.slice B2 nr2 d2)
      have g9 := set7_at HY08.out (.int .i64 zm2) (.slice (some ⟨h5, 0, none⟩) nl2 c5') (.int .i64 zr2) (.int .i64 (zs2 + 1)) (.slice A8 N8 k8) (.int .i64 zo2) (.slice B2 nr2 d2)
      unfold set7 at i9 g9
      generalize ((((((w8.setCell ⟨b0, 0, none⟩ (.int .i64 zm2)).setCell ⟨b0, 1, none⟩ (.slice (some ⟨h5, 0, none⟩) nl2 c5')).setCell ⟨b0, 2, none⟩ (.int .i64 zr2)).setCell ⟨b0, 3, none⟩ (.int .i64 (zs2 + 1))).setCell ⟨b0, 4, none⟩ (.slice A8 N8 k8)).setCell ⟨b0, 5, none⟩ (.int .i64 zo2)).setCell ⟨b0, 6, none⟩ (.slice B2 nr2 d2) = w9 at *
      have HR9 := Lib.hid (Raw.box HR8.out i9 HY08.out rfl)
      have HY09 := Lib.hid g9
      have HY19 := Lib.hid (box_into HY18.out i9 (by simp))
      have HB9 := Lib.hid (bel_into HB8.out i9 (by have := HW.out; omega))
      have HV9 : Hid (VO 23 w9 (b0 + 2) (some ⟨gA, 0, none⟩) c' (D.map u32V)) := HV8.out.into i9 (fun a ha => by
        have := (HV8.out.at_ a ha).1
        simp; omega)
      clear q0 q1 q2 q3 q4 q5 q6 f0 f1 f2 f3 f4 f5 f6 i9 g9 HR8 HY08 HY18 HB8 HV8
      go_roundg (n' - (k + 1))
      case measure => omega
      case rel => exact ⟨k + 1, zm2, zr2, zs2 + 1, zo2, h5, nl2, c5', N8, k8, nr2, d2, A8, B2, hlt, rfl, by go_num, HY09, HR9, HY19, HB9, HV9⟩
    · obtain rfl : k = n' := by omega
      clear hlt
      obtain ⟨q0, q1, q2, q3, q4, q5, q6⟩ := box7 HY0.out
      obtain ⟨u0, u1, u2, u3, u4, u5, u6⟩ := box7 HY1.out
      have f0 := free7 HY1.out 0
      have f1 := free7 HY1.out 1
      have f2 := free7 HY1.out 2
      have f3 := free7 HY1.out 3
      have f4 := free7 HY1.out 4
      have f5 := free7 HY1.out 5
      have f6 := free7 HY1.out 6
      go_wp2_with fail
      have g7 := set7_at HY1.out (.int .i64 zm2) (.slice (some ⟨h2, 0, none⟩) nl2 hc2) (.int .i64 zr2) (.int .i64 zs2) (.slice A2 N2 k2) (.int .i64 zo2) (.slice B2 nr2 d2)
      have i7 := set7_into wr (b0 + 1) (.int .i64 zm2) (.slice (some ⟨h2, 0, none⟩) nl2 hc2) (.int .i64 zr2) (.int .i64 zs2) (.slice A2 N2 k2) (.int .i64 zo2) (.slice B2 nr2 d2)
      unfold set7 at g7 i7
      generalize ((((((wr.setCell ⟨b0 + 1, 0, none⟩ (.int .i64 zm2)).setCell ⟨b0 + 1, 1, none⟩ (.slice (some ⟨h2, 0, none⟩) nl2 hc2)).setCell ⟨b0 + 1, 2, none⟩ (.int .i64 zr2)).setCell ⟨b0 + 1, 3, none⟩ (.int .i64 zs2)).setCell ⟨b0 + 1, 4, none⟩ (.slice A2 N2 k2)).setCell ⟨b0 + 1, 5, none⟩ (.int .i64 zo2)).setCell ⟨b0 + 1, 6, none⟩ (.slice B2 nr2 d2) = w9 at *
      have hr7 := Raw.box HR.out i7 HY1.out rfl
      have hb7 := bel_into HB.out i7 (by have := HW.out; omega)
      obtain ⟨o0, o1, o2, o3, o4, o5, o6⟩ := box7 g7
      exact bodyPost_ret (v := .agg #[.int .i64 zm2, .slice (some ⟨h2, 0, none⟩) nl2 hc2, .int .i64 zr2, .int .i64 zs2, .slice A2 N2 k2, .int .i64 zo2, .slice B2 nr2 d2]) (by simp [results, Try.results41, go_sem, o0, o1, o2, o3, o4, o5, o6]) rfl ⟨⟨_, rfl, by rw [HD.out, HN.out]; exact hr7.to⟩, hb7⟩
end Ca
end Go.Proofs.Ytjnbdmimflhhiaa

namespace Go.Proofs.Ytjnbdmimflhhiaa
namespace Ca
open Cn (del del_notin)

/-- the program's cache and the document's tell the same -/
structure Rl (st : St) (dt : Dt) : Prop where
  m : dt.m = st.m
  ls : dt.ls = st.ls
  r : dt.r = st.r
  s : dt.s = st.s
  pm : dt.L.Perm (st.fr.filterMap id)
  most : dt.most = st.fr.length
  row : dt.row = rowL st
theorem mem_fr {fr : List (Option Fr)} {f : Fr} : f ∈ fr.filterMap id ↔ ∃ j : Nat, fr[j]? = some (some f) := by
  rw [List.mem_filterMap]
  constructor
  · rintro ⟨x, hx, rfl⟩
    exact List.getElem?_of_mem hx
  · rintro ⟨j, hj⟩
    exact ⟨some f, List.mem_of_getElem? hj, rfl⟩
theorem fk_none {L : List Fr} {b : Nat} (h : fk L b = none) {f : Fr} (hf : f ∈ L) : f.1 ≠ b := by
  unfold fk at h
  rw [List.findIdx?_eq_none_iff] at h
  simpa using h f hf
section
variable {st : St} {dt : Dt}
theorem Rl.find (H : Rl st dt) (hU : Uq st.fr) {b j : Nat} {f : Fr} (hl : look st.fr b = some (j, f)) : ∃ k, fk dt.L b = some k ∧ dt.L[k]? = some f := by
  obtain ⟨h1, h2⟩ := look_some hl
  cases hk : fk dt.L b with
  | none => exact absurd h2 (fk_none hk (H.pm.mem_iff.2 (mem_fr.2 ⟨j, h1⟩)))
  | some k =>
    obtain ⟨f', hf', hb'⟩ := fk_some hk
    obtain ⟨j', hj'⟩ := mem_fr.1 (H.pm.mem_iff.1 (List.mem_of_getElem? hf'))
    obtain rfl := hU j j' f f' h1 hj' (h2.trans hb'.symm)
    rw [h1] at hj'
    obtain rfl : f = f' := by simpa using hj'
    exact ⟨k, rfl, hf'⟩
theorem Rl.find_none (H : Rl st dt) {b : Nat} (hl : look st.fr b = none) : fk dt.L b = none :=
  fk_none_of fun j g _ hg => by
    obtain ⟨j', hj'⟩ := mem_fr.1 (H.pm.mem_iff.1 (List.mem_of_getElem? hg))
    exact look_none hl j' g hj'
theorem Rl.len (H : Rl st dt) : dt.L.length = occ st.fr := H.pm.length_eq
end
/-! ### frames -/
theorem goneD_none {L : List Fr} {b : Nat} (h : ∀ f, f ∈ L → f.1 ≠ b) : goneD L b = L := by
  unfold goneD
  exact List.filter_eq_self.2 fun f hf => by simpa using h f hf
theorem goneD_perm {L L' : List Fr} (h : L.Perm L') (b : Nat) : (goneD L b).Perm (goneD L' b) := h.filter _
theorem goneD_fr {b : Nat} : ∀ {fr : List (Option Fr)} {a : Nat}, (∀ (j : Nat) (g : Fr), fr[j]? = some (some g) → g.1 = b → j = a) → (∀ g : Fr, fr[a]? = some (some g) → g.1 = b) → goneD (fr.filterMap id) b = (fr.set a none).filterMap id := by
  intro fr
  induction fr with
  | nil => intro a _ _; simp [goneD]
  | cons z l ih =>
    intro a hU hx
    cases a with
    | zero =>
      have h1 : ∀ f, f ∈ l.filterMap id → f.1 ≠ b := fun f hf e => by
        obtain ⟨j, hj⟩ := mem_fr.1 hf
        have := hU (j + 1) f (by simpa using hj) e
        omega
      cases z with
      | none => simpa using goneD_none h1
      | some g =>
        have hg : g.1 = b := hx g (by simp)
        have := goneD_none h1
        unfold goneD at this ⊢
        simp only [List.filterMap_cons, id, List.set_cons_zero]
        rw [List.filter_cons_of_neg (by simpa using hg)]
        exact this
    | succ a =>
      have hi := ih (a := a) (fun j g hj hg => by
        have := hU (j + 1) g (by simpa using hj) hg
        omega) (fun g hg => hx g (by simpa using hg))
      cases z with
      | none => simpa using hi
      | some g =>
        have hg : g.1 ≠ b := fun e => by
          have := hU 0 g (by simp) e
          omega
        unfold goneD at hi ⊢
        simp only [List.filterMap_cons, id, List.set_cons_succ]
        rw [List.filter_cons_of_pos (by simpa using hg), hi]
theorem set_perm {f : Fr} : ∀ {fr : List (Option Fr)} {a : Nat}, a < fr.length → ((fr.set a (some f)).filterMap id).Perm (f :: (fr.set a none).filterMap id) := by
  intro fr
  induction fr with
  | nil => intro a h; simp at h
  | cons z l ih =>
    intro a h
    cases a with
    | zero => simp
    | succ a =>
      have hi := ih (a := a) (by simpa using h)
      cases z with
      | none => simpa using hi
      | some g =>
        simp only [List.set_cons_succ, List.filterMap_cons, id]
        exact (List.Perm.cons g hi).trans (List.Perm.swap f g _)
theorem with_perm {L : List Fr} {fr : List (Option Fr)} (h : L.Perm (fr.filterMap id)) {a : Nat} {f : Fr} (ha : a < fr.length) (hU : ∀ (j : Nat) (g : Fr), fr[j]? = some (some g) → g.1 = f.1 → j = a) (hx : ∀ g : Fr, fr[a]? = some (some g) → g.1 = f.1) : (withD L f).Perm ((fr.set a (some f)).filterMap id) := by
  unfold withD
  have h1 := goneD_perm h f.1
  rw [goneD_fr hU hx] at h1
  exact ((h1.append_right [f]).trans List.perm_append_comm).trans (set_perm ha).symm
theorem gone_perm {L : List Fr} {fr : List (Option Fr)} (h : L.Perm (fr.filterMap id)) {a b : Nat} (hU : ∀ (j : Nat) (g : Fr), fr[j]? = some (some g) → g.1 = b → j = a) (hx : ∀ g : Fr, fr[a]? = some (some g) → g.1 = b) : (goneD L b).Perm ((fr.set a none).filterMap id) := by
  have h1 := goneD_perm h b
  rwa [goneD_fr hU hx] at h1
/-- of a frame and its block -/
theorem uq_one {fr : List (Option Fr)} (hU : Uq fr) {a : Nat} {f : Fr} (hf : fr[a]? = some (some f)) : (∀ (j : Nat) (g : Fr), fr[j]? = some (some g) → g.1 = f.1 → j = a) ∧ ∀ g : Fr, fr[a]? = some (some g) → g.1 = f.1 :=
  ⟨fun j g hj e => hU j a g f hj hf e, fun g hg => by
    rw [hf] at hg
    obtain rfl : f = g := by simpa using hg
    rfl⟩
theorem uq_free {fr : List (Option Fr)} {a b : Nat} (hl : look fr b = none) (hf : fr[a]? = some none) : (∀ (j : Nat) (g : Fr), fr[j]? = some (some g) → g.1 = b → j = a) ∧ ∀ g : Fr, fr[a]? = some (some g) → g.1 = b :=
  ⟨fun j g hj e => absurd e (look_none hl j g hj), fun g hg => by rw [hf] at hg; cases hg⟩
theorem occ_full {fr : List (Option Fr)} (h : ∀ j : Nat, j < fr.length → ∃ f : Fr, fr[j]? = some (some f)) : occ fr = fr.length := by
  induction fr with
  | nil => rfl
  | cons z l ih =>
    obtain ⟨f, hf⟩ := h 0 (by simp)
    obtain rfl : z = some f := by simpa using hf
    have := ih fun j hj => by
      obtain ⟨g, hg⟩ := h (j + 1) (by simpa using hj)
      exact ⟨g, by simpa using hg⟩
    unfold occ at this ⊢
    simp [this]
theorem occ_lt {fr : List (Option Fr)} {a : Nat} (h : fr[a]? = some none) : occ fr < fr.length := by
  have h1 := occ_set (y := some ((0, [], false, 0) : Fr)) h
  have h2 := occ_le (fr.set a (some (0, [], false, 0)))
  rw [List.length_set] at h2
  simp at h1
  omega
/-! ### the row -/
theorem woD_none {R : List Nat} {b : Nat} (h : b ∉ R) : woD R b = R := by
  unfold woD
  refine List.filter_eq_self.2 fun x hx => ?_
  have : x ≠ b := by rintro rfl; exact h hx
  simpa using this
def blkAt (fr : List (Option Fr)) (j : Nat) : Option Nat := ((fr[j]?).getD none).map (·.1)
theorem rowL_eq (st : St) : rowL st = st.row.filterMap (blkAt st.fr) := rfl
theorem blkAt_some {fr : List (Option Fr)} {j : Nat} {f : Fr} (h : fr[j]? = some (some f)) : blkAt fr j = some f.1 := by simp [blkAt, h]
theorem blkAt_none {fr : List (Option Fr)} {j : Nat} (h : fr[j]? = some none) : blkAt fr j = none := by simp [blkAt, h]
theorem blkAt_inv {fr : List (Option Fr)} {j b : Nat} (h : blkAt fr j = some b) : ∃ f, fr[j]? = some (some f) ∧ f.1 = b := by
  unfold blkAt at h
  cases hj : fr[j]? with
  | none => rw [hj] at h; cases h
  | some x =>
    cases x with
    | none => rw [hj] at h; cases h
    | some f =>
      rw [hj] at h
      exact ⟨f, rfl, by simpa using h⟩
theorem blkAt_set {fr : List (Option Fr)} {a j : Nat} (x : Option Fr) (h : j ≠ a) : blkAt (fr.set a x) j = blkAt fr j := by
  unfold blkAt
  rw [set_ne h]
theorem row_wo {fr : List (Option Fr)} {a b : Nat} (x : Option Fr) (hU : ∀ (j : Nat) (g : Fr), fr[j]? = some (some g) → g.1 = b → j = a) (hb : ∀ g : Fr, fr[a]? = some (some g) → g.1 = b) : ∀ row : List Nat, woD (row.filterMap (blkAt fr)) b = (del row a).filterMap (blkAt (fr.set a x)) := by
  intro row
  induction row with
  | nil => rfl
  | cons j l ih =>
    by_cases e : j = a
    · subst e
      have e1 : del (j :: l) j = del l j := by simp [del]
      rw [e1, ← ih]
      cases hj : blkAt fr j with
      | none => rw [List.filterMap_cons_none hj]
      | some c =>
        obtain ⟨f, hf, rfl⟩ := blkAt_inv hj
        rw [List.filterMap_cons_some hj]
        unfold woD
        rw [List.filter_cons_of_neg (by simpa using hb f hf)]
    · have e1 : del (j :: l) a = j :: del l a := by simp [del, e]
      rw [e1]
      cases hj : blkAt fr j with
      | none =>
        rw [List.filterMap_cons_none hj, List.filterMap_cons_none ((blkAt_set x e).trans hj)]
        exact ih
      | some c =>
        obtain ⟨f, hf, rfl⟩ := blkAt_inv hj
        rw [List.filterMap_cons_some hj, List.filterMap_cons_some ((blkAt_set x e).trans hj), ← ih]
        have : f.1 ≠ b := fun h => e (hU j f hf h)
        unfold woD
        rw [List.filter_cons_of_pos (by simpa using this)]
theorem row_same {fr : List (Option Fr)} {a : Nat} {f f' : Fr} (hf : fr[a]? = some (some f)) (h1 : f'.1 = f.1) (row : List Nat) : row.filterMap (blkAt (fr.set a (some f'))) = row.filterMap (blkAt fr) := by
  congr 1
  funext j
  by_cases e : j = a
  · subst e
    rw [blkAt_some (set_eq hf), blkAt_some hf, h1]
  · exact blkAt_set _ e
theorem row_not {fr : List (Option Fr)} {b : Nat} (hl : look fr b = none) (row : List Nat) : b ∉ row.filterMap (blkAt fr) := by
  intro h
  rw [List.mem_filterMap] at h
  obtain ⟨j, _, hj⟩ := h
  obtain ⟨f, hf, rfl⟩ := blkAt_inv hj
  exact look_none hl j f hf rfl
theorem row_far {fr : List (Option Fr)} {a : Nat} (x : Option Fr) : ∀ {row : List Nat}, a ∉ row → row.filterMap (blkAt (fr.set a x)) = row.filterMap (blkAt fr) := by
  intro row
  induction row with
  | nil => intro _; rfl
  | cons j l ih =>
    intro h
    have hj : j ≠ a := fun e => h (by simp [e])
    have hl := ih fun e => h (by simp [e])
    cases hc : blkAt fr j with
    | none => rw [List.filterMap_cons_none hc, List.filterMap_cons_none ((blkAt_set x hj).trans hc), hl]
    | some c => rw [List.filterMap_cons_some hc, List.filterMap_cons_some ((blkAt_set x hj).trans hc), hl]
end Ca
end Go.Proofs.Ytjnbdmimflhhiaa

namespace Go.Proofs.Ytjnbdmimflhhiaa
namespace Ca
open Cn (del del_notin)

section
variable {st : St} {dt : Dt}
theorem Rl.len64 (H : Rl st dt) (hg : Good st) : dt.L.length ≤ 64 := by rw [H.len]; exact Nat.le_trans (occ_le _) hg.n2
theorem Rl.len_with {L : List Fr} {fr : List (Option Fr)} (h : L.Perm (fr.filterMap id)) (hn : fr.length ≤ 64) : L.length ≤ 100 := by
  have := h.length_eq
  have := occ_le fr
  unfold occ at this
  omega
/-- a frame is changed, its block stays -/
theorem Rl.mark (H : Rl st dt) (hU : Uq st.fr) {a : Nat} {f f' : Fr} (hf : st.fr[a]? = some (some f)) (h1 : f'.1 = f.1) : Rl { st with fr := st.fr.set a (some f') } { dt with L := withD dt.L f' } := by
  obtain ⟨u1, u2⟩ := uq_one hU hf
  refine ⟨H.m, H.ls, H.r, H.s, with_perm H.pm (lt_of_get hf) (by rw [h1]; exact u1) (by rw [h1]; exact u2), ?_, ?_⟩
  · simpa using H.most
  · show dt.row = _
    rw [H.row, rowL_eq, rowL_eq]
    exact (row_same hf h1 _).symm
/-- a frame is pinned anew -/
theorem Rl.fill (H : Rl st dt) (hU : Uq st.fr) {a : Nat} {f f' : Fr} (hf : st.fr[a]? = some (some f)) (h1 : f'.1 = f.1) : Rl (fillT st a f') { dt with row := woD dt.row f.1, L := withD dt.L f' } := by
  obtain ⟨u1, u2⟩ := uq_one hU hf
  refine ⟨H.m, H.ls, H.r, H.s, with_perm H.pm (lt_of_get hf) (by rw [h1]; exact u1) (by rw [h1]; exact u2), ?_, ?_⟩
  · simpa [fillT] using H.most
  · show woD dt.row f.1 = _
    rw [H.row, rowL_eq, rowL_eq]
    exact row_wo _ u1 u2 _
/-- a block comes into a free frame -/
theorem Rl.fill_free (H : Rl st dt) {a : Nat} {f' : Fr} (hf : st.fr[a]? = some none) (hl : look st.fr f'.1 = none) : Rl (fillT st a f') { dt with row := woD dt.row f'.1, L := withD dt.L f' } ∧ woD dt.row f'.1 = dt.row := by
  obtain ⟨u1, u2⟩ := uq_free hl hf
  refine ⟨⟨H.m, H.ls, H.r, H.s, with_perm H.pm (lt_of_get hf) u1 u2, ?_, ?_⟩, ?_⟩
  · simpa [fillT] using H.most
  · show woD dt.row f'.1 = _
    rw [H.row, rowL_eq, rowL_eq]
    exact row_wo _ u1 u2 _
  · rw [H.row, rowL_eq]
    exact woD_none (row_not hl _)
/-- a frame is emptied -/
theorem Rl.empty (H : Rl st dt) (hU : Uq st.fr) {a : Nat} {f : Fr} (hf : st.fr[a]? = some (some f)) : Rl (emptyT st a) { dt with row := woD dt.row f.1, L := goneD dt.L f.1 } := by
  obtain ⟨u1, u2⟩ := uq_one hU hf
  refine ⟨H.m, H.ls, H.r, H.s, gone_perm H.pm u1 u2, ?_, ?_⟩
  · simpa [emptyT] using H.most
  · show woD dt.row f.1 = _
    rw [H.row, rowL_eq, rowL_eq]
    unfold emptyT
    simp only
    rw [List.filterMap_append, row_wo none u1 u2]
    have : blkAt (st.fr.set a none) a = none := blkAt_none (set_eq hf)
    simp [this]
/-- the last pin goes -/
theorem Rl.loose (H : Rl st dt) (hg : Good st) {a : Nat} {f f' : Fr} (hf : st.fr[a]? = some (some f)) (hp : f.2.2.2 ≠ 0) (h1 : f'.1 = f.1) : Rl { st with fr := st.fr.set a (some f'), row := a :: del st.row a } { dt with L := withD dt.L f', row := f.1 :: dt.row } := by
  obtain ⟨u1, u2⟩ := uq_one hg.uq hf
  have hn : a ∉ st.row := fun h => hp (((hg.rw a).1 h).2 f hf)
  refine ⟨H.m, H.ls, H.r, H.s, with_perm H.pm (lt_of_get hf) (by rw [h1]; exact u1) (by rw [h1]; exact u2), ?_, ?_⟩
  · simpa using H.most
  · show f.1 :: dt.row = _
    rw [H.row, rowL_eq, rowL_eq]
    simp only
    have e : del st.row a = st.row := Cn.del_none hn
    rw [e, List.filterMap_cons_some (blkAt_some (set_eq hf)), row_far _ hn, h1]
/-- a frame's bytes are written back -/
theorem Rl.clean (H : Rl st dt) (hg : Good st) {a b p : Nat} {x : List UInt8} (hf : st.fr[a]? = some (some (b, x, true, p))) : Rl (cleanT st a) { dt with ls := dt.ls.set b x, s := dt.s + 1, L := withD dt.L (b, x, false, p) } := by
  obtain ⟨h1, h2, h3, h4, h5, h6, h7⟩ := H.mark (f' := (b, x, false, p)) hg.uq hf rfl
  unfold cleanT
  rw [hf]
  refine ⟨h1, ?_, h3, ?_, h5, h6, h7⟩
  · show dt.ls.set b x = _
    rw [H.ls]
  · show dt.s + 1 = _
    rw [H.s]
theorem full_of (hg : Good st) {a e : List Nat} (hr : st.row = a ++ e) (ha : ∀ j ∈ a, ∃ f : Fr, st.fr[j]? = some (some f)) (he : e = []) : occ st.fr = st.fr.length := by
  subst he
  rw [List.append_nil] at hr
  refine occ_full fun j hj => ?_
  by_cases h : j ∈ st.row
  · exact ha j (by rw [← hr]; exact h)
  · cases hx : st.fr[j]? with
    | none => rw [List.getElem?_eq_none_iff] at hx; omega
    | some x =>
      cases x with
      | some f => exact ⟨f, rfl⟩
      | none => exact absurd ((hg.rw j).2 ⟨hj, fun f hf => by rw [hx] at hf; cases hf⟩) h
theorem Rl.room_none (H : Rl st dt) (hg : Good st) (hr : roomT st = none) : dt.most ≤ dt.L.length ∧ dt.row = [] := by
  have hrow : st.row = [] := by
    unfold roomT at hr
    cases hl : st.row.getLast? with
    | none => simpa using hl
    | some a =>
      rw [hl] at hr
      simp only at hr
      split at hr <;> cases hr
  refine ⟨?_, ?_⟩
  · rw [H.most, H.len, full_of hg (a := []) (e := []) (by simpa using hrow) (by simp) rfl]
    exact Nat.le_refl _
  · rw [H.row, rowL_eq, hrow]; rfl
theorem Rl.room_some (H : Rl st dt) (hg : Good st) {a : Nat} {t : St} (hr : roomT st = some (a, t)) : (t = st ∧ dt.L.length < dt.most) ∨ ∃ f : Fr, st.fr[a]? = some (some f) ∧ t = emptyT (cleanT st a) a ∧ dt.most ≤ dt.L.length ∧ 0 < dt.row.length ∧ dt.row[dt.row.length - 1]? = some f.1 := by
  obtain ⟨l, e, hrow, hl, he⟩ := hg.sp
  unfold roomT at hr
  cases hla : st.row.getLast? with
  | none => rw [hla] at hr; cases hr
  | some a' =>
    rw [hla] at hr
    simp only at hr
    rcases List.eq_nil_or_concat e with rfl | ⟨e', z, rfl⟩
    · right
      have hfull := full_of hg hrow hl rfl
      rw [List.append_nil] at hrow
      have hm : a' ∈ l := by rw [← hrow]; exact List.mem_of_getLast? hla
      obtain ⟨f, hf⟩ := hl a' hm
      rw [hf] at hr
      simp only [Option.some.injEq, Prod.mk.injEq] at hr
      obtain ⟨rfl, rfl⟩ := hr
      have hlast : (rowL st).getLast? = some f.1 := by
        obtain ⟨l2, hl2⟩ := List.getLast?_eq_some_iff.1 hla
        rw [rowL_eq, hl2, List.filterMap_append]
        simp [blkAt_some hf]
      refine ⟨f, hf, rfl, ?_, ?_, ?_⟩
      · rw [H.most, H.len, hfull]; exact Nat.le_refl _
      · rw [H.row]
        cases hh : rowL st with
        | nil => rw [hh] at hlast; cases hlast
        | cons x r => simp
      · rw [H.row, ← List.getLast?_eq_getElem?]
        exact hlast
    · left
      have hz : st.fr[z]? = some none := he z (by simp)
      have e1 : a' = z := by
        rw [hrow] at hla
        simp only [List.concat_eq_append, ← List.append_assoc, List.getLast?_concat, Option.some.injEq] at hla
        exact hla.symm
      subst e1
      rw [hz] at hr
      simp only [Option.some.injEq, Prod.mk.injEq] at hr
      refine ⟨hr.2.symm, ?_⟩
      rw [H.most, H.len]
      exact occ_lt hz
/-- the document's dirty blocks are the program's -/
theorem Rl.dirty (H : Rl st dt) (hU : Uq st.fr) : dN dt.L dt.ls.length = dirtyL st := by
  unfold dN dirtyL
  rw [H.ls]
  congr 1
  funext i
  cases hl : look st.fr i with
  | none =>
    rw [dP_none (H.find_none hl)]
    unfold dirtyP
    rw [hl]
  | some y =>
    obtain ⟨j, f⟩ := y
    obtain ⟨k, hk, hf⟩ := H.find hU hl
    rw [dP_some hk hf]
    unfold dirtyP
    rw [hl]
/-- one block is written back, on both sides -/
theorem Rl.cleanB (H : Rl st dt) (hg : Good st) {i : Nat} (hd : dirtyP st i = true) (hs : dt.s ≤ 1000000) : ∃ dt', CleanD dt dt' i ∧ Rl (cleanB st i) dt' := by
  unfold dirtyP at hd
  cases hl : look st.fr i with
  | none => rw [hl] at hd; cases hd
  | some y =>
    obtain ⟨j, f⟩ := y
    rw [hl] at hd
    obtain ⟨hf, hb⟩ := look_some hl
    obtain ⟨k, hk, hfk⟩ := H.find hg.uq hl
    obtain ⟨b, x, d, p⟩ := f
    simp only at hd hb
    subst hd hb
    obtain ⟨h1, h2⟩ := hg.blk _ _ hf
    refine ⟨_, ⟨k, (b, x, true, p), hk, hfk, rfl, by rw [H.ls]; exact h1, by rw [H.m]; exact h2, hs, rfl⟩, ?_⟩
    unfold Ca.cleanB
    rw [hl]
    exact H.clean hg hf
theorem Rl.cleans : ∀ (l : List Nat), l.Nodup → ∀ {st : St} {dt : Dt}, Rl st dt → Good st → (∀ i, i ∈ l → dirtyP st i = true) → st.s + l.length ≤ 1000000 → ∃ T : Nat → Dt, T 0 = dt ∧ (∀ k i, l[k]? = some i → CleanD (T k) (T (k + 1)) i) ∧ Rl (l.foldl Ca.cleanB st) (T l.length) := by
  intro l
  induction l with
  | nil =>
    intro _ st dt H _ _ _
    exact ⟨fun _ => dt, rfl, fun k i h => by simp at h, H⟩
  | cons x r ih =>
    intro hnd st dt H hg hd hs
    obtain ⟨hx, hnr⟩ := List.nodup_cons.1 hnd
    rw [List.length_cons] at hs
    obtain ⟨d1, hc, H1⟩ := H.cleanB hg (hd x (by simp)) (by rw [H.s]; omega)
    have hs1 : (Ca.cleanB st x).s ≤ st.s + 1 := (cost_cleanB st x).s2
    obtain ⟨T, hT0, hT, hR⟩ := ih hnr H1 (hg.cleanB x) (fun i hi => by
      rw [dirty_cleanB hg x i, hd i (by simp [hi])]
      have : i ≠ x := by rintro rfl; exact hx hi
      simpa using this) (by omega)
    refine ⟨fun k => match k with | 0 => dt | k + 1 => T k, rfl, fun k i hk => ?_, hR⟩
    cases k with
    | zero =>
      obtain rfl : x = i := by simpa using hk
      show CleanD dt (T 0) x
      rw [hT0]
      exact hc
    | succ k => exact hT k i (by simpa using hk)
end
end Ca
end Go.Proofs.Ytjnbdmimflhhiaa

namespace Go.Proofs.Ytjnbdmimflhhiaa
open Go.RowKit
namespace Ca
open Mem Dv Cn Po

/-- a cache that tells as st does, and a number -/
def Ans (w' : World) (st' : St) (z : Int) (e : Ending) : Prop := ∃ v dt', e = .returned (.tuple #[v, .int .i64 z]) ∧ DRes w' dt' v ∧ Rl st' dt'
theorem goneD_with (L : List Fr) (f : Fr) : goneD (withD L f) f.1 = goneD L f.1 := by
  unfold withD goneD
  rw [List.filter_append, List.filter_filter]
  simp
section
variable {st : St} {dt : Dt}
theorem RoomAny (hg : Good st) (H : Rl st dt) (hs : st.s ≤ 1000000) {a : Nat} {t : St} (hr : roomT st = some (a, t)) : ∃ t2, Rl t t2 ∧ ∀ {w : World} {h hc c d : Nat} {A B : Option Addr}, DL w dt h hc A c B → Calls Try.prog 75 #[dvV dt h hc A c B d] w fun e w' => (∃ v, e = .returned (.tuple #[v, .bool true]) ∧ DRes w' t2 v) ∧ Below w.heap.size w w' := by
  rcases H.room_some hg hr with ⟨rfl, hlt⟩ | ⟨f, hf, rfl, h1, h2, h3⟩
  · refine ⟨dt, H, fun {w h hc c d A B} hD => (Room_free hD hlt).mono fun e w' he => ?_⟩
    obtain ⟨rfl, hb⟩ := he
    exact ⟨⟨_, rfl, ⟨h, hc, A, c, B, d, rfl, hD.kept hb⟩⟩, hb⟩
  · obtain ⟨k, hk, hfk⟩ := H.find hg.uq (look_at hg.uq hf)
    obtain ⟨b, x, dd, p⟩ := f
    cases dd with
    | false =>
      have e : cleanT st a = st := by unfold cleanT; rw [hf]
      rw [e]
      exact ⟨_, H.empty hg.uq hf, fun hD => Room_clean hD h1 h2 h3 hk hfk rfl⟩
    | true =>
      have H1 := (H.clean hg hf).empty (hg.clean a).uq (clean_at hf)
      simp only at H1
      rw [show goneD (withD dt.L (b, x, false, p)) b = goneD dt.L b from goneD_with dt.L (b, x, false, p)] at H1
      obtain ⟨g1, g2⟩ := hg.blk _ _ hf
      exact ⟨_, H1, fun hD => Room_dirty hD h1 h2 h3 hk hfk rfl (by rw [H.ls]; exact g1) (by rw [H.m]; exact g2) (by rw [H.s]; exact hs)⟩
theorem RoomNone (hg : Good st) (H : Rl st dt) (hr : roomT st = none) {w : World} {h hc c d : Nat} {A B : Option Addr} (hD : DL w dt h hc A c B) : Calls Try.prog 75 #[dvV dt h hc A c B d] w fun e w' => e = .returned (.tuple #[dvV dt h hc A c B d, .bool false]) ∧ Below w.heap.size w w' := by
  obtain ⟨h1, h2⟩ := H.room_none hg hr
  exact Room_no hD h1 h2
theorem Ans.of {w' : World} {st' : St} {z z' : Int} {dt' : Dt} {e : Ending} (h : ∃ v, e = .returned (.tuple #[v, .int .i64 z']) ∧ DRes w' dt' v) (hz : z' = z) (hr : Rl st' dt') : Ans w' st' z e := by
  subst hz
  obtain ⟨v, he, hd⟩ := h
  exact ⟨v, dt', he, hd, hr⟩
theorem room_look {a b : Nat} {t : St} (hg : Good st) (hr : roomT st = some (a, t)) (hl : look st.fr b = none) : look t.fr b = none := by
  obtain ⟨_, _, _, _, h5, _⟩ := room_spec hg hr
  exact look_none_of fun j f hf => look_none hl j f (h5 j f hf)
theorem WPin {W : World} {zm zr zs zo : Int} {h nl hc N c nr d : Nat} {A B : Option Addr} (H : Raw W dt zm zr zs zo h nl hc N c nr d A B) (R : Rl st dt) (hg : Good st) (hK : Sm st 900000) {b : Nat} (hb2 : b < 4294967296) : Calls Try.prog 36 #[.agg #[.int .i64 zm, .slice (some ⟨h, 0, none⟩) nl hc, .int .i64 zr, .int .i64 zs, .slice A N c, .int .i64 zo, .slice B nr d], .int .u32 (b : Int)] W fun e w' => Ans w' (pinT st b).2 (pinT st b).1 e ∧ Below W.heap.size W w' := by
  have hn : nl = st.ls.length := by rw [← H.en, R.ls]
  by_cases hb : b < nl
  · have hb' : b < st.ls.length := by rw [← hn]; exact hb
    cases hl : look st.fr b with
    | some y =>
      obtain ⟨j, f⟩ := y
      obtain ⟨hf, hfb⟩ := look_some hl
      obtain ⟨k, hk, hfk⟩ := R.find hg.uq hl
      have e : pinT st b = (0, fillT st j (f.1, f.2.1, f.2.2.1, f.2.2.2 + 1)) := by unfold pinT; rw [if_pos hb', hl]
      have hR := R.fill (f' := (f.1, f.2.1, f.2.2.1, f.2.2.2 + 1)) hg.uq hf rfl
      rw [hfb] at hR
      rw [e, hfb]
      refine (DPin_have H hb hb2 hk hfk (Nat.le_trans (hK.p _ _ hf) (by decide))).mono fun e' w' he => ⟨Ans.of he.1 rfl ?_, he.2⟩
      rw [hfb]
      exact hR
    | none =>
      have hk := R.find_none hl
      cases hr : roomT st with
      | none =>
        have e : pinT st b = (7, st) := by unfold pinT; rw [if_pos hb', hl, hr]
        rw [e]
        refine (DPin_full H hb hb2 hk fun w hw => ?_).mono fun e' w' he => ⟨Ans.of he.1 rfl R, he.2⟩
        have := RoomNone hg R hr (H.kept hw).dl (d := d)
        rw [H.val] at this
        exact Lib.hid this
      | some y =>
        obtain ⟨a, t⟩ := y
        obtain ⟨hgt, hta, hm, hll, hsub, hrr, hss⟩ := room_spec hg hr
        obtain ⟨t2, R2, hC⟩ := RoomAny hg R (Nat.le_trans hK.s (by decide)) hr
        have hlt := room_look hg hr hl
        have e : pinT st b = (0, fillT (readT t) a (b, (t.ls[b]?).getD [], false, 1)) := by unfold pinT; rw [if_pos hb', hl, hr]
        have hx : t2.ls[b]? = some ((t.ls[b]?).getD []) := by
          rw [R2.ls, List.getElem?_eq_getElem (by rw [hll]; exact hb')]
          rfl
        have R3 : Rl (readT t) { t2 with r := t2.r + 1 } := ⟨R2.m, R2.ls, by show t2.r + 1 = t.r + 1; rw [R2.r], R2.s, R2.pm, R2.most, R2.row⟩
        obtain ⟨R4, hwo⟩ := R3.fill_free (f' := (b, (t.ls[b]?).getD [], false, 1)) hta hlt
        simp only at R4 hwo
        rw [hwo] at R4
        rw [e]
        refine (DPin_new H hb hb2 hk hx (by rw [R2.r, hrr]; exact Nat.le_trans hK.r (by decide)) (Rl.len_with R4.pm (by simpa [fillT, readT] using hgt.n2)) fun w hw => ?_).mono fun e' w' he => ⟨Ans.of he.1 rfl R4, he.2⟩
        have := hC (H.kept hw).dl (d := d)
        rw [H.val] at this
        exact Lib.hid this
  · have e : pinT st b = (4, st) := by unfold pinT; rw [if_neg (by rw [← hn]; exact hb)]
    rw [e]
    exact (DPin_out H (by omega) hb2).mono fun e' w' he => ⟨Ans.of he.1 rfl R, he.2⟩
theorem WFresh {W : World} {zm zr zs zo : Int} {h nl hc N c nr d : Nat} {A B : Option Addr} (H : Raw W dt zm zr zs zo h nl hc N c nr d A B) (R : Rl st dt) (hg : Good st) (hK : Sm st 900000) (hm : st.m ≤ 65536) {b : Nat} (hb2 : b < 4294967296) : Calls Try.prog 37 #[.agg #[.int .i64 zm, .slice (some ⟨h, 0, none⟩) nl hc, .int .i64 zr, .int .i64 zs, .slice A N c, .int .i64 zo, .slice B nr d], .int .u32 (b : Int)] W fun e w' => Ans w' (freshT st b).2 (freshT st b).1 e ∧ Below W.heap.size W w' := by
  have hn : nl = st.ls.length := by rw [← H.en, R.ls]
  by_cases hb : b < nl
  · have hb' : b < st.ls.length := by rw [← hn]; exact hb
    cases hl : look st.fr b with
    | some y =>
      obtain ⟨j, f⟩ := y
      obtain ⟨hf, hfb⟩ := look_some hl
      obtain ⟨k, hk, hfk⟩ := R.find hg.uq hl
      have hp := pinsP_of hl
      by_cases h0 : 0 < f.2.2.2
      · have e : freshT st b = (8, st) := by unfold freshT; rw [if_pos hb', if_pos (by rw [hp]; exact h0)]
        rw [e]
        exact (DFresh_pinned H hb hb2 hk hfk h0).mono fun e' w' he => ⟨Ans.of he.1 rfl R, he.2⟩
      · have e : freshT st b = (0, fillT st j (b, zeros st.m, true, 1)) := by unfold freshT; rw [if_pos hb', if_neg (by rw [hp]; exact h0), hl]; rfl
        have hR := R.fill (f' := (b, zeros st.m, true, 1)) hg.uq hf hfb.symm
        rw [hfb] at hR
        rw [e]
        exact (DFresh_have H hb hb2 R.m hm hk hfk hfb (by omega)).mono fun e' w' he => ⟨Ans.of he.1 rfl hR, he.2⟩
    | none =>
      have hk := R.find_none hl
      have hp := pinsP_no hl
      cases hr : roomT st with
      | none =>
        have e : freshT st b = (7, st) := by unfold freshT; rw [if_pos hb', if_neg (by rw [hp]; omega), hl, hr]
        rw [e]
        refine (DFresh_full H hb hb2 hk fun w hw => ?_).mono fun e' w' he => ⟨Ans.of he.1 rfl R, he.2⟩
        have := RoomNone hg R hr (H.kept hw).dl (d := d)
        rw [H.val] at this
        exact Lib.hid this
      | some y =>
        obtain ⟨a, t⟩ := y
        obtain ⟨hgt, hta, hmt, hll, hsub, hrr, hss⟩ := room_spec hg hr
        obtain ⟨t2, R2, hC⟩ := RoomAny hg R (Nat.le_trans hK.s (by decide)) hr
        have hlt := room_look hg hr hl
        have e : freshT st b = (0, fillT t a (b, zeros st.m, true, 1)) := by unfold freshT; rw [if_pos hb', if_neg (by rw [hp]; omega), hl, hr]; rfl
        obtain ⟨R4, _⟩ := R2.fill_free (f' := (b, zeros st.m, true, 1)) hta hlt
        rw [e]
        refine (DFresh_new H hb hb2 (by rw [R2.m, hmt]) hm hk (Rl.len_with R4.pm (by simpa [fillT] using hgt.n2)) fun w hw => ?_).mono fun e' w' he => ⟨Ans.of he.1 rfl R4, he.2⟩
        have := hC (H.kept hw).dl (d := d)
        rw [H.val] at this
        exact Lib.hid this
  · have e : freshT st b = (4, st) := by unfold freshT; rw [if_neg (by rw [← hn]; exact hb)]
    rw [e]
    exact (DFresh_out H (by omega) hb2).mono fun e' w' he => ⟨Ans.of he.1 rfl R, he.2⟩
/-- whether a block is pinned -/
theorem Rl.pinned (R : Rl st dt) (hg : Good st) (b : Nat) : (∃ (j : Nat) (f : Fr) (k : Nat), look st.fr b = some (j, f) ∧ f.2.2.2 ≠ 0 ∧ pZ dt.L b = (k : Int) ∧ dt.L[k]? = some f) ∨ ((∀ (j : Nat) (f : Fr), look st.fr b = some (j, f) → f.2.2.2 = 0) ∧ pZ dt.L b = -1) := by
  cases hl : look st.fr b with
  | none => exact .inr ⟨fun j f h => by (cases h), pZ_none (R.find_none hl)⟩
  | some y =>
    obtain ⟨j, f⟩ := y
    obtain ⟨k, hk, hf⟩ := R.find hg.uq hl
    by_cases hp : f.2.2.2 = 0
    · exact .inr ⟨fun j' f' h => by cases h; exact hp, pZ_zero hk hf hp⟩
    · exact .inl ⟨j, f, k, rfl, hp, pZ_some hk hf hp, hf⟩
theorem Good.row64 (hg : Good st) : st.row.length ≤ 64 := by
  have := sub_len hg.nd (l' := List.range st.fr.length) fun x hx => by
    rw [List.mem_range]
    exact ((hg.rw x).1 hx).1
  rw [List.length_range] at this
  exact Nat.le_trans this hg.n2
theorem Ans.same {w' : World} {z : Int} {e : Ending} {v : Value} (he : e = .returned (.tuple #[v, .int .i64 z])) (hd : DRes w' dt v) (R : Rl st dt) : Ans w' st z e := ⟨v, dt, he, hd, R⟩
theorem WUnpin {W : World} {zm zr zs zo : Int} {h nl hc N c nr d : Nat} {A B : Option Addr} (H : Raw W dt zm zr zs zo h nl hc N c nr d A B) (R : Rl st dt) (hg : Good st) (hK : Sm st 900000) (b : Nat) : Calls Try.prog 38 #[.agg #[.int .i64 zm, .slice (some ⟨h, 0, none⟩) nl hc, .int .i64 zr, .int .i64 zs, .slice A N c, .int .i64 zo, .slice B nr d], .int .u32 (b : Int)] W fun e w' => Ans w' (unpinT st b).2 (unpinT st b).1 e ∧ Below W.heap.size W w' := by
  rw [← H.val]
  rcases R.pinned hg b with ⟨j, f, k, hl, hp, hz, hfk⟩ | ⟨hno, hz⟩
  · obtain ⟨hf, hfb⟩ := look_some hl
    by_cases h1 : f.2.2.2 = 1
    · have e : unpinT st b = (0, { st with fr := st.fr.set j (some (f.1, f.2.1, f.2.2.1, 0)), row := j :: del st.row j }) := by
        unfold unpinT
        rw [hl]
        simp only
        rw [if_neg hp, if_pos h1, h1]
      have hR := R.loose (f' := (f.1, f.2.1, f.2.2.1, 0)) hg hf hp rfl
      have hlen : dt.row.length + 1 ≤ 100 := by
        have h2 : dt.row.length ≤ st.row.length := by rw [R.row, rowL_eq]; exact List.length_filterMap_le _ _
        have := hg.row64
        omega
      rw [e, hfb]
      rw [hfb] at hR
      refine (DUnpin_last H.dl b hz hfk h1 hlen).mono fun e' w' he => ⟨Ans.of he.1 rfl ?_, he.2⟩
      rw [hfb]
      exact hR
    · have e : unpinT st b = (0, { st with fr := st.fr.set j (some (f.1, f.2.1, f.2.2.1, f.2.2.2 - 1)) }) := by
        unfold unpinT
        rw [hl]
        simp only
        rw [if_neg hp, if_neg h1]
      have hR := R.mark (f' := (f.1, f.2.1, f.2.2.1, f.2.2.2 - 1)) hg.uq hf rfl
      rw [e]
      exact (DUnpin_more H.dl b hz hfk (by omega) (Nat.le_trans (hK.p _ _ hf) (by decide))).mono fun e' w' he => ⟨Ans.of he.1 rfl hR, he.2⟩
  · have e : unpinT st b = (8, st) := by
      unfold unpinT
      cases hl : look st.fr b with
      | none => rfl
      | some y =>
        simp only
        rw [if_pos (hno y.1 y.2 hl)]
    rw [e]
    refine (DUnpin_no H.dl b (by rw [hz]; decide)).mono fun e' w' he => ?_
    obtain ⟨he1, he2⟩ := he
    exact ⟨Ans.same he1 ⟨h, hc, A, c, B, d, rfl, H.dl.kept he2⟩ R, he2⟩
theorem WWrite {W : World} {zm zr zs zo : Int} {h nl hc N c nr d : Nat} {A B : Option Addr} (H : Raw W dt zm zr zs zo h nl hc N c nr d A B) (R : Rl st dt) (hg : Good st) (b : Nat) (y : List UInt8) : Calls Try.prog 39 #[.agg #[.int .i64 zm, .slice (some ⟨h, 0, none⟩) nl hc, .int .i64 zr, .int .i64 zs, .slice A N c, .int .i64 zo, .slice B nr d], .int .u32 (b : Int), .string (strOf y)] W fun e w' => Ans w' (writeT st b y).2 (writeT st b y).1 e ∧ Below W.heap.size W w' := by
  rw [← H.val]
  rcases R.pinned hg b with ⟨j, f, k, hl, hp, hz, hfk⟩ | ⟨hno, hz⟩
  · obtain ⟨hf, hfb⟩ := look_some hl
    have hm := (hg.blk _ _ hf).2
    by_cases hy : y.length = f.2.1.length
    · have e : writeT st b y = (0, { st with fr := st.fr.set j (some (f.1, y, true, f.2.2.2)) }) := by
        unfold writeT
        rw [hl]
        simp only
        rw [if_neg hp, if_pos hy]
      have hR := R.mark (f' := (f.1, y, true, f.2.2.2)) hg.uq hf rfl
      rw [e]
      exact (DWrite_yes H.dl b y hz hfk (by rw [R.m, hy, hm])).mono fun e' w' he => ⟨Ans.of he.1 rfl hR, he.2⟩
    · have e : writeT st b y = (3, st) := by
        unfold writeT
        rw [hl]
        simp only
        rw [if_neg hp, if_neg hy]
      rw [e]
      refine (DWrite_form H.dl b y (by rw [hz]; omega) (by rw [R.m, ← hm]; exact hy)).mono fun e' w' he => ?_
      obtain ⟨he1, he2⟩ := he
      exact ⟨Ans.same he1 ⟨h, hc, A, c, B, d, rfl, H.dl.kept he2⟩ R, he2⟩
  · have e : writeT st b y = (8, st) := by
      unfold writeT
      cases hl : look st.fr b with
      | none => rfl
      | some y =>
        simp only
        rw [if_pos (hno y.1 y.2 hl)]
    rw [e]
    refine (DWrite_no H.dl b y (by rw [hz]; decide)).mono fun e' w' he => ?_
    obtain ⟨he1, he2⟩ := he
    exact ⟨Ans.same he1 ⟨h, hc, A, c, B, d, rfl, H.dl.kept he2⟩ R, he2⟩
theorem WDrop {W : World} {zm zr zs zo : Int} {h nl hc N c nr d : Nat} {A B : Option Addr} (H : Raw W dt zm zr zs zo h nl hc N c nr d A B) (R : Rl st dt) (hg : Good st) (b : Nat) : Calls Try.prog 40 #[.agg #[.int .i64 zm, .slice (some ⟨h, 0, none⟩) nl hc, .int .i64 zr, .int .i64 zs, .slice A N c, .int .i64 zo, .slice B nr d], .int .u32 (b : Int)] W fun e w' => Ans w' (dropT st b).2 (dropT st b).1 e ∧ Below W.heap.size W w' := by
  rw [← H.val]
  rcases R.pinned hg b with ⟨j, f, k, hl, hp, hz, hfk⟩ | ⟨hno, hz⟩
  · have e : dropT st b = (8, st) := by
      unfold dropT
      rw [pinsP_of hl, if_pos (by omega)]
    rw [e]
    refine (DDrop_no H.dl b (by rw [hz]; omega)).mono fun e' w' he => ?_
    obtain ⟨he1, he2⟩ := he
    exact ⟨Ans.same he1 ⟨h, hc, A, c, B, d, rfl, H.dl.kept he2⟩ R, he2⟩
  · refine (DDrop_yes H.dl b (by rw [hz]; decide)).mono fun e' w' he => ⟨?_, he.2⟩
    cases hl : look st.fr b with
    | none =>
      have e : dropT st b = (0, st) := by
        unfold dropT
        rw [pinsP_no hl, if_neg (by omega), hl]
      rw [e]
      refine Ans.of he.1 rfl ⟨R.m, R.ls, R.r, R.s, ?_, R.most, ?_⟩
      · show (goneD dt.L b).Perm _
        rw [goneD_none fun f hf => fk_none (R.find_none hl) hf]
        exact R.pm
      · show woD dt.row b = _
        rw [R.row, rowL_eq, woD_none (row_not hl _)]
    | some y =>
      obtain ⟨j, f⟩ := y
      obtain ⟨hf, hfb⟩ := look_some hl
      have h0 := hno j f hl
      have e : dropT st b = (0, emptyT st j) := by
        unfold dropT
        rw [pinsP_of hl, if_neg (by omega), hl]
      have hR := R.empty hg.uq hf
      rw [hfb] at hR
      rw [e]
      exact Ans.of he.1 rfl hR
/-- a cache that tells as st does -/
def FAns (w' : World) (st' : St) (e : Ending) : Prop := ∃ v dt', e = .returned v ∧ DRes w' dt' v ∧ Rl st' dt'
theorem WFlush {W : World} {zm zr zs zo : Int} {h nl hc N c nr d : Nat} {A B : Option Addr} (H : Raw W dt zm zr zs zo h nl hc N c nr d A B) (R : Rl st dt) (hg : Good st) (hK : Sm st 900000) (hl : st.ls.length ≤ 12) : Calls Try.prog 41 #[.agg #[.int .i64 zm, .slice (some ⟨h, 0, none⟩) nl hc, .int .i64 zr, .int .i64 zs, .slice A N c, .int .i64 zo, .slice B nr d]] W fun e w' => FAns w' (flushT st) e ∧ Below W.heap.size W w' := by
  have hD := R.dirty hg.uq
  obtain ⟨T, h0, hok, hR⟩ := Rl.cleans (dirtyL st) (List.nodup_range.filter _) R hg (fun i hi => by
    unfold dirtyL at hi
    rw [List.mem_filter] at hi
    exact hi.2) (by
    have h1 : (dirtyL st).length ≤ (List.range st.ls.length).length := List.length_filter_le _ _
    rw [List.length_range] at h1
    have := hK.s
    omega)
  refine (DFlush_any H T h0 (by rw [hD]; exact hok)).mono fun e w' he => ?_
  obtain ⟨⟨v, rfl, hv⟩, hb⟩ := he
  rw [hD] at hv
  exact ⟨⟨v, _, rfl, hv, hR⟩, hb⟩
theorem WRead {W : World} {zm zr zs zo : Int} {h nl hc N c nr d : Nat} {A B : Option Addr} (H : Raw W dt zm zr zs zo h nl hc N c nr d A B) (R : Rl st dt) (hg : Good st) (b : Nat) : Calls Try.prog 13 #[.agg #[.int .i64 zm, .slice (some ⟨h, 0, none⟩) nl hc, .int .i64 zr, .int .i64 zs, .slice A N c, .int .i64 zo, .slice B nr d], .int .u32 (b : Int)] W fun e w' => e = .returned (.tuple #[.string (strOf (readP st b).1), .int .i64 (readP st b).2]) ∧ Below W.heap.size W w' := by
  rw [← H.val]
  rcases R.pinned hg b with ⟨j, f, k, hl, hp, hz, hfk⟩ | ⟨hno, hz⟩
  · have e : readP st b = (f.2.1, 0) := by
      unfold readP
      rw [hl]
      simp only
      rw [if_neg hp]
    rw [e]
    exact DRead_some H.dl b hz hfk
  · have e : readP st b = ([], 8) := by
      unfold readP
      cases hl : look st.fr b with
      | none => rfl
      | some y =>
        simp only
        rw [if_pos (hno y.1 y.2 hl)]
    rw [e]
    exact DRead_no H.dl b hz
theorem WPins {W : World} {zm zr zs zo : Int} {h nl hc N c nr d : Nat} {A B : Option Addr} (H : Raw W dt zm zr zs zo h nl hc N c nr d A B) (R : Rl st dt) (hg : Good st) (b : Nat) : Calls Try.prog 18 #[.agg #[.int .i64 zm, .slice (some ⟨h, 0, none⟩) nl hc, .int .i64 zr, .int .i64 zs, .slice A N c, .int .i64 zo, .slice B nr d], .int .u32 (b : Int)] W fun e w' => e = .returned (.int .i64 (pinsP st b : Int)) ∧ Below W.heap.size W w' := by
  rw [← H.val]
  cases hl : look st.fr b with
  | none =>
    rw [pinsP_no hl]
    exact DPins_none H.dl b (R.find_none hl)
  | some y =>
    obtain ⟨j, f⟩ := y
    obtain ⟨k, hk, hf⟩ := R.find hg.uq hl
    rw [pinsP_of hl]
    exact DPins_some H.dl b hk hf
theorem WDirty {W : World} {zm zr zs zo : Int} {h nl hc N c nr d : Nat} {A B : Option Addr} (H : Raw W dt zm zr zs zo h nl hc N c nr d A B) (R : Rl st dt) (hg : Good st) : Calls Try.prog 21 #[.agg #[.int .i64 zm, .slice (some ⟨h, 0, none⟩) nl hc, .int .i64 zr, .int .i64 zs, .slice A N c, .int .i64 zo, .slice B nr d]] W fun e w' => (∃ A' n' c', e = .returned (.slice A' n' c') ∧ (dirtyL st).length = n' ∧ UL w' A' (dirtyL st)) ∧ Below W.heap.size W w' := by
  have hD := R.dirty hg.uq
  refine (DDirty_any H).mono fun e w' he => ?_
  rw [hD] at he
  obtain ⟨⟨A', n', c', rfl, hn, hv⟩, hb⟩ := he
  exact ⟨⟨A', n', c', rfl, hn, UL.of_vo hv⟩, hb⟩
end
end Ca
end Go.Proofs.Ytjnbdmimflhhiaa

namespace Go.Proofs.Ytjnbdmimflhhiaa
open Go.RowKit
namespace Ca
open Mem Dv Cn Po

theorem Raw.three (W : World) (o1 o2 o3 : Obj) : Below W.heap.size W (((W.alloc o1).alloc o2).alloc o3) ∧ (((W.alloc o1).alloc o2).alloc o3).heap[W.heap.size]? = some o1 ∧ (((W.alloc o1).alloc o2).alloc o3).heap[W.heap.size + 1]? = some o2 ∧ (((W.alloc o1).alloc o2).alloc o3).heap[W.heap.size + 2]? = some o3 := by
  obtain ⟨h1, h2, h3, _⟩ := three_allocs W o1 o2 o3
  exact ⟨h1, h2, h3, three_allocs2 W o1 o2 o3⟩
theorem act3 {w : World} {b : Nat} {v0 v1 v2 : Value} {U : TypeId} (h : w.heap[b]? = some (.cells #[v0, v1, v2] U (0, 0))) : w.cell? ⟨b, 0, none⟩ = some v0 ∧ w.cell? ⟨b, 1, none⟩ = some v1 ∧ w.cell? ⟨b, 2, none⟩ = some v2 := by
  simp [World.cell?, h]
section
variable {st : St} {dt : Dt}
set_option maxRecDepth 100000 in
set_option maxHeartbeats 2000000 in
theorem want_0 {W : World} {zm zr zs zo : Int} {h nl hc N c nr d : Nat} {A B : Option Addr} (H : Raw W dt zm zr zs zo h nl hc N c nr d A B) (R : Rl st dt) (hg : Good st) (hK : Sm st 900000) (hl : st.ls.length ≤ 12) (hm : st.m ≤ 65536) {i n k : Nat} {Y : Option Addr} {y : List UInt8} (hi : i < 4294967296) (hY : BL W Y y) (hn : y.length = n) : Calls Try.prog 10 #[.agg #[.int .i64 zm, .slice (some ⟨h, 0, none⟩) nl hc, .int .i64 zr, .int .i64 zs, .slice A N c, .int .i64 zo, .slice B nr d], .agg #[.int .i64 0, .int .u32 (i : Int), .slice Y n k]] W fun e w' => Ans w' (pinT st i).2 (pinT st i).1 e ∧ Below W.heap.size W w' := by
  obtain ⟨r, hr⟩ : ∃ r, r = pinT st i := ⟨_, rfl⟩
  rw [← hr]
  go_enter Try.func10, Try.ntmps10
  go_upto_region 1 with fail
  obtain ⟨hb3, hx0, hx1, hx2⟩ := Raw.three W (.cells #[.int .i64 zm, .slice (some ⟨h, 0, none⟩) nl hc, .int .i64 zr, .int .i64 zs, .slice A N c, .int .i64 zo, .slice B nr d] 39) (.cells #[.int .i64 0, .int .u32 (i : Int), .slice Y n k] 44) (.cells #[.int .i64 0, .slice none 0 0, .int .i64 0, .int .i64 0, .slice none 0 0, .int .i64 0, .slice none 0 0] 39)
  generalize ((W.alloc (.cells #[.int .i64 zm, .slice (some ⟨h, 0, none⟩) nl hc, .int .i64 zr, .int .i64 zs, .slice A N c, .int .i64 zo, .slice B nr d] 39)).alloc (.cells #[.int .i64 0, .int .u32 (i : Int), .slice Y n k] 44)).alloc (.cells #[.int .i64 0, .slice none 0 0, .int .i64 0, .int .i64 0, .slice none 0 0, .int .i64 0, .slice none 0 0] 39) = w1 at *
  have H1 := H.kept hb3
  have hY1 := hY.below hb3
  obtain ⟨b0, hb0⟩ : ∃ b0, b0 = W.heap.size := ⟨_, rfl⟩
  rw [← hb0] at hx0 hx1 hx2 ⊢
  have HW := Lib.hid hb0
  have HB1 := Lib.hid hb3
  have HY2 := Lib.hid hx2
  have HR := Lib.hid R
  obtain ⟨q0, q1, q2, q3, q4, q5, q6⟩ := box7 hx0
  obtain ⟨a0, a1, a2⟩ := act3 hx1
  have cC := WPin H1 R hg hK hi
  rw [← hr] at cC
  clear hr
  replace cC := Lib.hid cC
  clear H R hg hK hl hm hY H1 hY1 hx1 hx2 hb3 hb0
  go_wp2_with fail
  refine cC.out.mono ?_
  rintro e w2 ⟨⟨v, dt2, rfl, hv, hr2⟩, hb2⟩
  obtain ⟨zm2, zr2, zs2, zo2, h2, nl2, hc2, N2, k2, nr2, d2, A2, B2, rfl, hv2⟩ := Raw.res hv
  have HY3 := Lib.hid (box_kept HY2.out hb2)
  have HB2 := Lib.hid (bel_call HB1.out hb2)
  have HV2 := Lib.hid hv2
  have HR2 := Lib.hid hr2
  clear cC hv hv2 hr2 hb2 q0 q1 q2 q3 q4 q5 q6 a0 a1 a2 HY2 HB1 hx0
  obtain ⟨u0, u1, u2, u3, u4, u5, u6⟩ := box7 HY3.out
  have f0 := free7 HY3.out 0
  have f1 := free7 HY3.out 1
  have f2 := free7 HY3.out 2
  have f3 := free7 HY3.out 3
  have f4 := free7 HY3.out 4
  have f5 := free7 HY3.out 5
  have f6 := free7 HY3.out 6
  go_wp2_with fail
  have g7 := set7_at HY3.out (.int .i64 zm2) (.slice (some ⟨h2, 0, none⟩) nl2 hc2) (.int .i64 zr2) (.int .i64 zs2) (.slice A2 N2 k2) (.int .i64 zo2) (.slice B2 nr2 d2)
  have i7 := set7_into w2 (b0 + 2) (.int .i64 zm2) (.slice (some ⟨h2, 0, none⟩) nl2 hc2) (.int .i64 zr2) (.int .i64 zs2) (.slice A2 N2 k2) (.int .i64 zo2) (.slice B2 nr2 d2)
  unfold set7 at g7 i7
  generalize ((((((w2.setCell ⟨b0 + 2, 0, none⟩ (.int .i64 zm2)).setCell ⟨b0 + 2, 1, none⟩ (.slice (some ⟨h2, 0, none⟩) nl2 hc2)).setCell ⟨b0 + 2, 2, none⟩ (.int .i64 zr2)).setCell ⟨b0 + 2, 3, none⟩ (.int .i64 zs2)).setCell ⟨b0 + 2, 4, none⟩ (.slice A2 N2 k2)).setCell ⟨b0 + 2, 5, none⟩ (.int .i64 zo2)).setCell ⟨b0 + 2, 6, none⟩ (.slice B2 nr2 d2) = w3 at *
  have hr7 := Raw.box HV2.out i7 HY3.out rfl
  have hb7 := bel_into HB2.out i7 (by have := HW.out; omega)
  obtain ⟨o0, o1, o2, o3, o4, o5, o6⟩ := box7 g7
  exact bodyPost_ret (v := .tuple #[.agg #[.int .i64 zm2, .slice (some ⟨h2, 0, none⟩) nl2 hc2, .int .i64 zr2, .int .i64 zs2, .slice A2 N2 k2, .int .i64 zo2, .slice B2 nr2 d2], .int .i64 r.1]) (by simp [results, Try.results10, go_sem, o0, o1, o2, o3, o4, o5, o6]) rfl ⟨⟨_, _, rfl, hr7.to, HR2.out⟩, hb7⟩
set_option maxRecDepth 100000 in
set_option maxHeartbeats 2000000 in
theorem want_1 {W : World} {zm zr zs zo : Int} {h nl hc N c nr d : Nat} {A B : Option Addr} (H : Raw W dt zm zr zs zo h nl hc N c nr d A B) (R : Rl st dt) (hg : Good st) (hK : Sm st 900000) (hl : st.ls.length ≤ 12) (hm : st.m ≤ 65536) {i n k : Nat} {Y : Option Addr} {y : List UInt8} (hi : i < 4294967296) (hY : BL W Y y) (hn : y.length = n) : Calls Try.prog 10 #[.agg #[.int .i64 zm, .slice (some ⟨h, 0, none⟩) nl hc, .int .i64 zr, .int .i64 zs, .slice A N c, .int .i64 zo, .slice B nr d], .agg #[.int .i64 1, .int .u32 (i : Int), .slice Y n k]] W fun e w' => Ans w' (pinT st i).2 (pinT st i).1 e ∧ Below W.heap.size W w' := by
  obtain ⟨r, hr⟩ : ∃ r, r = pinT st i := ⟨_, rfl⟩
  rw [← hr]
  go_enter Try.func10, Try.ntmps10
  go_upto_region 1 with fail
  obtain ⟨hb3, hx0, hx1, hx2⟩ := Raw.three W (.cells #[.int .i64 zm, .slice (some ⟨h, 0, none⟩) nl hc, .int .i64 zr, .int .i64 zs, .slice A N c, .int .i64 zo, .slice B nr d] 39) (.cells #[.int .i64 1, .int .u32 (i : Int), .slice Y n k] 44) (.cells #[.int .i64 0, .slice none 0 0, .int .i64 0, .int .i64 0, .slice none 0 0, .int .i64 0, .slice none 0 0] 39)
  generalize ((W.alloc (.cells #[.int .i64 zm, .slice (some ⟨h, 0, none⟩) nl hc, .int .i64 zr, .int .i64 zs, .slice A N c, .int .i64 zo, .slice B nr d] 39)).alloc (.cells #[.int .i64 1, .int .u32 (i : Int), .slice Y n k] 44)).alloc (.cells #[.int .i64 0, .slice none 0 0, .int .i64 0, .int .i64 0, .slice none 0 0, .int .i64 0, .slice none 0 0] 39) = w1 at *
  have H1 := H.kept hb3
  have hY1 := hY.below hb3
  obtain ⟨b0, hb0⟩ : ∃ b0, b0 = W.heap.size := ⟨_, rfl⟩
  rw [← hb0] at hx0 hx1 hx2 ⊢
  have HW := Lib.hid hb0
  have HB1 := Lib.hid hb3
  have HY2 := Lib.hid hx2
  have HR := Lib.hid R
  obtain ⟨q0, q1, q2, q3, q4, q5, q6⟩ := box7 hx0
  obtain ⟨a0, a1, a2⟩ := act3 hx1
  have cC := WPin H1 R hg hK hi
  rw [← hr] at cC
  clear hr
  replace cC := Lib.hid cC
  clear H R hg hK hl hm hY H1 hY1 hx1 hx2 hb3 hb0
  go_wp2_with fail
  refine cC.out.mono ?_
  rintro e w2 ⟨⟨v, dt2, rfl, hv, hr2⟩, hb2⟩
  obtain ⟨zm2, zr2, zs2, zo2, h2, nl2, hc2, N2, k2, nr2, d2, A2, B2, rfl, hv2⟩ := Raw.res hv
  have HY3 := Lib.hid (box_kept HY2.out hb2)
  have HB2 := Lib.hid (bel_call HB1.out hb2)
  have HV2 := Lib.hid hv2
  have HR2 := Lib.hid hr2
  clear cC hv hv2 hr2 hb2 q0 q1 q2 q3 q4 q5 q6 a0 a1 a2 HY2 HB1 hx0
  obtain ⟨u0, u1, u2, u3, u4, u5, u6⟩ := box7 HY3.out
  have f0 := free7 HY3.out 0
  have f1 := free7 HY3.out 1
  have f2 := free7 HY3.out 2
  have f3 := free7 HY3.out 3
  have f4 := free7 HY3.out 4
  have f5 := free7 HY3.out 5
  have f6 := free7 HY3.out 6
  go_wp2_with fail
  have g7 := set7_at HY3.out (.int .i64 zm2) (.slice (some ⟨h2, 0, none⟩) nl2 hc2) (.int .i64 zr2) (.int .i64 zs2) (.slice A2 N2 k2) (.int .i64 zo2) (.slice B2 nr2 d2)
  have i7 := set7_into w2 (b0 + 2) (.int .i64 zm2) (.slice (some ⟨h2, 0, none⟩) nl2 hc2) (.int .i64 zr2) (.int .i64 zs2) (.slice A2 N2 k2) (.int .i64 zo2) (.slice B2 nr2 d2)
  unfold set7 at g7 i7
  generalize ((((((w2.setCell ⟨b0 + 2, 0, none⟩ (.int .i64 zm2)).setCell ⟨b0 + 2, 1, none⟩ (.slice (some ⟨h2, 0, none⟩) nl2 hc2)).setCell ⟨b0 + 2, 2, none⟩ (.int .i64 zr2)).setCell ⟨b0 + 2, 3, none⟩ (.int .i64 zs2)).setCell ⟨b0 + 2, 4, none⟩ (.slice A2 N2 k2)).setCell ⟨b0 + 2, 5, none⟩ (.int .i64 zo2)).setCell ⟨b0 + 2, 6, none⟩ (.slice B2 nr2 d2) = w3 at *
  have hr7 := Raw.box HV2.out i7 HY3.out rfl
  have hb7 := bel_into HB2.out i7 (by have := HW.out; omega)
  obtain ⟨o0, o1, o2, o3, o4, o5, o6⟩ := box7 g7
  exact bodyPost_ret (v := .tuple #[.agg #[.int .i64 zm2, .slice (some ⟨h2, 0, none⟩) nl2 hc2, .int .i64 zr2, .int .i64 zs2, .slice A2 N2 k2, .int .i64 zo2, .slice B2 nr2 d2], .int .i64 r.1]) (by simp [results, Try.results10, go_sem, o0, o1, o2, o3, o4, o5, o6]) rfl ⟨⟨_, _, rfl, hr7.to, HR2.out⟩, hb7⟩
set_option maxRecDepth 100000 in
set_option maxHeartbeats 2000000 in
theorem want_2 {W : World} {zm zr zs zo : Int} {h nl hc N c nr d : Nat} {A B : Option Addr} (H : Raw W dt zm zr zs zo h nl hc N c nr d A B) (R : Rl st dt) (hg : Good st) (hK : Sm st 900000) (hl : st.ls.length ≤ 12) (hm : st.m ≤ 65536) {i n k : Nat} {Y : Option Addr} {y : List UInt8} (hi : i < 4294967296) (hY : BL W Y y) (hn : y.length = n) : Calls Try.prog 10 #[.agg #[.int .i64 zm, .slice (some ⟨h, 0, none⟩) nl hc, .int .i64 zr, .int .i64 zs, .slice A N c, .int .i64 zo, .slice B nr d], .agg #[.int .i64 2, .int .u32 (i : Int), .slice Y n k]] W fun e w' => Ans w' (freshT st i).2 (freshT st i).1 e ∧ Below W.heap.size W w' := by
  obtain ⟨r, hr⟩ : ∃ r, r = freshT st i := ⟨_, rfl⟩
  rw [← hr]
  go_enter Try.func10, Try.ntmps10
  go_upto_region 1 with fail
  obtain ⟨hb3, hx0, hx1, hx2⟩ := Raw.three W (.cells #[.int .i64 zm, .slice (some ⟨h, 0, none⟩) nl hc, .int .i64 zr, .int .i64 zs, .slice A N c, .int .i64 zo, .slice B nr d] 39) (.cells #[.int .i64 2, .int .u32 (i : Int), .slice Y n k] 44) (.cells #[.int .i64 0, .slice none 0 0, .int .i64 0, .int .i64 0, .slice none 0 0, .int .i64 0, .slice none 0 0] 39)
  generalize ((W.alloc (.cells #[.int .i64 zm, .slice (some ⟨h, 0, none⟩) nl hc, .int .i64 zr, .int .i64 zs, .slice A N c, .int .i64 zo, .slice B nr d] 39)).alloc (.cells #[.int .i64 2, .int .u32 (i : Int), .slice Y n k] 44)).alloc (.cells #[.int .i64 0, .slice none 0 0, .int .i64 0, .int .i64 0, .slice none 0 0, .int .i64 0, .slice none 0 0] 39) = w1 at *
  have H1 := H.kept hb3
  have hY1 := hY.below hb3
  obtain ⟨b0, hb0⟩ : ∃ b0, b0 = W.heap.size := ⟨_, rfl⟩
  rw [← hb0] at hx0 hx1 hx2 ⊢
  have HW := Lib.hid hb0
  have HB1 := Lib.hid hb3
  have HY2 := Lib.hid hx2
  have HR := Lib.hid R
  obtain ⟨q0, q1, q2, q3, q4, q5, q6⟩ := box7 hx0
  obtain ⟨a0, a1, a2⟩ := act3 hx1
  have cC := WFresh H1 R hg hK hm hi
  rw [← hr] at cC
  clear hr
  replace cC := Lib.hid cC
  clear H R hg hK hl hm hY H1 hY1 hx1 hx2 hb3 hb0
  go_wp2_with fail
  refine cC.out.mono ?_
  rintro e w2 ⟨⟨v, dt2, rfl, hv, hr2⟩, hb2⟩
  obtain ⟨zm2, zr2, zs2, zo2, h2, nl2, hc2, N2, k2, nr2, d2, A2, B2, rfl, hv2⟩ := Raw.res hv
  have HY3 := Lib.hid (box_kept HY2.out hb2)
  have HB2 := Lib.hid (bel_call HB1.out hb2)
  have HV2 := Lib.hid hv2
  have HR2 := Lib.hid hr2
  clear cC hv hv2 hr2 hb2 q0 q1 q2 q3 q4 q5 q6 a0 a1 a2 HY2 HB1 hx0
  obtain ⟨u0, u1, u2, u3, u4, u5, u6⟩ := box7 HY3.out
  have f0 := free7 HY3.out 0
  have f1 := free7 HY3.out 1
  have f2 := free7 HY3.out 2
  have f3 := free7 HY3.out 3
  have f4 := free7 HY3.out 4
  have f5 := free7 HY3.out 5
  have f6 := free7 HY3.out 6
  go_wp2_with fail
  have g7 := set7_at HY3.out (.int .i64 zm2) (.slice (some ⟨h2, 0, none⟩) nl2 hc2) (.int .i64 zr2) (.int .i64 zs2) (.slice A2 N2 k2) (.int .i64 zo2) (.slice B2 nr2 d2)
  have i7 := set7_into w2 (b0 + 2) (.int .i64 zm2) (.slice (some ⟨h2, 0, none⟩) nl2 hc2) (.int .i64 zr2) (.int .i64 zs2) (.slice A2 N2 k2) (.int .i64 zo2) (.slice B2 nr2 d2)
  unfold set7 at g7 i7
  generalize ((((((w2.setCell ⟨b0 + 2, 0, none⟩ (.int .i64 zm2)).setCell ⟨b0 + 2, 1, none⟩ (.slice (some ⟨h2, 0, none⟩) nl2 hc2)).setCell ⟨b0 + 2, 2, none⟩ (.int .i64 zr2)).setCell ⟨b0 + 2, 3, none⟩ (.int .i64 zs2)).setCell ⟨b0 + 2, 4, none⟩ (.slice A2 N2 k2)).setCell ⟨b0 + 2, 5, none⟩ (.int .i64 zo2)).setCell ⟨b0 + 2, 6, none⟩ (.slice B2 nr2 d2) = w3 at *
  have hr7 := Raw.box HV2.out i7 HY3.out rfl
  have hb7 := bel_into HB2.out i7 (by have := HW.out; omega)
  obtain ⟨o0, o1, o2, o3, o4, o5, o6⟩ := box7 g7
  exact bodyPost_ret (v := .tuple #[.agg #[.int .i64 zm2, .slice (some ⟨h2, 0, none⟩) nl2 hc2, .int .i64 zr2, .int .i64 zs2, .slice A2 N2 k2, .int .i64 zo2, .slice B2 nr2 d2], .int .i64 r.1]) (by simp [results, Try.results10, go_sem, o0, o1, o2, o3, o4, o5, o6]) rfl ⟨⟨_, _, rfl, hr7.to, HR2.out⟩, hb7⟩
set_option maxRecDepth 100000 in
set_option maxHeartbeats 2000000 in
theorem want_3 {W : World} {zm zr zs zo : Int} {h nl hc N c nr d : Nat} {A B : Option Addr} (H : Raw W dt zm zr zs zo h nl hc N c nr d A B) (R : Rl st dt) (hg : Good st) (hK : Sm st 900000) (hl : st.ls.length ≤ 12) (hm : st.m ≤ 65536) {i n k : Nat} {Y : Option Addr} {y : List UInt8} (hi : i < 4294967296) (hY : BL W Y y) (hn : y.length = n) : Calls Try.prog 10 #[.agg #[.int .i64 zm, .slice (some ⟨h, 0, none⟩) nl hc, .int .i64 zr, .int .i64 zs, .slice A N c, .int .i64 zo, .slice B nr d], .agg #[.int .i64 3, .int .u32 (i : Int), .slice Y n k]] W fun e w' => Ans w' (unpinT st i).2 (unpinT st i).1 e ∧ Below W.heap.size W w' := by
  obtain ⟨r, hr⟩ : ∃ r, r = unpinT st i := ⟨_, rfl⟩
  rw [← hr]
  go_enter Try.func10, Try.ntmps10
  go_upto_region 1 with fail
  obtain ⟨hb3, hx0, hx1, hx2⟩ := Raw.three W (.cells #[.int .i64 zm, .slice (some ⟨h, 0, none⟩) nl hc, .int .i64 zr, .int .i64 zs, .slice A N c, .int .i64 zo, .slice B nr d] 39) (.cells #[.int .i64 3, .int .u32 (i : Int), .slice Y n k] 44) (.cells #[.int .i64 0, .slice none 0 0, .int .i64 0, .int .i64 0, .slice none 0 0, .int .i64 0, .slice none 0 0] 39)
  generalize ((W.alloc (.cells #[.int .i64 zm, .slice (some ⟨h, 0, none⟩) nl hc, .int .i64 zr, .int .i64 zs, .slice A N c, .int .i64 zo, .slice B nr d] 39)).alloc (.cells #[.int .i64 3, .int .u32 (i : Int), .slice Y n k] 44)).alloc (.cells #[.int .i64 0, .slice none 0 0, .int .i64 0, .int .i64 0, .slice none 0 0, .int .i64 0, .slice none 0 0] 39) = w1 at *
  have H1 := H.kept hb3
  have hY1 := hY.below hb3
  obtain ⟨b0, hb0⟩ : ∃ b0, b0 = W.heap.size := ⟨_, rfl⟩
  rw [← hb0] at hx0 hx1 hx2 ⊢
  have HW := Lib.hid hb0
  have HB1 := Lib.hid hb3
  have HY2 := Lib.hid hx2
  have HR := Lib.hid R
  obtain ⟨q0, q1, q2, q3, q4, q5, q6⟩ := box7 hx0
  obtain ⟨a0, a1, a2⟩ := act3 hx1
  have cC := WUnpin H1 R hg hK i
  rw [← hr] at cC
  clear hr
  replace cC := Lib.hid cC
  clear H R hg hK hl hm hY H1 hY1 hx1 hx2 hb3 hb0
  go_wp2_with fail
  refine cC.out.mono ?_
  rintro e w2 ⟨⟨v, dt2, rfl, hv, hr2⟩, hb2⟩
  obtain ⟨zm2, zr2, zs2, zo2, h2, nl2, hc2, N2, k2, nr2, d2, A2, B2, rfl, hv2⟩ := Raw.res hv
  have HY3 := Lib.hid (box_kept HY2.out hb2)
  have HB2 := Lib.hid (bel_call HB1.out hb2)
  have HV2 := Lib.hid hv2
  have HR2 := Lib.hid hr2
  clear cC hv hv2 hr2 hb2 q0 q1 q2 q3 q4 q5 q6 a0 a1 a2 HY2 HB1 hx0
  obtain ⟨u0, u1, u2, u3, u4, u5, u6⟩ := box7 HY3.out
  have f0 := free7 HY3.out 0
  have f1 := free7 HY3.out 1
  have f2 := free7 HY3.out 2
  have f3 := free7 HY3.out 3
  have f4 := free7 HY3.out 4
  have f5 := free7 HY3.out 5
  have f6 := free7 HY3.out 6
  go_wp2_with fail
  have g7 := set7_at HY3.out (.int .i64 zm2) (.slice (some ⟨h2, 0, none⟩) nl2 hc2) (.int .i64 zr2) (.int .i64 zs2) (.slice A2 N2 k2) (.int .i64 zo2) (.slice B2 nr2 d2)
  have i7 := set7_into w2 (b0 + 2) (.int .i64 zm2) (.slice (some ⟨h2, 0, none⟩) nl2 hc2) (.int .i64 zr2) (.int .i64 zs2) (.slice A2 N2 k2) (.int .i64 zo2) (.slice B2 nr2 d2)
  unfold set7 at g7 i7
  generalize ((((((w2.setCell ⟨b0 + 2, 0, none⟩ (.int .i64 zm2)).setCell ⟨b0 + 2, 1, none⟩ (.slice (some ⟨h2, 0, none⟩) nl2 hc2)).setCell ⟨b0 + 2, 2, none⟩ (.int .i64 zr2)).setCell ⟨b0 + 2, 3, none⟩ (.int .i64 zs2)).setCell ⟨b0 + 2, 4, none⟩ (.slice A2 N2 k2)).setCell ⟨b0 + 2, 5, none⟩ (.int .i64 zo2)).setCell ⟨b0 + 2, 6, none⟩ (.slice B2 nr2 d2) = w3 at *
  have hr7 := Raw.box HV2.out i7 HY3.out rfl
  have hb7 := bel_into HB2.out i7 (by have := HW.out; omega)
  obtain ⟨o0, o1, o2, o3, o4, o5, o6⟩ := box7 g7
  exact bodyPost_ret (v := .tuple #[.agg #[.int .i64 zm2, .slice (some ⟨h2, 0, none⟩) nl2 hc2, .int .i64 zr2, .int .i64 zs2, .slice A2 N2 k2, .int .i64 zo2, .slice B2 nr2 d2], .int .i64 r.1]) (by simp [results, Try.results10, go_sem, o0, o1, o2, o3, o4, o5, o6]) rfl ⟨⟨_, _, rfl, hr7.to, HR2.out⟩, hb7⟩
set_option maxRecDepth 100000 in
set_option maxHeartbeats 2000000 in
theorem want_4 {W : World} {zm zr zs zo : Int} {h nl hc N c nr d : Nat} {A B : Option Addr} (H : Raw W dt zm zr zs zo h nl hc N c nr d A B) (R : Rl st dt) (hg : Good st) (hK : Sm st 900000) (hl : st.ls.length ≤ 12) (hm : st.m ≤ 65536) {i n k : Nat} {Y : Option Addr} {y : List UInt8} (hi : i < 4294967296) (hY : BL W Y y) (hn : y.length = n) : Calls Try.prog 10 #[.agg #[.int .i64 zm, .slice (some ⟨h, 0, none⟩) nl hc, .int .i64 zr, .int .i64 zs, .slice A N c, .int .i64 zo, .slice B nr d], .agg #[.int .i64 4, .int .u32 (i : Int), .slice Y n k]] W fun e w' => Ans w' (unpinT st i).2 (unpinT st i).1 e ∧ Below W.heap.size W w' := by
  obtain ⟨r, hr⟩ : ∃ r, r = unpinT st i := ⟨_, rfl⟩
  rw [← hr]
  go_enter Try.func10, Try.ntmps10
  go_upto_region 1 with fail
  obtain ⟨hb3, hx0, hx1, hx2⟩ := Raw.three W (.cells #[.int .i64 zm, .slice (some ⟨h, 0, none⟩) nl hc, .int .i64 zr, .int .i64 zs, .slice A N c, .int .i64 zo, .slice B nr d] 39) (.cells #[.int .i64 4, .int .u32 (i : Int), .slice Y n k] 44) (.cells #[.int .i64 0, .slice none 0 0, .int .i64 0, .int .i64 0, .slice none 0 0, .int .i64 0, .slice none 0 0] 39)
  generalize ((W.alloc (.cells #[.int .i64 zm, .slice (some ⟨h, 0, none⟩) nl hc, .int .i64 zr, .int .i64 zs, .slice A N c, .int .i64 zo, .slice B nr d] 39)).alloc (.cells #[.int .i64 4, .int .u32 (i : Int), .slice Y n k] 44)).alloc (.cells #[.int .i64 0, .slice none 0 0, .int .i64 0, .int .i64 0, .slice none 0 0, .int .i64 0, .slice none 0 0] 39) = w1 at *
  have H1 := H.kept hb3
  have hY1 := hY.below hb3
  obtain ⟨b0, hb0⟩ : ∃ b0, b0 = W.heap.size := ⟨_, rfl⟩
  rw [← hb0] at hx0 hx1 hx2 ⊢
  have HW := Lib.hid hb0
  have HB1 := Lib.hid hb3
  have HY2 := Lib.hid hx2
  have HR := Lib.hid R
  obtain ⟨q0, q1, q2, q3, q4, q5, q6⟩ := box7 hx0
  obtain ⟨a0, a1, a2⟩ := act3 hx1
  have cC := WUnpin H1 R hg hK i
  rw [← hr] at cC
  clear hr
  replace cC := Lib.hid cC
  clear H R hg hK hl hm hY H1 hY1 hx1 hx2 hb3 hb0
  go_wp2_with fail
  refine cC.out.mono ?_
  rintro e w2 ⟨⟨v, dt2, rfl, hv, hr2⟩, hb2⟩
  obtain ⟨zm2, zr2, zs2, zo2, h2, nl2, hc2, N2, k2, nr2, d2, A2, B2, rfl, hv2⟩ := Raw.res hv
  have HY3 := Lib.hid (box_kept HY2.out hb2)
  have HB2 := Lib.hid (bel_call HB1.out hb2)
  have HV2 := Lib.hid hv2
  have HR2 := Lib.hid hr2
  clear cC hv hv2 hr2 hb2 q0 q1 q2 q3 q4 q5 q6 a0 a1 a2 HY2 HB1 hx0
  obtain ⟨u0, u1, u2, u3, u4, u5, u6⟩ := box7 HY3.out
  have f0 := free7 HY3.out 0
  have f1 := free7 HY3.out 1
  have f2 := free7 HY3.out 2
  have f3 := free7 HY3.out 3
  have f4 := free7 HY3.out 4
  have f5 := free7 HY3.out 5
  have f6 := free7 HY3.out 6
  go_wp2_with fail
  have g7 := set7_at HY3.out (.int .i64 zm2) (.slice (some ⟨h2, 0, none⟩) nl2 hc2) (.int .i64 zr2) (.int .i64 zs2) (.slice A2 N2 k2) (.int .i64 zo2) (.slice B2 nr2 d2)
  have i7 := set7_into w2 (b0 + 2) (.int .i64 zm2) (.slice (some ⟨h2, 0, none⟩) nl2 hc2) (.int .i64 zr2) (.int .i64 zs2) (.slice A2 N2 k2) (.int .i64 zo2) (.slice B2 nr2 d2)
  unfold set7 at g7 i7
  generalize ((((((w2.setCell ⟨b0 + 2, 0, none⟩ (.int .i64 zm2)).setCell ⟨b0 + 2, 1, none⟩ (.slice (some ⟨h2, 0, none⟩) nl2 hc2)).setCell ⟨b0 + 2, 2, none⟩ (.int .i64 zr2)).setCell ⟨b0 + 2, 3, none⟩ (.int .i64 zs2)).setCell ⟨b0 + 2, 4, none⟩ (.slice A2 N2 k2)).setCell ⟨b0 + 2, 5, none⟩ (.int .i64 zo2)).setCell ⟨b0 + 2, 6, none⟩ (.slice B2 nr2 d2) = w3 at *
  have hr7 := Raw.box HV2.out i7 HY3.out rfl
  have hb7 := bel_into HB2.out i7 (by have := HW.out; omega)
  obtain ⟨o0, o1, o2, o3, o4, o5, o6⟩ := box7 g7
  exact bodyPost_ret (v := .tuple #[.agg #[.int .i64 zm2, .slice (some ⟨h2, 0, none⟩) nl2 hc2, .int .i64 zr2, .int .i64 zs2, .slice A2 N2 k2, .int .i64 zo2, .slice B2 nr2 d2], .int .i64 r.1]) (by simp [results, Try.results10, go_sem, o0, o1, o2, o3, o4, o5, o6]) rfl ⟨⟨_, _, rfl, hr7.to, HR2.out⟩, hb7⟩
set_option maxRecDepth 100000 in
set_option maxHeartbeats 2000000 in
theorem want_5 {W : World} {zm zr zs zo : Int} {h nl hc N c nr d : Nat} {A B : Option Addr} (H : Raw W dt zm zr zs zo h nl hc N c nr d A B) (R : Rl st dt) (hg : Good st) (hK : Sm st 900000) (hl : st.ls.length ≤ 12) (hm : st.m ≤ 65536) {i n k : Nat} {Y : Option Addr} {y : List UInt8} (hi : i < 4294967296) (hY : BL W Y y) (hn : y.length = n) : Calls Try.prog 10 #[.agg #[.int .i64 zm, .slice (some ⟨h, 0, none⟩) nl hc, .int .i64 zr, .int .i64 zs, .slice A N c, .int .i64 zo, .slice B nr d], .agg #[.int .i64 5, .int .u32 (i : Int), .slice Y n k]] W fun e w' => Ans w' (writeT st i y).2 (writeT st i y).1 e ∧ Below W.heap.size W w' := by
  obtain ⟨r, hr⟩ : ∃ r, r = writeT st i y := ⟨_, rfl⟩
  rw [← hr]
  go_enter Try.func10, Try.ntmps10
  go_upto_region 1 with fail
  obtain ⟨hb3, hx0, hx1, hx2⟩ := Raw.three W (.cells #[.int .i64 zm, .slice (some ⟨h, 0, none⟩) nl hc, .int .i64 zr, .int .i64 zs, .slice A N c, .int .i64 zo, .slice B nr d] 39) (.cells #[.int .i64 5, .int .u32 (i : Int), .slice Y n k] 44) (.cells #[.int .i64 0, .slice none 0 0, .int .i64 0, .int .i64 0, .slice none 0 0, .int .i64 0, .slice none 0 0] 39)
  generalize ((W.alloc (.cells #[.int .i64 zm, .slice (some ⟨h, 0, none⟩) nl hc, .int .i64 zr, .int .i64 zs, .slice A N c, .int .i64 zo, .slice B nr d] 39)).alloc (.cells #[.int .i64 5, .int .u32 (i : Int), .slice Y n k] 44)).alloc (.cells #[.int .i64 0, .slice none 0 0, .int .i64 0, .int .i64 0, .slice none 0 0, .int .i64 0, .slice none 0 0] 39) = w1 at *
  have H1 := H.kept hb3
  have hY1 := hY.below hb3
  obtain ⟨b0, hb0⟩ : ∃ b0, b0 = W.heap.size := ⟨_, rfl⟩
  rw [← hb0] at hx0 hx1 hx2 ⊢
  have HW := Lib.hid hb0
  have HB1 := Lib.hid hb3
  have HY2 := Lib.hid hx2
  have HR := Lib.hid R
  obtain ⟨q0, q1, q2, q3, q4, q5, q6⟩ := box7 hx0
  obtain ⟨a0, a1, a2⟩ := act3 hx1
  have cC := WWrite H1 R hg i y
  rw [← hr] at cC
  clear hr
  replace cC := Lib.hid cC
  have hcv := run_text_n (P := Try.prog) Try.underlying42 Try.underlying5 Try.underlying9 hY1 hn k
  clear H R hg hK hl hm hY H1 hY1 hx1 hx2 hb3 hb0
  go_wp2_with fail
  refine cC.out.mono ?_
  rintro e w2 ⟨⟨v, dt2, rfl, hv, hr2⟩, hb2⟩
  obtain ⟨zm2, zr2, zs2, zo2, h2, nl2, hc2, N2, k2, nr2, d2, A2, B2, rfl, hv2⟩ := Raw.res hv
  have HY3 := Lib.hid (box_kept HY2.out hb2)
  have HB2 := Lib.hid (bel_call HB1.out hb2)
  have HV2 := Lib.hid hv2
  have HR2 := Lib.hid hr2
  clear cC hv hv2 hr2 hb2 q0 q1 q2 q3 q4 q5 q6 a0 a1 a2 HY2 HB1 hx0
  obtain ⟨u0, u1, u2, u3, u4, u5, u6⟩ := box7 HY3.out
  have f0 := free7 HY3.out 0
  have f1 := free7 HY3.out 1
  have f2 := free7 HY3.out 2
  have f3 := free7 HY3.out 3
  have f4 := free7 HY3.out 4
  have f5 := free7 HY3.out 5
  have f6 := free7 HY3.out 6
  go_wp2_with fail
  have g7 := set7_at HY3.out (.int .i64 zm2) (.slice (some ⟨h2, 0, none⟩) nl2 hc2) (.int .i64 zr2) (.int .i64 zs2) (.slice A2 N2 k2) (.int .i64 zo2) (.slice B2 nr2 d2)
  have i7 := set7_into w2 (b0 + 2) (.int .i64 zm2) (.slice (some ⟨h2, 0, none⟩) nl2 hc2) (.int .i64 zr2) (.int .i64 zs2) (.slice A2 N2 k2) (.int .i64 zo2) (.slice B2 nr2 d2)
  unfold set7 at g7 i7
  generalize ((((((w2.setCell ⟨b0 + 2, 0, none⟩ (.int .i64 zm2)).setCell ⟨b0 + 2, 1, none⟩ (.slice (some ⟨h2, 0, none⟩) nl2 hc2)).setCell ⟨b0 + 2, 2, none⟩ (.int .i64 zr2)).setCell ⟨b0 + 2, 3, none⟩ (.int .i64 zs2)).setCell ⟨b0 + 2, 4, none⟩ (.slice A2 N2 k2)).setCell ⟨b0 + 2, 5, none⟩ (.int .i64 zo2)).setCell ⟨b0 + 2, 6, none⟩ (.slice B2 nr2 d2) = w3 at *
  have hr7 := Raw.box HV2.out i7 HY3.out rfl
  have hb7 := bel_into HB2.out i7 (by have := HW.out; omega)
  obtain ⟨o0, o1, o2, o3, o4, o5, o6⟩ := box7 g7
  exact bodyPost_ret (v := .tuple #[.agg #[.int .i64 zm2, .slice (some ⟨h2, 0, none⟩) nl2 hc2, .int .i64 zr2, .int .i64 zs2, .slice A2 N2 k2, .int .i64 zo2, .slice B2 nr2 d2], .int .i64 r.1]) (by simp [results, Try.results10, go_sem, o0, o1, o2, o3, o4, o5, o6]) rfl ⟨⟨_, _, rfl, hr7.to, HR2.out⟩, hb7⟩
set_option maxRecDepth 100000 in
set_option maxHeartbeats 2000000 in
theorem want_6 {W : World} {zm zr zs zo : Int} {h nl hc N c nr d : Nat} {A B : Option Addr} (H : Raw W dt zm zr zs zo h nl hc N c nr d A B) (R : Rl st dt) (hg : Good st) (hK : Sm st 900000) (hl : st.ls.length ≤ 12) (hm : st.m ≤ 65536) {i n k : Nat} {Y : Option Addr} {y : List UInt8} (hi : i < 4294967296) (hY : BL W Y y) (hn : y.length = n) : Calls Try.prog 10 #[.agg #[.int .i64 zm, .slice (some ⟨h, 0, none⟩) nl hc, .int .i64 zr, .int .i64 zs, .slice A N c, .int .i64 zo, .slice B nr d], .agg #[.int .i64 6, .int .u32 (i : Int), .slice Y n k]] W fun e w' => Ans w' (writeT st i y).2 (writeT st i y).1 e ∧ Below W.heap.size W w' := by
  obtain ⟨r, hr⟩ : ∃ r, r = writeT st i y := ⟨_, rfl⟩
  rw [← hr]
  go_enter Try.func10, Try.ntmps10
  go_upto_region 1 with fail
  obtain ⟨hb3, hx0, hx1, hx2⟩ := Raw.three W (.cells #[.int .i64 zm, .slice (some ⟨h, 0, none⟩) nl hc, .int .i64 zr, .int .i64 zs, .slice A N c, .int .i64 zo, .slice B nr d] 39) (.cells #[.int .i64 6, .int .u32 (i : Int), .slice Y n k] 44) (.cells #[.int .i64 0, .slice none 0 0, .int .i64 0, .int .i64 0, .slice none 0 0, .int .i64 0, .slice none 0 0] 39)
  generalize ((W.alloc (.cells #[.int .i64 zm, .slice (some ⟨h, 0, none⟩) nl hc, .int .i64 zr, .int .i64 zs, .slice A N c, .int .i64 zo, .slice B nr d] 39)).alloc (.cells #[.int .i64 6, .int .u32 (i : Int), .slice Y n k] 44)).alloc (.cells #[.int .i64 0, .slice none 0 0, .int .i64 0, .int .i64 0, .slice none 0 0, .int .i64 0, .slice none 0 0] 39) = w1 at *
  have H1 := H.kept hb3
  have hY1 := hY.below hb3
  obtain ⟨b0, hb0⟩ : ∃ b0, b0 = W.heap.size := ⟨_, rfl⟩
  rw [← hb0] at hx0 hx1 hx2 ⊢
  have HW := Lib.hid hb0
  have HB1 := Lib.hid hb3
  have HY2 := Lib.hid hx2
  have HR := Lib.hid R
  obtain ⟨q0, q1, q2, q3, q4, q5, q6⟩ := box7 hx0
  obtain ⟨a0, a1, a2⟩ := act3 hx1
  have cC := WWrite H1 R hg i y
  rw [← hr] at cC
  clear hr
  replace cC := Lib.hid cC
  have hcv := run_text_n (P := Try.prog) Try.underlying42 Try.underlying5 Try.underlying9 hY1 hn k
  clear H R hg hK hl hm hY H1 hY1 hx1 hx2 hb3 hb0
  go_wp2_with fail
  refine cC.out.mono ?_
  rintro e w2 ⟨⟨v, dt2, rfl, hv, hr2⟩, hb2⟩
  obtain ⟨zm2, zr2, zs2, zo2, h2, nl2, hc2, N2, k2, nr2, d2, A2, B2, rfl, hv2⟩ := Raw.res hv
  have HY3 := Lib.hid (box_kept HY2.out hb2)
  have HB2 := Lib.hid (bel_call HB1.out hb2)
  have HV2 := Lib.hid hv2
  have HR2 := Lib.hid hr2
  clear cC hv hv2 hr2 hb2 q0 q1 q2 q3 q4 q5 q6 a0 a1 a2 HY2 HB1 hx0
  obtain ⟨u0, u1, u2, u3, u4, u5, u6⟩ := box7 HY3.out
  have f0 := free7 HY3.out 0
  have f1 := free7 HY3.out 1
  have f2 := free7 HY3.out 2
  have f3 := free7 HY3.out 3
  have f4 := free7 HY3.out 4
  have f5 := free7 HY3.out 5
  have f6 := free7 HY3.out 6
  go_wp2_with fail
  have g7 := set7_at HY3.out (.int .i64 zm2) (.slice (some ⟨h2, 0, none⟩) nl2 hc2) (.int .i64 zr2) (.int .i64 zs2) (.slice A2 N2 k2) (.int .i64 zo2) (.slice B2 nr2 d2)
  have i7 := set7_into w2 (b0 + 2) (.int .i64 zm2) (.slice (some ⟨h2, 0, none⟩) nl2 hc2) (.int .i64 zr2) (.int .i64 zs2) (.slice A2 N2 k2) (.int .i64 zo2) (.slice B2 nr2 d2)
  unfold set7 at g7 i7
  generalize ((((((w2.setCell ⟨b0 + 2, 0, none⟩ (.int .i64 zm2)).setCell ⟨b0 + 2, 1, none⟩ (.slice (some ⟨h2, 0, none⟩) nl2 hc2)).setCell ⟨b0 + 2, 2, none⟩ (.int .i64 zr2)).setCell ⟨b0 + 2, 3, none⟩ (.int .i64 zs2)).setCell ⟨b0 + 2, 4, none⟩ (.slice A2 N2 k2)).setCell ⟨b0 + 2, 5, none⟩ (.int .i64 zo2)).setCell ⟨b0 + 2, 6, none⟩ (.slice B2 nr2 d2) = w3 at *
  have hr7 := Raw.box HV2.out i7 HY3.out rfl
  have hb7 := bel_into HB2.out i7 (by have := HW.out; omega)
  obtain ⟨o0, o1, o2, o3, o4, o5, o6⟩ := box7 g7
  exact bodyPost_ret (v := .tuple #[.agg #[.int .i64 zm2, .slice (some ⟨h2, 0, none⟩) nl2 hc2, .int .i64 zr2, .int .i64 zs2, .slice A2 N2 k2, .int .i64 zo2, .slice B2 nr2 d2], .int .i64 r.1]) (by simp [results, Try.results10, go_sem, o0, o1, o2, o3, o4, o5, o6]) rfl ⟨⟨_, _, rfl, hr7.to, HR2.out⟩, hb7⟩
set_option maxRecDepth 100000 in
set_option maxHeartbeats 2000000 in
theorem want_7 {W : World} {zm zr zs zo : Int} {h nl hc N c nr d : Nat} {A B : Option Addr} (H : Raw W dt zm zr zs zo h nl hc N c nr d A B) (R : Rl st dt) (hg : Good st) (hK : Sm st 900000) (hl : st.ls.length ≤ 12) (hm : st.m ≤ 65536) {i n k : Nat} {Y : Option Addr} {y : List UInt8} (hi : i < 4294967296) (hY : BL W Y y) (hn : y.length = n) : Calls Try.prog 10 #[.agg #[.int .i64 zm, .slice (some ⟨h, 0, none⟩) nl hc, .int .i64 zr, .int .i64 zs, .slice A N c, .int .i64 zo, .slice B nr d], .agg #[.int .i64 7, .int .u32 (i : Int), .slice Y n k]] W fun e w' => Ans w' (dropT st i).2 (dropT st i).1 e ∧ Below W.heap.size W w' := by
  obtain ⟨r, hr⟩ : ∃ r, r = dropT st i := ⟨_, rfl⟩
  rw [← hr]
  go_enter Try.func10, Try.ntmps10
  go_upto_region 1 with fail
  obtain ⟨hb3, hx0, hx1, hx2⟩ := Raw.three W (.cells #[.int .i64 zm, .slice (some ⟨h, 0, none⟩) nl hc, .int .i64 zr, .int .i64 zs, .slice A N c, .int .i64 zo, .slice B nr d] 39) (.cells #[.int .i64 7, .int .u32 (i : Int), .slice Y n k] 44) (.cells #[.int .i64 0, .slice none 0 0, .int .i64 0, .int .i64 0, .slice none 0 0, .int .i64 0, .slice none 0 0] 39)
  generalize ((W.alloc (.cells #[.int .i64 zm, .slice (some ⟨h, 0, none⟩) nl hc, .int .i64 zr, .int .i64 zs, .slice A N c, .int .i64 zo, .slice B nr d] 39)).alloc (.cells #[.int .i64 7, .int .u32 (i : Int), .slice Y n k] 44)).alloc (.cells #[.int .i64 0, .slice none 0 0, .int .i64 0, .int .i64 0, .slice none 0 0, .int .i64 0, .slice none 0 0] 39) = w1 at *
  have H1 := H.kept hb3
  have hY1 := hY.below hb3
  obtain ⟨b0, hb0⟩ : ∃ b0, b0 = W.heap.size := ⟨_, rfl⟩
  rw [← hb0] at hx0 hx1 hx2 ⊢
  have HW := Lib.hid hb0
  have HB1 := Lib.hid hb3
  have HY2 := Lib.hid hx2
  have HR := Lib.hid R
  obtain ⟨q0, q1, q2, q3, q4, q5, q6⟩ := box7 hx0
  obtain ⟨a0, a1, a2⟩ := act3 hx1
  have cC := WDrop H1 R hg i
  rw [← hr] at cC
  clear hr
  replace cC := Lib.hid cC
  clear H R hg hK hl hm hY H1 hY1 hx1 hx2 hb3 hb0
  go_wp2_with fail
  refine cC.out.mono ?_
  rintro e w2 ⟨⟨v, dt2, rfl, hv, hr2⟩, hb2⟩
  obtain ⟨zm2, zr2, zs2, zo2, h2, nl2, hc2, N2, k2, nr2, d2, A2, B2, rfl, hv2⟩ := Raw.res hv
  have HY3 := Lib.hid (box_kept HY2.out hb2)
  have HB2 := Lib.hid (bel_call HB1.out hb2)
  have HV2 := Lib.hid hv2
  have HR2 := Lib.hid hr2
  clear cC hv hv2 hr2 hb2 q0 q1 q2 q3 q4 q5 q6 a0 a1 a2 HY2 HB1 hx0
  obtain ⟨u0, u1, u2, u3, u4, u5, u6⟩ := box7 HY3.out
  have f0 := free7 HY3.out 0
  have f1 := free7 HY3.out 1
  have f2 := free7 HY3.out 2
  have f3 := free7 HY3.out 3
  have f4 := free7 HY3.out 4
  have f5 := free7 HY3.out 5
  have f6 := free7 HY3.out 6
  go_wp2_with fail
  have g7 := set7_at HY3.out (.int .i64 zm2) (.slice (some ⟨h2, 0, none⟩) nl2 hc2) (.int .i64 zr2) (.int .i64 zs2) (.slice A2 N2 k2) (.int .i64 zo2) (.slice B2 nr2 d2)
  have i7 := set7_into w2 (b0 + 2) (.int .i64 zm2) (.slice (some ⟨h2, 0, none⟩) nl2 hc2) (.int .i64 zr2) (.int .i64 zs2) (.slice A2 N2 k2) (.int .i64 zo2) (.slice B2 nr2 d2)
  unfold set7 at g7 i7
  generalize ((((((w2.setCell ⟨b0 + 2, 0, none⟩ (.int .i64 zm2)).setCell ⟨b0 + 2, 1, none⟩ (.slice (some ⟨h2, 0, none⟩) nl2 hc2)).setCell ⟨b0 + 2, 2, none⟩ (.int .i64 zr2)).setCell ⟨b0 + 2, 3, none⟩ (.int .i64 zs2)).setCell ⟨b0 + 2, 4, none⟩ (.slice A2 N2 k2)).setCell ⟨b0 + 2, 5, none⟩ (.int .i64 zo2)).setCell ⟨b0 + 2, 6, none⟩ (.slice B2 nr2 d2) = w3 at *
  have hr7 := Raw.box HV2.out i7 HY3.out rfl
  have hb7 := bel_into HB2.out i7 (by have := HW.out; omega)
  obtain ⟨o0, o1, o2, o3, o4, o5, o6⟩ := box7 g7
  exact bodyPost_ret (v := .tuple #[.agg #[.int .i64 zm2, .slice (some ⟨h2, 0, none⟩) nl2 hc2, .int .i64 zr2, .int .i64 zs2, .slice A2 N2 k2, .int .i64 zo2, .slice B2 nr2 d2], .int .i64 r.1]) (by simp [results, Try.results10, go_sem, o0, o1, o2, o3, o4, o5, o6]) rfl ⟨⟨_, _, rfl, hr7.to, HR2.out⟩, hb7⟩
set_option maxRecDepth 100000 in
set_option maxHeartbeats 2000000 in
theorem want_8 {W : World} {zm zr zs zo : Int} {h nl hc N c nr d : Nat} {A B : Option Addr} (H : Raw W dt zm zr zs zo h nl hc N c nr d A B) (R : Rl st dt) (hg : Good st) (hK : Sm st 900000) (hl : st.ls.length ≤ 12) (hm : st.m ≤ 65536) {i n k : Nat} {Y : Option Addr} {y : List UInt8} (hi : i < 4294967296) (hY : BL W Y y) (hn : y.length = n) : Calls Try.prog 10 #[.agg #[.int .i64 zm, .slice (some ⟨h, 0, none⟩) nl hc, .int .i64 zr, .int .i64 zs, .slice A N c, .int .i64 zo, .slice B nr d], .agg #[.int .i64 8, .int .u32 (i : Int), .slice Y n k]] W fun e w' => Ans w' ((0, flushT st) : Int × St).2 ((0, flushT st) : Int × St).1 e ∧ Below W.heap.size W w' := by
  obtain ⟨r, hr⟩ : ∃ r, r = flushT st := ⟨_, rfl⟩
  rw [← hr]
  go_enter Try.func10, Try.ntmps10
  go_upto_region 1 with fail
  obtain ⟨hb3, hx0, hx1, hx2⟩ := Raw.three W (.cells #[.int .i64 zm, .slice (some ⟨h, 0, none⟩) nl hc, .int .i64 zr, .int .i64 zs, .slice A N c, .int .i64 zo, .slice B nr d] 39) (.cells #[.int .i64 8, .int .u32 (i : Int), .slice Y n k] 44) (.cells #[.int .i64 0, .slice none 0 0, .int .i64 0, .int .i64 0, .slice none 0 0, .int .i64 0, .slice none 0 0] 39)
  generalize ((W.alloc (.cells #[.int .i64 zm, .slice (some ⟨h, 0, none⟩) nl hc, .int .i64 zr, .int .i64 zs, .slice A N c, .int .i64 zo, .slice B nr d] 39)).alloc (.cells #[.int .i64 8, .int .u32 (i : Int), .slice Y n k] 44)).alloc (.cells #[.int .i64 0, .slice none 0 0, .int .i64 0, .int .i64 0, .slice none 0 0, .int .i64 0, .slice none 0 0] 39) = w1 at *
  have H1 := H.kept hb3
  have hY1 := hY.below hb3
  obtain ⟨b0, hb0⟩ : ∃ b0, b0 = W.heap.size := ⟨_, rfl⟩
  rw [← hb0] at hx0 hx1 hx2 ⊢
  have HW := Lib.hid hb0
  have HB1 := Lib.hid hb3
  have HY2 := Lib.hid hx2
  have HR := Lib.hid R
  obtain ⟨q0, q1, q2, q3, q4, q5, q6⟩ := box7 hx0
  obtain ⟨a0, a1, a2⟩ := act3 hx1
  have cC := WFlush H1 R hg hK hl
  rw [← hr] at cC
  clear hr
  replace cC := Lib.hid cC
  clear H R hg hK hl hm hY H1 hY1 hx1 hx2 hb3 hb0
  go_wp2_with fail
  refine cC.out.mono ?_
  rintro e w2 ⟨⟨v, dt2, rfl, hv, hr2⟩, hb2⟩
  obtain ⟨zm2, zr2, zs2, zo2, h2, nl2, hc2, N2, k2, nr2, d2, A2, B2, rfl, hv2⟩ := Raw.res hv
  have HY3 := Lib.hid (box_kept HY2.out hb2)
  have HB2 := Lib.hid (bel_call HB1.out hb2)
  have HV2 := Lib.hid hv2
  have HR2 := Lib.hid hr2
  clear cC hv hv2 hr2 hb2 q0 q1 q2 q3 q4 q5 q6 a0 a1 a2 HY2 HB1 hx0
  obtain ⟨u0, u1, u2, u3, u4, u5, u6⟩ := box7 HY3.out
  have f0 := free7 HY3.out 0
  have f1 := free7 HY3.out 1
  have f2 := free7 HY3.out 2
  have f3 := free7 HY3.out 3
  have f4 := free7 HY3.out 4
  have f5 := free7 HY3.out 5
  have f6 := free7 HY3.out 6
  go_wp2_with fail
  have g7 := set7_at HY3.out (.int .i64 zm2) (.slice (some ⟨h2, 0, none⟩) nl2 hc2) (.int .i64 zr2) (.int .i64 zs2) (.slice A2 N2 k2) (.int .i64 zo2) (.slice B2 nr2 d2)
  have i7 := set7_into w2 (b0 + 2) (.int .i64 zm2) (.slice (some ⟨h2, 0, none⟩) nl2 hc2) (.int .i64 zr2) (.int .i64 zs2) (.slice A2 N2 k2) (.int .i64 zo2) (.slice B2 nr2 d2)
  unfold set7 at g7 i7
  generalize ((((((w2.setCell ⟨b0 + 2, 0, none⟩ (.int .i64 zm2)).setCell ⟨b0 + 2, 1, none⟩ (.slice (some ⟨h2, 0, none⟩) nl2 hc2)).setCell ⟨b0 + 2, 2, none⟩ (.int .i64 zr2)).setCell ⟨b0 + 2, 3, none⟩ (.int .i64 zs2)).setCell ⟨b0 + 2, 4, none⟩ (.slice A2 N2 k2)).setCell ⟨b0 + 2, 5, none⟩ (.int .i64 zo2)).setCell ⟨b0 + 2, 6, none⟩ (.slice B2 nr2 d2) = w3 at *
  have hr7 := Raw.box HV2.out i7 HY3.out rfl
  have hb7 := bel_into HB2.out i7 (by have := HW.out; omega)
  obtain ⟨o0, o1, o2, o3, o4, o5, o6⟩ := box7 g7
  exact bodyPost_ret (v := .tuple #[.agg #[.int .i64 zm2, .slice (some ⟨h2, 0, none⟩) nl2 hc2, .int .i64 zr2, .int .i64 zs2, .slice A2 N2 k2, .int .i64 zo2, .slice B2 nr2 d2], .int .i64 0]) (by simp [results, Try.results10, go_sem, o0, o1, o2, o3, o4, o5, o6]) rfl ⟨⟨_, _, rfl, hr7.to, HR2.out⟩, hb7⟩
set_option maxRecDepth 100000 in
set_option maxHeartbeats 2000000 in
theorem want_9 {W : World} {zm zr zs zo : Int} {h nl hc N c nr d : Nat} {A B : Option Addr} (H : Raw W dt zm zr zs zo h nl hc N c nr d A B) (R : Rl st dt) (hg : Good st) (hK : Sm st 900000) (hl : st.ls.length ≤ 12) (hm : st.m ≤ 65536) {i n k : Nat} {Y : Option Addr} {y : List UInt8} (hi : i < 4294967296) (hY : BL W Y y) (hn : y.length = n) : Calls Try.prog 10 #[.agg #[.int .i64 zm, .slice (some ⟨h, 0, none⟩) nl hc, .int .i64 zr, .int .i64 zs, .slice A N c, .int .i64 zo, .slice B nr d], .agg #[.int .i64 9, .int .u32 (i : Int), .slice Y n k]] W fun e w' => Ans w' (((readP st i).2, st) : Int × St).2 (((readP st i).2, st) : Int × St).1 e ∧ Below W.heap.size W w' := by
  obtain ⟨r, hr⟩ : ∃ r, r = readP st i := ⟨_, rfl⟩
  rw [← hr]
  go_enter Try.func10, Try.ntmps10
  go_upto_region 1 with fail
  obtain ⟨hb3, hx0, hx1, hx2⟩ := Raw.three W (.cells #[.int .i64 zm, .slice (some ⟨h, 0, none⟩) nl hc, .int .i64 zr, .int .i64 zs, .slice A N c, .int .i64 zo, .slice B nr d] 39) (.cells #[.int .i64 9, .int .u32 (i : Int), .slice Y n k] 44) (.cells #[.int .i64 0, .slice none 0 0, .int .i64 0, .int .i64 0, .slice none 0 0, .int .i64 0, .slice none 0 0] 39)
  generalize ((W.alloc (.cells #[.int .i64 zm, .slice (some ⟨h, 0, none⟩) nl hc, .int .i64 zr, .int .i64 zs, .slice A N c, .int .i64 zo, .slice B nr d] 39)).alloc (.cells #[.int .i64 9, .int .u32 (i : Int), .slice Y n k] 44)).alloc (.cells #[.int .i64 0, .slice none 0 0, .int .i64 0, .int .i64 0, .slice none 0 0, .int .i64 0, .slice none 0 0] 39) = w1 at *
  have H1 := H.kept hb3
  have hY1 := hY.below hb3
  obtain ⟨b0, hb0⟩ : ∃ b0, b0 = W.heap.size := ⟨_, rfl⟩
  rw [← hb0] at hx0 hx1 hx2 ⊢
  have HW := Lib.hid hb0
  have HB1 := Lib.hid hb3
  have HY2 := Lib.hid hx2
  have HR := Lib.hid R
  obtain ⟨q0, q1, q2, q3, q4, q5, q6⟩ := box7 hx0
  obtain ⟨a0, a1, a2⟩ := act3 hx1
  have cC := WRead H1 R hg i
  rw [← hr] at cC
  clear hr
  replace cC := Lib.hid cC
  have HX0 := Lib.hid hx0
  have HV1 := Lib.hid H1
  clear H R hg hK hl hm hY H1 hY1 hx1 hx2 hb3 hb0 hx0
  go_wp2_with fail
  refine cC.out.mono ?_
  rintro e w2 ⟨rfl, hb2⟩
  have HY3 := Lib.hid (box_kept HY2.out hb2)
  have HB2 := Lib.hid (bel_call HB1.out hb2)
  have HV2 := Lib.hid (Raw.kept HV1.out hb2)
  have hx0 := box_kept HX0.out hb2
  clear cC hb2 q0 q1 q2 q3 q4 q5 q6 a0 a1 a2 HY2 HB1 HX0 HV1
  obtain ⟨q0, q1, q2, q3, q4, q5, q6⟩ := box7 hx0
  clear hx0
  obtain ⟨u0, u1, u2, u3, u4, u5, u6⟩ := box7 HY3.out
  have f0 := free7 HY3.out 0
  have f1 := free7 HY3.out 1
  have f2 := free7 HY3.out 2
  have f3 := free7 HY3.out 3
  have f4 := free7 HY3.out 4
  have f5 := free7 HY3.out 5
  have f6 := free7 HY3.out 6
  go_wp2_with fail
  have g7 := set7_at HY3.out (.int .i64 zm) (.slice (some ⟨h, 0, none⟩) nl hc) (.int .i64 zr) (.int .i64 zs) (.slice A N c) (.int .i64 zo) (.slice B nr d)
  have i7 := set7_into w2 (b0 + 2) (.int .i64 zm) (.slice (some ⟨h, 0, none⟩) nl hc) (.int .i64 zr) (.int .i64 zs) (.slice A N c) (.int .i64 zo) (.slice B nr d)
  unfold set7 at g7 i7
  generalize ((((((w2.setCell ⟨b0 + 2, 0, none⟩ (.int .i64 zm)).setCell ⟨b0 + 2, 1, none⟩ (.slice (some ⟨h, 0, none⟩) nl hc)).setCell ⟨b0 + 2, 2, none⟩ (.int .i64 zr)).setCell ⟨b0 + 2, 3, none⟩ (.int .i64 zs)).setCell ⟨b0 + 2, 4, none⟩ (.slice A N c)).setCell ⟨b0 + 2, 5, none⟩ (.int .i64 zo)).setCell ⟨b0 + 2, 6, none⟩ (.slice B nr d) = w3 at *
  have hr7 := Raw.box HV2.out i7 HY3.out rfl
  have hb7 := bel_into HB2.out i7 (by have := HW.out; omega)
  obtain ⟨o0, o1, o2, o3, o4, o5, o6⟩ := box7 g7
  exact bodyPost_ret (v := .tuple #[.agg #[.int .i64 zm, .slice (some ⟨h, 0, none⟩) nl hc, .int .i64 zr, .int .i64 zs, .slice A N c, .int .i64 zo, .slice B nr d], .int .i64 r.2]) (by simp [results, Try.results10, go_sem, o0, o1, o2, o3, o4, o5, o6]) rfl ⟨⟨_, _, rfl, hr7.to, HR.out⟩, hb7⟩
set_option maxRecDepth 100000 in
set_option maxHeartbeats 2000000 in
theorem want_x (kd : Int) (hkd : ∀ n : Nat, n ≤ 9 → kd ≠ (n : Int)) {W : World} {zm zr zs zo : Int} {h nl hc N c nr d : Nat} {A B : Option Addr} (H : Raw W dt zm zr zs zo h nl hc N c nr d A B) (R : Rl st dt) (hg : Good st) (hK : Sm st 900000) (hl : st.ls.length ≤ 12) (hm : st.m ≤ 65536) {i n k : Nat} {Y : Option Addr} {y : List UInt8} (hi : i < 4294967296) (hY : BL W Y y) (hn : y.length = n) : Calls Try.prog 10 #[.agg #[.int .i64 zm, .slice (some ⟨h, 0, none⟩) nl hc, .int .i64 zr, .int .i64 zs, .slice A N c, .int .i64 zo, .slice B nr d], .agg #[.int .i64 kd, .int .u32 (i : Int), .slice Y n k]] W fun e w' => Ans w' ((0, st) : Int × St).2 ((0, st) : Int × St).1 e ∧ Below W.heap.size W w' := by
  go_enter Try.func10, Try.ntmps10
  go_upto_region 1 with fail
  obtain ⟨hb3, hx0, hx1, hx2⟩ := Raw.three W (.cells #[.int .i64 zm, .slice (some ⟨h, 0, none⟩) nl hc, .int .i64 zr, .int .i64 zs, .slice A N c, .int .i64 zo, .slice B nr d] 39) (.cells #[.int .i64 kd, .int .u32 (i : Int), .slice Y n k] 44) (.cells #[.int .i64 0, .slice none 0 0, .int .i64 0, .int .i64 0, .slice none 0 0, .int .i64 0, .slice none 0 0] 39)
  generalize ((W.alloc (.cells #[.int .i64 zm, .slice (some ⟨h, 0, none⟩) nl hc, .int .i64 zr, .int .i64 zs, .slice A N c, .int .i64 zo, .slice B nr d] 39)).alloc (.cells #[.int .i64 kd, .int .u32 (i : Int), .slice Y n k] 44)).alloc (.cells #[.int .i64 0, .slice none 0 0, .int .i64 0, .int .i64 0, .slice none 0 0, .int .i64 0, .slice none 0 0] 39) = w1 at *
  have H1 := H.kept hb3
  have hY1 := hY.below hb3
  obtain ⟨b0, hb0⟩ : ∃ b0, b0 = W.heap.size := ⟨_, rfl⟩
  rw [← hb0] at hx0 hx1 hx2 ⊢
  have HW := Lib.hid hb0
  have HB1 := Lib.hid hb3
  have HY2 := Lib.hid hx2
  have HR := Lib.hid R
  obtain ⟨q0, q1, q2, q3, q4, q5, q6⟩ := box7 hx0
  obtain ⟨a0, a1, a2⟩ := act3 hx1
  have n0 : (kd == 0) = false := by have := hkd 0 (by omega); simpa using this
  have n1 : (kd == 1) = false := by have := hkd 1 (by omega); simpa using this
  have n2 : (kd == 2) = false := by have := hkd 2 (by omega); simpa using this
  have n3 : (kd == 3) = false := by have := hkd 3 (by omega); simpa using this
  have n4 : (kd == 4) = false := by have := hkd 4 (by omega); simpa using this
  have n5 : (kd == 5) = false := by have := hkd 5 (by omega); simpa using this
  have n6 : (kd == 6) = false := by have := hkd 6 (by omega); simpa using this
  have n7 : (kd == 7) = false := by have := hkd 7 (by omega); simpa using this
  have n8 : (kd == 8) = false := by have := hkd 8 (by omega); simpa using this
  have n9 : (kd == 9) = false := by have := hkd 9 (by omega); simpa using this
  have HY3 := HY2
  have HB2 := HB1
  have HV2 := Lib.hid H1
  clear H R hg hK hl hm hY H1 hY1 hx1 hx2 hb3 hb0 hx0 hkd HY2 HB1
  obtain ⟨u0, u1, u2, u3, u4, u5, u6⟩ := box7 HY3.out
  have f0 := free7 HY3.out 0
  have f1 := free7 HY3.out 1
  have f2 := free7 HY3.out 2
  have f3 := free7 HY3.out 3
  have f4 := free7 HY3.out 4
  have f5 := free7 HY3.out 5
  have f6 := free7 HY3.out 6
  go_wp2_with fail
  have g7 := set7_at HY3.out (.int .i64 zm) (.slice (some ⟨h, 0, none⟩) nl hc) (.int .i64 zr) (.int .i64 zs) (.slice A N c) (.int .i64 zo) (.slice B nr d)
  have i7 := set7_into w1 (b0 + 2) (.int .i64 zm) (.slice (some ⟨h, 0, none⟩) nl hc) (.int .i64 zr) (.int .i64 zs) (.slice A N c) (.int .i64 zo) (.slice B nr d)
  unfold set7 at g7 i7
  generalize ((((((w1.setCell ⟨b0 + 2, 0, none⟩ (.int .i64 zm)).setCell ⟨b0 + 2, 1, none⟩ (.slice (some ⟨h, 0, none⟩) nl hc)).setCell ⟨b0 + 2, 2, none⟩ (.int .i64 zr)).setCell ⟨b0 + 2, 3, none⟩ (.int .i64 zs)).setCell ⟨b0 + 2, 4, none⟩ (.slice A N c)).setCell ⟨b0 + 2, 5, none⟩ (.int .i64 zo)).setCell ⟨b0 + 2, 6, none⟩ (.slice B nr d) = w3 at *
  have hr7 := Raw.box HV2.out i7 HY3.out rfl
  have hb7 := bel_into HB2.out i7 (by have := HW.out; omega)
  obtain ⟨o0, o1, o2, o3, o4, o5, o6⟩ := box7 g7
  exact bodyPost_ret (v := .tuple #[.agg #[.int .i64 zm, .slice (some ⟨h, 0, none⟩) nl hc, .int .i64 zr, .int .i64 zs, .slice A N c, .int .i64 zo, .slice B nr d], .int .i64 0]) (by simp [results, Try.results10, go_sem, o0, o1, o2, o3, o4, o5, o6]) rfl ⟨⟨_, _, rfl, hr7.to, HR.out⟩, hb7⟩
theorem want_any {W : World} {zm zr zs zo : Int} {h nl hc N c nr d : Nat} {A B : Option Addr} (H : Raw W dt zm zr zs zo h nl hc N c nr d A B) (R : Rl st dt) (hg : Good st) (hK : Sm st 900000) (hl : st.ls.length ≤ 12) (hm : st.m ≤ 65536) {i n k : Nat} {Y : Option Addr} {y : List UInt8} (hi : i < 4294967296) (hY : BL W Y y) (hn : y.length = n) (kd : Int) : Calls Try.prog 10 #[.agg #[.int .i64 zm, .slice (some ⟨h, 0, none⟩) nl hc, .int .i64 zr, .int .i64 zs, .slice A N c, .int .i64 zo, .slice B nr d], .agg #[.int .i64 kd, .int .u32 (i : Int), .slice Y n k]] W fun e w' => Ans w' (stepT st kd i y).2 (stepT st kd i y).1 e ∧ Below W.heap.size W w' := by
  unfold stepT
  by_cases h0 : kd = 0 ∨ kd = 1
  · rw [if_pos h0]
    rcases h0 with rfl | rfl
    · exact want_0 H R hg hK hl hm hi hY hn
    · exact want_1 H R hg hK hl hm hi hY hn
  rw [if_neg h0]
  by_cases h1 : kd = 2
  · rw [if_pos h1]
    subst h1
    exact want_2 H R hg hK hl hm hi hY hn
  rw [if_neg h1]
  by_cases h2 : kd = 3 ∨ kd = 4
  · rw [if_pos h2]
    rcases h2 with rfl | rfl
    · exact want_3 H R hg hK hl hm hi hY hn
    · exact want_4 H R hg hK hl hm hi hY hn
  rw [if_neg h2]
  by_cases h3 : kd = 5 ∨ kd = 6
  · rw [if_pos h3]
    rcases h3 with rfl | rfl
    · exact want_5 H R hg hK hl hm hi hY hn
    · exact want_6 H R hg hK hl hm hi hY hn
  rw [if_neg h3]
  by_cases h4 : kd = 7
  · rw [if_pos h4]
    subst h4
    exact want_7 H R hg hK hl hm hi hY hn
  rw [if_neg h4]
  by_cases h5 : kd = 8
  · rw [if_pos h5]
    subst h5
    exact want_8 H R hg hK hl hm hi hY hn
  rw [if_neg h5]
  by_cases h6 : kd = 9
  · rw [if_pos h6]
    subst h6
    exact want_9 H R hg hK hl hm hi hY hn
  rw [if_neg h6]
  exact want_x kd (fun n hn => by omega) H R hg hK hl hm hi hY hn
end
end Ca
end Go.Proofs.Ytjnbdmimflhhiaa

namespace Go.Proofs.Ytjnbdmimflhhiaa
open Go.RowKit
namespace Ca
open Mem Dv Cn Po

/-- the kinds of a cache's blocks -/
def kinds : List TypeId := [80, 92, 105, 103, 72, 42, 5]
def Typed (w : World) (x : Nat) : Prop := (∃ C U z, w.heap[x]? = some (.cells C U z) ∧ U ∈ kinds) ∨ ∃ es c, w.heap[x]? = some (.map es c)
section
variable {w : World} {F : List Nat} {p g : Nat} {st : St}
theorem typed_of {x : Nat} {C : Array Value} {U : TypeId} {z : Nat × Nat} (h : w.heap[x]? = some (.cells C U z)) (hU : U ∈ kinds) : Typed w x := .inl ⟨C, U, z, h, hU⟩
theorem Typed.ne {x b : Nat} (h : Typed w x) {C : Array Value} {U : TypeId} {z : Nat × Nat} (hb : w.heap[b]? = some (.cells C U z)) (hU : U ∉ kinds) : b ≠ x := by
  rintro rfl
  rcases h with ⟨C', U', z', h', hU'⟩ | ⟨es, c, h'⟩
  · rw [hb] at h'
    injection h' with h'
    injection h' with _ e _
    exact hU (e ▸ hU')
  · rw [hb] at h'
    injection h' with h'
    cases h'
theorem Cw.shrink (h : Cw w F p g st) : ∃ F0, Cw w F0 p g st ∧ (∀ x, x ∈ F0 → x ∈ F) ∧ ∀ x, x ∈ F0 → Typed w x := by
  obtain ⟨S, f, mp, ch, cb, qk, h1, h2, h3, h4, h5, h6⟩ := h
  obtain ⟨b, c, bks, hw, hfoot⟩ := h1.dv.ex
  have hby : ∀ j x, j < st.fr.length ∧ st.fr[j]? = some (some x) → (qk j).1 ∈ F := fun j x hx => h4 j x hx.2
  refine ⟨foot g b bks ++ ([p, f, mp, ch, cb] ++ (List.range st.fr.length).filterMap fun j => match st.fr[j]? with | some (some _) => some (qk j).1 | _ => none), ⟨foot g b bks, f, mp, ch, cb, qk, ⟨h1.hd, h1.fw, h1.by_, h1.mc, h1.cn, ⟨⟨b, c, bks, hw, fun k hk => hk⟩, h1.dv.m1, h1.dv.m2, h1.dv.n1, h1.dv.n2, fun k hk => h1.dv.lt k (hfoot k hk)⟩, h1.nd, fun x hx hn => h1.out x hx (hfoot x hn), fun j x hx => ⟨fun hn => (h1.q1 j x hx).1 (hfoot _ hn), (h1.q1 j x hx).2⟩, h1.q2⟩, fun x hx => by simp [hx], fun x hx => ?_, fun j x hx => ?_, h5, fun x hx => ?_⟩, fun x hx => ?_, fun x hx => ?_⟩
  · exact List.mem_append_right _ (List.mem_append_left _ hx)
  · refine List.mem_append_right _ (List.mem_append_right _ (List.mem_filterMap.2 ⟨j, by rw [List.mem_range]; exact lt_of_get hx, by rw [hx]⟩))
  · rcases List.mem_append.1 hx with hx | hx
    · exact h6 x (h2 x (hfoot x hx))
    rcases List.mem_append.1 hx with hx | hx
    · exact h6 x (h3 x hx)
    · obtain ⟨j, _, hj⟩ := List.mem_filterMap.1 hx
      split at hj
      · rename_i y hy
        cases hj
        exact h6 _ (h4 j y hy)
      · cases hj
  · rcases List.mem_append.1 hx with hx | hx
    · exact h2 x (hfoot x hx)
    rcases List.mem_append.1 hx with hx | hx
    · exact h3 x hx
    · obtain ⟨j, _, hj⟩ := List.mem_filterMap.1 hx
      split at hj
      · rename_i y hy
        cases hj
        exact h4 j y hy
      · cases hj
  · rcases List.mem_append.1 hx with hx | hx
    · rcases of_foot hx with rfl | rfl | ⟨i, o, k, hi⟩
      · exact typed_of hw.hd (by decide)
      · obtain ⟨_, h2'⟩ := hw.ow
        rcases h2' with ⟨h', _⟩ | ⟨g', cap', cur, he, _, hh, _⟩
        · cases h'
        · obtain ⟨rfl, _⟩ : x = g' ∧ c = cap' := by simpa using he
          exact typed_of hh (by decide)
      · obtain ⟨_, _, _, C, y, hC, _⟩ := hw.yes i x o k hi
        exact typed_of hC (by decide)
    rcases List.mem_append.1 hx with hx | hx
    · simp only [List.mem_cons, List.not_mem_nil, or_false] at hx
      rcases hx with rfl | rfl | rfl | rfl | rfl
      · exact typed_of h1.hd (by decide)
      · obtain ⟨C, hC, _⟩ := h1.fw
        exact typed_of hC (by decide)
      · obtain ⟨D, ⟨es, clock, hb, _⟩, _⟩ := h1.mc.own
        exact .inr ⟨es, clock, hb⟩
      · obtain ⟨c', A, B, hc, _⟩ := h1.cn
        exact typed_of hc.hd (by decide)
      · obtain ⟨c', A, B, hc, _⟩ := h1.cn
        obtain ⟨cur, hh⟩ := hc.lk.heap
        exact typed_of hh (by decide)
    · obtain ⟨j, _, hj⟩ := List.mem_filterMap.1 hx
      split at hj
      · rename_i y hy
        cases hj
        exact typed_of (h1.by_ j y hy) (by decide)
      · cases hj
end
section
variable {W w w' : World} {F : List Nat} {p g : Nat} {st : St} {dt : Dt} {zm zr zs zo : Int} {h nl hc N c nr d : Nat} {A B : Option Addr}
theorem Cw.far {w w' : World} {F T : List Nat} {p g : Nat} {st : St} (h : Cw w F p g st) (hi : Flow.Into T w w') (hn : ∀ x, x ∈ F → x ∉ T) : Cw w' F p g st := by
  obtain ⟨S, f, mp, ch, cb, qk, h1, h2, h3, h4, h5, h6⟩ := h
  have hb : ∀ x, x ∈ F → w'.heap[x]? = w.heap[x]? := fun x hx => hi.block x (h6 x hx) (hn x hx)
  refine ⟨S, f, mp, ch, cb, qk, ⟨(hb p (h3 p (by simp))).trans h1.hd, h1.fw.keep (hb f (h3 f (by simp))), fun j x hx => (hb _ (h4 j x hx)).trans (h1.by_ j x hx), h1.mc.keep (hb mp (h3 mp (by simp))), h1.cn.into hi (hn ch (h3 ch (by simp))) (hn cb (h3 cb (by simp))), h1.dv.into hi fun x hx => hn x (h2 x hx), h1.nd, h1.out, h1.q1, h1.q2⟩, h2, h3, h4, h5, fun x hx => Nat.lt_of_lt_of_le (h6 x hx) hi.size⟩
theorem Cl.shrink (H : Cl W w F p g st) : ∃ F0, Cl W w F0 p g st ∧ (∀ x, x ∈ F0 → x ∈ F) ∧ ∀ x, x ∈ F0 → Typed w x := by
  obtain ⟨F0, h1, h2, h3⟩ := H.cw.shrink
  exact ⟨F0, ⟨h1, fun x hx => H.lo x (h2 x hx), H.bl⟩, h2, h3⟩
/-- what a call of the program's writes is in none of the document's lists -/
theorem Raw.step (H : Raw w dt zm zr zs zo h nl hc N c nr d A B) (hi : Flow.Into F w w') (hF : ∀ x, x ∈ F → Typed w x) : Raw w' dt zm zr zs zo h nl hc N c nr d A B := by
  refine ⟨⟨H.dl.rf.into hi fun hx => ?_, H.dl.v4.into hi fun a ha hx => ?_, UT.keep H.dl.ul hi.size fun h0 a ha => ?_, H.dl.l0, H.dl.r0⟩, H.em, H.er, H.es, H.eo, H.en, H.eN, H.enr⟩
  · obtain ⟨_, h2⟩ := H.dl.rf.ow
    rcases h2 with ⟨h', _⟩ | ⟨g', cap', cur, he, _, hh, _⟩
    · cases h'
    · obtain ⟨rfl, _⟩ : h = g' ∧ hc = cap' := by simpa using he
      exact (hF _ hx).ne hh (by decide) rfl
  · obtain ⟨_, h2⟩ := H.dl.v4
    rcases h2 with ⟨h', _⟩ | ⟨g', cap', cur, he, _, hh, _⟩
    · subst ha; cases h'
    · subst ha
      obtain ⟨rfl, _⟩ : a = ⟨g', 0, none⟩ ∧ c = cap' := by simpa using he
      exact (hF _ hx).ne hh (by decide) rfl
  · obtain ⟨C, z, hh⟩ := H.dl.ul.ty h0 a ha
    exact hi.block _ (Array.getElem?_eq_some_iff.1 hh).1 fun hx => (hF _ hx).ne hh (by decide) rfl
theorem box_step {b : Nat} {C : Array Value} {U : TypeId} {z : Nat × Nat} (hb : w.heap[b]? = some (.cells C U z)) (hi : Flow.Into F w w') (hF : ∀ x, x ∈ F → Typed w x) (hU : U ∉ kinds) : w'.heap[b]? = some (.cells C U z) :=
  box_into hb hi fun hx => (hF b hx).ne hb hU rfl
/-- a box of another kind is stored into -/
theorem Cl.box {b : Nat} {C : Array Value} {U : TypeId} {z : Nat × Nat} (H : Cl W w F p g st) (hi : Flow.Into [b] w w') (hb : w.heap[b]? = some (.cells C U z)) (hF : ∀ x, x ∈ F → Typed w x) (hU : U ∉ kinds) (hW : W.heap.size ≤ b) : Cl W w' F p g st :=
  ⟨H.cw.far hi fun x hx e => by
    obtain rfl : x = b := by simpa using e
    exact (hF x hx).ne hb hU rfl, H.lo, H.bl.trans (below_in hi hW H.bl.size)⟩
end
end Ca
end Go.Proofs.Ytjnbdmimflhhiaa
