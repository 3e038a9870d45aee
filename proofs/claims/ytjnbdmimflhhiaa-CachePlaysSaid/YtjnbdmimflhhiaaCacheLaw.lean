/-
  A cache in a law; the page's example; a call by its kind.
-/
import Derived.Test.YtjnbdmimflhhiaaCacheNew
namespace Go.Proofs.Ytjnbdmimflhhiaa
open Go.RowKit
namespace Ca
open Mem Dv Cn Po

/-- a cache that was made behind W -/
structure Cl (W w : World) (F : List Nat) (p g : Nat) (st : St) : Prop where
  cw : Cw w F p g st
  lo : ∀ x, x ∈ F → W.heap.size ≤ x
  bl : Below W.heap.size W w
section
variable {W w w' : World} {F : List Nat} {p g : Nat} {st st' : St}
theorem Cl.kept (h : Cl W w F p g st) (hb : Below w.heap.size w w') : Cl W w' F p g st := ⟨h.cw.kept hb, h.lo, below_all h.bl hb (Nat.le_refl _)⟩
theorem Cl.aft (h : Cl W w F p g st) (ha : Aft w w' F p g st') : ∃ F', Cl W w' F' p g st' ∧ Grew w F F' := by
  obtain ⟨⟨F', h1, h2⟩, h3⟩ := ha
  refine ⟨F', ⟨h1, fun x hx => ?_, h.bl.trans (below_of_into h3 h.lo h.bl.size)⟩, h2⟩
  rcases h2 x hx with h' | h'
  · exact h.lo x h'
  · exact Nat.le_trans h.bl.size h'
/-- the device that the cache is of -/
theorem Cl.dev (h : Cl W w F p g st) : ∃ S, Dev w S g st.m st.ls st.r st.s := by
  obtain ⟨S, fb, mp, ch, cb, qk, h1, _⟩ := h.cw
  exact ⟨S, h1.dv⟩
/-- what a call leaves, with its answer -/
def Did (W w w' : World) (F : List Nat) (p g : Nat) (z : Int) (st' : St) (e : Ending) : Prop := e = .returned (.int .i64 z) ∧ (∃ F', Cl W w' F' p g st' ∧ Grew w F F') ∧ Flow.Into F w w'
theorem Did.of {z : Int} {e : Ending} (h : Cl W w F p g st) (hd : e = .returned (.int .i64 z) ∧ Aft w w' F p g st') : Did W w w' F p g z st' e := ⟨hd.1, h.aft hd.2, hd.2.2⟩
theorem LPin (h : Cl W w F p g st) (hK : Sm st 1000000) (b : Nat) : Calls Try.prog 33 #[.pointer (some ⟨p, 0, none⟩), .int .u32 (b : Int)] w fun e w' => Did W w w' F p g (pinT st b).1 (pinT st b).2 e := (CPin h.cw hK b).mono fun _ _ hd => Did.of h hd
theorem LFresh (h : Cl W w F p g st) (hK : Sm st 1000000) (b : Nat) : Calls Try.prog 42 #[.pointer (some ⟨p, 0, none⟩), .int .u32 (b : Int)] w fun e w' => Did W w w' F p g (freshT st b).1 (freshT st b).2 e := (CFresh h.cw hK b).mono fun _ _ hd => Did.of h hd
theorem LUnpin (h : Cl W w F p g st) (hK : Sm st 1000000) {b : Nat} (hb : b < 4294967296) : Calls Try.prog 35 #[.pointer (some ⟨p, 0, none⟩), .int .u32 (b : Int)] w fun e w' => Did W w w' F p g (unpinT st b).1 (unpinT st b).2 e := (CUnpin h.cw hK hb).mono fun _ _ hd => Did.of h hd
theorem LWrite (h : Cl W w F p g st) {b : Nat} (hb : b < 4294967296) {A : Option Addr} {n c : Nat} {y : List UInt8} (hA : BL w A y) (hn : y.length = n) : Calls Try.prog 34 #[.pointer (some ⟨p, 0, none⟩), .int .u32 (b : Int), .slice A n c] w fun e w' => Did W w w' F p g (writeT st b y).1 (writeT st b y).2 e := by
  subst hn
  exact (CWrite h.cw hb hA).mono fun _ _ hd => Did.of h hd
theorem LDrop (h : Cl W w F p g st) {b : Nat} (hb : b < 4294967296) : Calls Try.prog 43 #[.pointer (some ⟨p, 0, none⟩), .int .u32 (b : Int)] w fun e w' => Did W w w' F p g (dropT st b).1 (dropT st b).2 e := (CDrop h.cw hb).mono fun _ _ hd => Did.of h hd
theorem LFlush (h : Cl W w F p g st) (hK : Sm st 900000) (hl : st.ls.length ≤ 12) : Calls Try.prog 44 #[.pointer (some ⟨p, 0, none⟩)] w fun e w' => Did W w w' F p g 0 (flushT st) e := (CFlush h.cw hK hl).mono fun _ _ hd => Did.of h hd
theorem Did.same (h : Cl W w F p g st) {z : Int} {e : Ending} (he : e = .returned (.int .i64 z)) (hb : Below w.heap.size w w') : Did W w w' F p g z st e := ⟨he, ⟨F, h.kept hb, grew_refl w F⟩, Flow.Into.of_below hb⟩

/-! ### the page's example -/
def aw0 : St := st0 1 1 (List.replicate 5 (List.replicate 1 0)) 0 0
def aw1 : St := (pinT aw0 1).2
def aw2 : St := (writeT aw1 1 [7]).2
def aw3 : St := (unpinT aw2 1).2
def aw4 : St := (pinT aw3 2).2
def aw5 : St := (pinT aw4 3).2
theorem sm_aw0 : Sm aw0 0 := ⟨Nat.le_refl _, Nat.le_refl _, fun _ _ h => (repl_none h).elim⟩
theorem sm_aw1 : Sm aw1 2 := sm_aw0.pin 1
theorem sm_aw3 : Sm aw3 2 := (sm_aw1.write 1 [7]).unpin 1
theorem sm_aw4 : Sm aw4 4 := sm_aw3.pin 2
set_option maxRecDepth 100000 in
set_option maxHeartbeats 2000000 in
set_option maxRecDepth 100000 in
theorem awake_any (W : World) : Calls Try.prog 8 #[] W fun e w' => e = .returned (.bool true) ∧ Below W.heap.size W w' := by
  have cD : ∀ w, Calls Try.prog 6 #[.int .i64 5, .int .i64 1] w fun e w' => Made w w' 1 (List.replicate 5 (List.replicate 1 0)) 0 0 e ∧ Below w.heap.size w w' := fun w => Dv.New_in 5 1 w (by omega) (by omega) (by omega) (by omega)
  have HD := fun w => Lib.hid (cD w)
  have cN : ∀ (w : World) (S : List Nat) (g : Nat) (h : Dev w S g 1 (List.replicate 5 (List.replicate 1 0)) 0 0), Hid (Calls Try.prog 7 #[.pointer (some ⟨g, 0, none⟩), .int .i64 1] w fun e w' => NewC w w' S g aw0 e) := fun w S g h => New_in h 1 (by omega) (by omega)
  have cP1 : ∀ {w F p g}, Cl W w F p g aw0 → Hid (Calls Try.prog 33 #[.pointer (some ⟨p, 0, none⟩), .int .u32 1] w fun e w' => Did W w w' F p g 0 aw1 e) := fun h => LPin h (sm_aw0.mono (by omega)) 1
  have cW2 : ∀ {w F p g q}, Cl W w F p g aw1 → BL w (some ⟨q, 0, none⟩) [7] → Hid (Calls Try.prog 34 #[.pointer (some ⟨p, 0, none⟩), .int .u32 1, .slice (some ⟨q, 0, none⟩) 1 1] w fun e w' => Did W w w' F p g 0 aw2 e) := fun h hA => LWrite (b := 1) h (by omega) hA rfl
  have cU3 : ∀ {w F p g}, Cl W w F p g aw2 → Hid (Calls Try.prog 35 #[.pointer (some ⟨p, 0, none⟩), .int .u32 1] w fun e w' => Did W w w' F p g 0 aw3 e) := fun h => LUnpin (b := 1) h ((sm_aw1.write 1 [7]).mono (by omega)) (by omega)
  have cP4 : ∀ {w F p g}, Cl W w F p g aw3 → Hid (Calls Try.prog 33 #[.pointer (some ⟨p, 0, none⟩), .int .u32 2] w fun e w' => Did W w w' F p g 0 aw4 e) := fun h => LPin h (sm_aw3.mono (by omega)) 2
  have cP5 : ∀ {w F p g}, Cl W w F p g aw4 → Hid (Calls Try.prog 33 #[.pointer (some ⟨p, 0, none⟩), .int .u32 3] w fun e w' => Did W w w' F p g 7 aw5 e) := fun h => LPin h (sm_aw4.mono (by omega)) 3
  have cS : ∀ {w F p g}, Cl W w F p g aw4 → Hid (Calls Try.prog 14 #[.pointer (some ⟨g, 0, none⟩)] w fun e w' => e = .returned (.agg #[.int .u64 2, .int .u64 1]) ∧ Below w.heap.size w w') := fun h => by
    obtain ⟨S, hd⟩ := h.dev
    exact Stats_any hd
  clear cD
  go_enter Try.func8, Try.ntmps8
  go_upto_region 2 with (go_at_call 6; refine (HD _).out.mono ?_; rintro e w1 ⟨⟨g, S, rfl, hd, hg⟩, hb⟩; have H1 := Lib.hid (And.intro hd (And.intro hg hb)); clear hd hg hb)
  clear HD
  go_upto_region 5 with (go_at_call 7; refine (cN _ _ _ H1.out.1).out.mono ?_; rintro e w2 ⟨p, F2, rfl, hc, hg, hb⟩; have H2 : Hid (Cl W w2 F2 p g aw0) := ⟨hc, fun x hx => (by rcases hg x hx with h' | h'; exact H1.out.2.1 x h'; exact Nat.le_trans H1.out.2.2.size h'), below_all H1.out.2.2 hb (Nat.le_refl _)⟩; clear hc hg hb)
  clear cN H1
  go_upto_region 6 with (first
    | (go_at_call 33; refine (cP1 H2.out).out.mono ?_; rintro e w3 ⟨rfl, ⟨F3, hc, -⟩, -⟩; have H3 := Lib.hid hc; clear hc H2 cP1)
    | (go_at_call 34; refine (cW2 (H3.out.kept ((Below.refl _ _).alloc (Nat.le_refl _) _)) (Row.new 5 w3 [7]).bl).out.mono ?_; rintro e w4 ⟨rfl, ⟨F4, hc, -⟩, -⟩; have H4 := Lib.hid hc; clear hc H3 cW2)
    | (go_at_call 35; refine (cU3 H4.out).out.mono ?_; rintro e w5 ⟨rfl, ⟨F5, hc, -⟩, -⟩; have H5 := Lib.hid hc; clear hc H4 cU3)
    | (go_at_call 33; refine (cP4 H5.out).out.mono ?_; rintro e w6 ⟨rfl, ⟨F6, hc, -⟩, -⟩; have H6 := Lib.hid hc; clear hc H5 cP4))
  go_wp2_with (first
    | (go_at_call 14; refine (cS H6.out).out.mono ?_; rintro e w7 ⟨rfl, hb⟩; have H7 := Lib.hid (H6.out.kept hb); clear hb H6 cS)
    | (go_at_call 33; refine (cP5 H7.out).out.mono ?_; rintro e w8 ⟨rfl, ⟨F8, hc, -⟩, -⟩; have H8 := Lib.hid hc; clear hc H7 cP5))
  go_ret
  exact ⟨rfl, H8.out.bl⟩
end
end Ca
end Go.Proofs.Ytjnbdmimflhhiaa
