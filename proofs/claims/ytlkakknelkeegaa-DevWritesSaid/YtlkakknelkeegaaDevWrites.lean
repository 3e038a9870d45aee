/-
  DevWrites, walked.
-/
import Derived.Test.YtlkakknelkeegaaDevActs
namespace Go.Proofs.Ytlkakknelkeegaa
open Go.RowKit
namespace Dv
open Mem

/-- a buffer of the law's own, off the blocks S and behind W -/
def Bu (W w : World) (S : List Nat) (A : Option Addr) (n : Nat) : Prop :=
  0 < n → ∃ q C, A = some ⟨q, 0, none⟩ ∧ q ∉ S ∧ W.heap.size ≤ q ∧ Cells 5 w q C ∧ n ≤ C.length ∧ ∀ j, j < n → ∃ x : Nat, x < 256 ∧ C[j]? = some (.int .u8 (x : Int))
theorem bytesV_at {l : List UInt8} {j : Nat} (h : j < l.length) : ∃ x : Nat, x < 256 ∧ (bytesV l)[j]? = some (.int .u8 (x : Int)) :=
  ⟨l[j].toNat, l[j].toNat_lt, by simp [bytesV, h, byteV]⟩
theorem Bu.of_own {W w : World} {S : List Nat} {B : Nat} {v : Value} {l : List UInt8} {A : Option Addr} {c : Nat} (h : Own 5 w B v l) (e : v = .slice A l.length c) (hS : ∀ k, k ∈ S → k < B) (hB : W.heap.size ≤ B) : Bu W w S A l.length := fun h0 => by
  obtain ⟨q, c', C, rfl, h1, h2, h3, h4, h5⟩ := own_cells h h0
  obtain ⟨rfl, rfl⟩ : some ⟨q, 0, none⟩ = A ∧ c' = c := by simpa using e
  refine ⟨q, C, rfl, fun hq => by have := hS q hq; omega, Nat.le_trans hB h1, h2, h4, fun j hj => ?_⟩
  obtain ⟨x, hx, hb⟩ := bytesV_at hj
  refine ⟨x, hx, ?_⟩
  rw [← h5, win_get, if_pos hj, Nat.zero_add] at hb
  exact hb
theorem Bu.into {W w w' : World} {S S' : List Nat} {A : Option Addr} {n : Nat} (h : Bu W w S A n) (hi : Flow.Into S w w') (hg : Grew w S S') : Bu W w' S' A n := fun h0 => by
  obtain ⟨q, C, rfl, h1, h2, h3, h4⟩ := h h0
  refine ⟨q, C, rfl, fun hq => ?_, h2, (hi.block q h3.lt h1).trans h3, h4⟩
  rcases hg q hq with h' | h'
  · exact h1 h'
  · have := h3.lt; omega
theorem Bu.kept {W w w' : World} {S : List Nat} {A : Option Addr} {n : Nat} (h : Bu W w S A n) (hb : Below w.heap.size w w') : Bu W w' S A n := fun h0 => by
  obtain ⟨q, C, rfl, h1, h2, h3, h4⟩ := h h0
  exact ⟨q, C, rfl, h1, h2, (hb.block q h3.lt).trans h3, h4⟩
/-- a byte stored into it -/
theorem Bu.put {W w : World} {S : List Nat} {g m : Nat} {ls : List (List UInt8)} {r s q n : Nat} (h : Bu W w S (some ⟨q, 0, none⟩) n) (hd : Dw W w S g m ls r s) {k z : Nat} (hk : k < n) (hz : z < 256) :
    Bu W (w.setCell ⟨q, k, none⟩ (.int .u8 (z : Int))) S (some ⟨q, 0, none⟩) n ∧ Dw W (w.setCell ⟨q, k, none⟩ (.int .u8 (z : Int))) S g m ls r s := by
  obtain ⟨q', C, e, h1, h2, h3, h4, h5⟩ := h (by omega)
  obtain rfl : q = q' := by simpa using e
  have hi := into_setCell w ⟨q, k, none⟩ (.int .u8 (z : Int))
  refine ⟨fun _ => ⟨q, C.set k (.int .u8 (z : Int)), rfl, h1, h2, ?_, by simpa using h4, fun j hj => ?_⟩, ⟨hd.dv.into hi fun x hx => ?_, below_more hd.bel hi (fun x hx => ?_) hd.bel.size, hd.lo⟩⟩
  · unfold Cells at h3 ⊢
    have hkC : k < C.length := by omega
    simp [World.setCell, Array.getElem?_modify, h3]
  · rw [List.getElem?_set]
    by_cases e : k = j
    · subst e
      exact ⟨z, hz, by simp; omega⟩
    · simp only [e, if_false]
      exact h5 j hj
  · simp only [List.mem_singleton]
    rintro rfl
    exact h1 hx
  · obtain rfl : x = q := by simpa using hx
    exact h2
theorem Bu.cell {W w : World} {S : List Nat} {A : Option Addr} {n : Nat} (h : Bu W w S A n) {k : Nat} (hk : k < n) : ∃ q x z : Nat, A = some ⟨q, 0, none⟩ ∧ x < 256 ∧ w.cell? ⟨q, k, none⟩ = some (.int .u8 (x : Int)) ∧ w.frozen? ⟨q, k, none⟩ = false ∧ z < 256 ∧ IntKind.u8.wrap ((x : Int) + 1) = (z : Int) := by
  obtain ⟨q, C, rfl, h1, h2, h3, h4, h5⟩ := h (by omega)
  obtain ⟨x, hx, hc⟩ := h5 k hk
  refine ⟨q, x, (x + 1) % 256, rfl, hx, ?_, ?_, by omega, ?_⟩
  · unfold Cells at h3
    simp only [World.cell?, h3]
    simpa using hc
  · unfold Cells at h3
    simp [World.frozen?, h3]
  · rw [IntKind.wrap_u8]; omega
/-- a told block, whose first byte is turned -/
theorem row_turn {W w : World} {S : List Nat} {g m : Nat} {ls : List (List UInt8)} {r s q : Nat} {x : List UInt8} (hd : Dw W w S g m ls r s) (hq : Row 5 w q x) (hS : q ∉ S) (hW : W.heap.size ≤ q) (v : Value) :
    Dw W (w.setCell ⟨q, 0, none⟩ v) S g m ls r s := by
  have hi := into_setCell w ⟨q, 0, none⟩ v
  refine ⟨hd.dv.into hi fun x hx => ?_, below_more hd.bel hi (fun x hx => ?_) hd.bel.size, hd.lo⟩
  · simp only [List.mem_singleton]
    rintro rfl
    exact hS hx
  · obtain rfl : x = q := by simpa using hx
    exact hW

/-- the block that is asked for has just the text that is wanted -/
def Want (ls : List (List UInt8)) (ask : Nat) (wl : List UInt8) : Prop := ls.length = 9 ∧ (ask < 9 → ls[ask]? = some wl)
theorem Want.same {ls : List (List UInt8)} {ask : Nat} {wl : List UInt8} (h : Want ls ask wl) {m i : Nat} {l : List UInt8} (hn : ¬ (wrE ls m i l = 0 ∧ i = ask)) : Want (wrT ls m i l) ask wl := by
  refine ⟨by rw [wrT_len]; exact h.1, fun h9 => ?_⟩
  unfold wrT
  split
  · rename_i h0
    have hne : i ≠ ask := fun e => hn ⟨h0, e⟩
    rw [List.getElem?_set]
    simp only [hne, if_false]
    exact h.2 h9
  · exact h.2 h9
theorem Want.new {ls : List (List UInt8)} {ask : Nat} {wl : List UInt8} (h : Want ls ask wl) {m i : Nat} {l : List UInt8} (h0 : wrE ls m i l = 0) (hi : i = ask) : Want (wrT ls m i l) ask l := by
  subst hi
  have hl := (wr_ok h0).1
  refine ⟨by rw [wrT_len]; exact h.1, fun _ => ?_⟩
  unfold wrT
  rw [if_pos h0, List.getElem?_set]
  simp [hl]

def ls93 : List (List UInt8) := List.replicate 9 (List.replicate 3 0)
set_option maxHeartbeats 4000000 in
set_option maxRecDepth 100000 in
theorem DevWrites_walk (q0 : Option Addr) (d0 : Nat) (ac : List (Int × Nat × List UInt8)) (ask : Nat) (w : World) (ha : ActL w q0 ac) (hda : ac.length ≤ maxLen) (hask : ask < 4294967296) :
    Calls Try.prog 5 #[.slice q0 ac.length d0, .int .u32 (ask : Int)] w fun e w' => e = .returned (.bool true) ∧ Below w.heap.size w w' := by
  have cA := fun w => Lib.hid (awake_any w)
  have cN : Hid (Calls Try.prog 10 #[.int .i64 9, .int .i64 3] w fun e w' => Mk w w w' 3 ls93 0 0 e) := New_mk (Below.refl _ _) 9 3 (by omega) (by omega) (by omega) (by omega)
  have HW0 : Hid (Want ls93 ask (List.replicate 3 0)) := ⟨rfl, fun h => by unfold ls93; rw [List.getElem?_replicate, if_pos h]⟩
  have hmk : ∀ w, (Instr.makeSlice 34 (.int .i64 3) (.int .i64 3)).run Try.prog w = .ok (.slice (some ⟨w.heap.size, 0, none⟩) 3 3) (w.alloc (.cells #[.int .u8 0, .int .u8 0, .int .u8 0] 5)) := fun w => run_make_at (P := Try.prog) Try.underlying34 u8info rfl (by omega) 3 (by omega) w
  have hcv : ∀ w1 : World, (convert 34 9 (.slice (some ⟨w1.heap.size, 0, none⟩) 3 3)).run Try.prog (w1.alloc (.cells #[.int .u8 0, .int .u8 0, .int .u8 0] 5)) = .ok (.string (strOf (List.replicate 3 0))) (w1.alloc (.cells #[.int .u8 0, .int .u8 0, .int .u8 0] 5)) := fun w1 =>
    run_text_n Try.underlying34 Try.underlying5 Try.underlying9 (Row.new 5 w1 (List.replicate 3 0)).bl rfl 3
  unfold maxLen at hda
  obtain ⟨N, hN⟩ : ∃ N, N = ac.length := ⟨_, rfl⟩
  rw [← hN] at hda ⊢
  have HNN := Lib.hid hN
  have HAL := Lib.hid ha
  generalize ls93 = ls0 at *
  obtain ⟨wl0, hwl0⟩ : ∃ wl0 : List UInt8, wl0 = List.replicate 3 0 := ⟨_, rfl⟩
  rw [← hwl0] at hcv HW0
  clear hN ha hwl0
  go_enter Try.func5, Try.ntmps5
  go_upto_region 4 with (go_at_call 10; refine cN.out.mono ?_; rintro e w1 ⟨g, S, rfl, hd, -, -⟩; have HD1 := Lib.hid hd; clear hd)
  go_upto_region 5 with fail
  have HD2 := Lib.hid (HD1.out.kept ((Below.refl _ _).alloc (Nat.le_refl _) (.cells #[.int .u8 0, .int .u8 0, .int .u8 0] 5)))
  generalize w1.alloc (.cells #[.int .u8 0, .int .u8 0, .int .u8 0] 5) = w2 at *
  clear cN hmk hcv HD1
  go_upto_region 6 with fail
  go_loopg [7, 8] N (fun gk wv i wr => ∃ (k : Nat) (S : List Nat) (ls : List (List UInt8)) (wl : List UInt8) (r s : Nat), k ≤ N ∧ k ≤ 60 ∧ r ≤ k ∧ s ≤ k ∧ gk = N - k ∧ i = .int .i64 k ∧ wv = .string (strOf wl) ∧ Hid (Want ls ask wl) ∧ Hid (Dw w wr S g 3 ls r s))
  case atStart => exact ⟨0, S, ls0, wl0, 0, 0, Nat.zero_le _, Nat.zero_le _, Nat.le_refl _, Nat.le_refl _, rfl, rfl, rfl, HW0, HD2⟩
  case round =>
    obtain ⟨k, S, ls, wl, r, s, hk, hk6, hr, hs, rfl, rfl, rfl, HWl, HD⟩ := hrel
    clear HD2 HW0
    by_cases hlt : k < N ∧ k < 60
    · obtain ⟨k1, k2⟩ := hlt
      obtain ⟨ab, o, x, rfl, hx⟩ := HAL.out.at_ (show k < ac.length by rw [← HNN.out]; exact k1)
      obtain ⟨kd, I, bs⟩ := x
      have hx' := hx.kept HD.out.bel
      have HX := Lib.hid hx
      obtain ⟨B, c2, hc2, hbl0, hbc⟩ := hx'.bs
      have hab : ab < wr.heap.size := Flow.lt_of_cell hc2
      have hsz := hx'.sz
      have hI32 := hx'.lt
      simp only at hc2 hbl0 hbc hsz hI32
      have HO : Hid (Own 5 (wr.alloc (.cells #[] 5)) wr.heap.size (.slice (some ⟨wr.heap.size, 0, none⟩) 0 0) []) := Own.lit 5 wr wr.heap.size [] (Nat.le_refl _) (by decide)
      have HBA := Lib.hid (hbl0.alloc (.cells #[] 5))
      have hss : wr.heap.size ≤ (wr.alloc (.cells #[] 5)).heap.size := by simp
      have hmm : ([] : List UInt8).length + bs.length ≤ 140737488355328 := by simp; omega
      clear hx hx' hbl0
      go_upto_region 8 with fail
      go_upto_region 9 with (with_reducible refine wpList_append_bytes rfl (.tmp 35) (.tmp 40) _ rfl wr.heap.size 5 Try.underlying34 u8info (.slice (some ⟨wr.heap.size, 0, none⟩) 0 0) [] rfl HO.out B bs.length c2 bs rfl rfl HBA.out hmm hss ?_; intro v' w3 hO hg _; have HOO : Hid (Own 5 w3 wr.heap.size v' bs) := (by unfold Hid; simpa using hO.out); obtain ⟨A1, c1, rfl, hbl1, _⟩ := HOO.out.slice; have HBL1 := Lib.hid hbl1; have HG := Lib.hid hg; clear hO hg hbl1)
      have HB3 : Hid (Below wr.heap.size wr w3) := Below.grown ((Below.refl _ _).alloc (Nat.le_refl _) _) HG.out hss (fun k hk => by
        obtain rfl : wr.heap.size = k := by simpa [Value.ownBlock] using hk
        exact Nat.le_refl _)
      have HD3 := Lib.hid (HD.out.kept HB3.out)
      have HBU3 : Hid (Bu w w3 S A1 bs.length) := Bu.of_own HOO.out rfl HD.out.dv.lt HD.out.size
      have hn1 : 0 < bs.length → ∀ a, A1 = some a → a.block ∉ S := fun h0 a ha => by
        obtain ⟨q, C, e, h1, _⟩ := HBU3.out h0
        rw [e] at ha
        obtain rfl := Option.some.inj ha
        exact h1
      have cP := Lib.hid (HD3.out.Put I (by omega) A1 c1 bs HBL1.out hn1)
      have d1 := (HX.out.kept HD3.out.bel).at_
      simp only at d1
      clear HO HBA hss hmm HG HOO hn1 hab hc2 hbc
      go_cut [59] (fun s59 wx => ∃ (S' : List Nat) (up : Bool), s59 = .bool up ∧ Hid (up = true ↔ (wrE ls 3 I bs = 0 ∧ I = ask)) ∧ Hid (Dw w wx S' g 3 (wrT ls 3 I bs) r (wrS ls 3 I bs s)) ∧ Hid (Bu w wx S' A1 bs.length))
      case first =>
        by_cases hE0 : wrE ls 3 I bs = 0
        · have HE0 := Lib.hid hE0
          have hE1 : (wrE ls 3 I bs == 0) = true := by simpa using hE0
          by_cases hI : I = ask
          · have HI := Lib.hid hI
            have hI1 : ((I : Int) == (ask : Int)) = true := by simp [hI]
            clear hI hE0
            go_wp2_with (go_at_call 13; refine cP.out.mono ?_; rintro e w4 ⟨S', rfl, hd, hg, hi⟩; have d2 := (HX.out.kept hd.bel).at_; have HD4 := Lib.hid hd; have HBU4 := Lib.hid (HBU3.out.into hi hg); clear hd hg hi; simp only at d2)
            go_meet
            exact ⟨S', true, rfl, ⟨fun _ => ⟨HE0.out, HI.out⟩, fun _ => rfl⟩, HD4, HBU4⟩
          · have HI := Lib.hid hI
            have hI1 : ((I : Int) == (ask : Int)) = false := by simp; omega
            clear hI hE0
            go_wp2_with (go_at_call 13; refine cP.out.mono ?_; rintro e w4 ⟨S', rfl, hd, hg, hi⟩; have d2 := (HX.out.kept hd.bel).at_; have HD4 := Lib.hid hd; have HBU4 := Lib.hid (HBU3.out.into hi hg); clear hd hg hi; simp only at d2)
            go_meet
            exact ⟨S', false, rfl, ⟨fun h => (by cases h), fun h => absurd h.2 HI.out⟩, HD4, HBU4⟩
        · have HE0 := Lib.hid hE0
          have hE1 : (wrE ls 3 I bs == 0) = false := by simpa using hE0
          clear hE0
          go_wp2_with (go_at_call 13; refine cP.out.mono ?_; rintro e w4 ⟨S', rfl, hd, hg, hi⟩; have HD4 := Lib.hid hd; have HBU4 := Lib.hid (HBU3.out.into hi hg); clear hd hg hi)
          go_meet
          exact ⟨S', false, rfl, ⟨fun h => (by cases h), fun h => absurd h.1 HE0.out⟩, HD4, HBU4⟩
      case rest =>
      obtain ⟨S', up, rfl, HUP, HD4, HBU4⟩ := hcut
      clear cP HBU3 HD3 HB3 HBL1 d1
      go_upto_if 59 with fail
      go_cut [7] (fun v wx => ∃ wl' : List UInt8, v = .string (strOf wl') ∧ Hid (Want (wrT ls 3 I bs) ask wl') ∧ wx = wc)
      case first =>
        cases up with
        | true =>
          have HUA := Lib.hid (HUP.out.1 rfl)
          have hxc := HX.out.kept HD4.out.bel
          obtain ⟨B', c2', hc2, hbl2, _⟩ := hxc.bs
          simp only at hc2 hbl2
          have hcv := run_text (P := Try.prog) Try.underlying34 Try.underlying5 Try.underlying9 hbl2 c2'
          clear hxc hbl2
          go_wp2_with fail
          go_meet
          exact ⟨bs, rfl, HWl.out.new HUA.out.1 HUA.out.2, rfl⟩
        | false =>
          have HUA : Hid (¬ (wrE ls 3 I bs = 0 ∧ I = ask)) := fun h => by
            have := HUP.out.2 h
            cases this
          go_wp2_with fail
          go_meet
          exact ⟨wl, rfl, HWl.out.same HUA.out, rfl⟩
      case rest =>
      obtain ⟨wl', rfl, HWl', rfl⟩ := hcut
      have hs' : wrS ls 3 I bs s ≤ k + 1 := by have := wrS_le ls 3 I bs s; omega
      clear HWl HUP
      generalize wrT ls 3 I bs = ls' at *
      generalize wrS ls 3 I bs s = s' at *
      obtain ⟨n, hn⟩ : ∃ n, n = bs.length := ⟨_, rfl⟩
      rw [← hn] at hsz HBU4 ⊢
      clear hn
      go_upto_block 2 with fail
      go_cut [10] (fun _ wx => Hid (Dw w wx S' g 3 ls' r s'))
      case first =>
        obtain ⟨wo, rfl⟩ : ∃ wo : World, wo = wc := ⟨_, rfl⟩
        go_wp2_with fail
        go_loopg [10] n (fun gk i wr => ∃ j : Nat, j ≤ n ∧ gk = n - j ∧ i = .int .i64 j ∧ Hid (Dw w wr S' g 3 ls' r s') ∧ Hid (Bu w wr S' A1 n))
        case atStart => exact ⟨0, Nat.zero_le _, rfl, rfl, HD4, HBU4⟩
        case round =>
          obtain ⟨j, hj, rfl, rfl, HDj, HBj⟩ := hrel
          clear HD4 HBU4
          by_cases hjn : j < n
          · obtain ⟨q, x, z, rfl, hx256, hcell, hfr, hz, hwz⟩ := HBj.out.cell hjn
            have hput := HBj.out.put HDj.out hjn hz
            go_upto_region 13 with fail
            generalize wr.setCell ⟨q, j, none⟩ (.int .u8 (z : Int)) = wn at *
            have HBn := Lib.hid hput.1
            have HDn := Lib.hid hput.2
            clear hput hcell hfr hwz hx256 hz
            go_wp2_with fail
            go_roundg (n - (j + 1))
            case measure => omega
            case rel => exact ⟨j + 1, by omega, rfl, by go_num, HDn, HBn⟩
          · obtain rfl : j = n := by omega
            go_wp2_with fail
            go_meet
            exact HDj
      case rest =>
      have HD5 : Hid (Dw w wc S' g 3 ls' r s') := hcut
      clear hcut HD4 HBU4
      by_cases h9 : 9 ≤ ask
      · have cR := Lib.hid (Read_out HD5.out.dv ask (by rw [HWl'.out.1]; exact h9))
        go_wp2_with (go_at_call 15; refine cR.out.mono ?_; rintro e w' ⟨rfl, rfl⟩)
        go_roundg (N - (k + 1))
        case measure => omega
        case rel => exact ⟨k + 1, S', ls', wl', r, s', k1, by omega, by omega, hs', rfl, by go_num, rfl, HWl', HD5⟩
      · have hat := HWl'.out.2 (by omega)
        have hlen : wl'.length = 3 := by
          obtain ⟨⟨b, c, bks, h1, _⟩, _⟩ := HD5.out.dv
          exact h1.ll _ (List.mem_of_getElem? hat)
        have HLEN := Lib.hid hlen
        have cR := Lib.hid (HD5.out.Read ask wl' hat (by omega))
        have HSL := Lib.hid HD5.out.dv.lt
        have HSZ := Lib.hid HD5.out.size
        have h9' : ask < 9 := by omega
        have hconv : ∀ w1 q k, Row 5 w1 q wl' → (convert 34 9 (.slice (some ⟨q, 0, none⟩) 3 k)).run Try.prog w1 = .ok (.string (strOf wl')) w1 := fun w1 q k h =>
          run_text_n Try.underlying34 Try.underlying5 Try.underlying9 h.bl HLEN.out k
        have HCV := Lib.hid hconv
        have hbyte : ∀ w1 q, Row 5 w1 q wl' → ∃ y z : Nat, w1.cell? ⟨q, 0, none⟩ = some (.int .u8 (y : Int)) ∧ y < 256 ∧ w1.frozen? ⟨q, 0, none⟩ = false ∧ IntKind.u8.wrap ((y : Int) + 1) = (z : Int) := fun w1 q h => by
          have h0 : 0 < wl'.length := by rw [HLEN.out]; omega
          refine ⟨wl'[0].toNat, (wl'[0].toNat + 1) % 256, h.cell h0, wl'[0].toNat_lt, h.free 0, ?_⟩
          rw [IntKind.wrap_u8]; omega
        have HBY := Lib.hid hbyte
        clear hat hlen h9 hconv hbyte
        go_upto_region 21 with (go_at_call 15; refine cR.out.mono ?_; rintro e w6 ⟨q2, k2', rfl, hrow, hqs, hd, -⟩; have hcv := HCV.out _ q2 k2' hrow; obtain ⟨y, z, hy1, hy2, hy3, hy4⟩ := HBY.out _ q2 hrow; have HR6 := Lib.hid hrow; have HQ6 := Lib.hid hqs; have HD6 := Lib.hid hd; clear hrow hqs hd)
        go_upto_region 7 with fail
        have hput := row_turn HD6.out HR6.out (fun h => by have := HSL.out _ h; have := HQ6.out; omega) (Nat.le_trans HSZ.out HQ6.out) (.int .u8 (z : Int))
        generalize w6.setCell ⟨q2, 0, none⟩ (.int .u8 (z : Int)) = w7 at *
        have HD7 := Lib.hid hput
        clear hput hcv hy1 hy2 hy3 hy4
        go_wp2_with fail
        go_roundg (N - (k + 1))
        case measure => omega
        case rel => exact ⟨k + 1, S', ls', wl', r + 1, s', k1, by omega, by omega, hs', rfl, by go_num, rfl, HWl', HD7⟩
    · by_cases h3 : k < N
      · have h4 : 60 ≤ k := by omega
        clear hlt
        go_wp2_with (go_at_call 9; refine (cA _).out.mono ?_; rintro e w' ⟨rfl, hb⟩; have HB := Lib.hid hb; clear hb)
        go_ret
        exact ⟨rfl, HD.out.bel.trans (HB.out.mono HD.out.bel.size)⟩
      · obtain rfl : k = N := by omega
        clear hlt h3
        go_wp2_with (go_at_call 9; refine (cA _).out.mono ?_; rintro e w' ⟨rfl, hb⟩; have HB := Lib.hid hb; clear hb)
        go_ret
        exact ⟨rfl, HD.out.bel.trans (HB.out.mono HD.out.bel.size)⟩
end Dv
end Go.Proofs.Ytlkakknelkeegaa
