/-
  buf's law BufPuts. Written by scripts/buflaw.py.
-/
import Derived.Test.YtmgmkfophdjidaaBufLaw
namespace Go.Proofs.Ytmgmkfophdjidaa
open Go.RowKit
namespace Bu
open Mem Lx
theorem great2 {A B : Option Addr} {c d : Nat} {L M : List Mg} (lA : L.length ≤ maxLen) (lB : M.length ≤ maxLen) (r : Bool) (hr : r = false ↔ Fit L ∧ Fit M) (g cx : Nat) (W : World) (U : TypeId) (fl : Nat × Nat) (h : W.heap[g]? = some (.cells #[.slice A L.length c, .slice B M.length d] U fl)) (h1 : ML W A L) (h2 : ML W B M) : Hid (Calls Try.prog 7 #[.slice (some ⟨g, 0, none⟩) 2 cx] W fun e w' => e = .returned (.bool r) ∧ w' = W) :=
  (great_any (cx := cx) (MM.two h h1 h2) (show 2 ≤ 1000 by decide) (fun K hK => by
    rcases List.mem_cons.1 hK with rfl | hK
    · exact lA
    · obtain rfl : K = M := by simpa using hK
      exact lB)).mono fun e w' ⟨⟨v, he, hv⟩, hw⟩ => ⟨by
    have hv2 : v = false ↔ Fit L ∧ Fit M := by
      rw [hv]
      simp
    have : v = r := by
      cases v <;> cases r <;> simp_all
    rw [he, this], hw⟩
set_option maxRecDepth 100000 in
set_option maxHeartbeats 4000000 in
theorem BufPuts_bad (A : Option Addr) (c : Nat) (L : List Mg) (B : Option Addr) (d : Nat) (M : List Mg) (k : ByteArray) (dl : Bool) (v : ByteArray) (w : World) (hA : ML w A L) (lA : L.length ≤ maxLen) (hB : ML w B M) (lB : M.length ≤ maxLen) (hbad : ¬ (Fit L ∧ Fit M ∧ k.size ≤ 300 ∧ Rise L ∧ Rise M)) :
    Calls Try.prog 4 #[.slice A L.length c, .slice B M.length d, .agg #[.string k, .bool dl, .string v]] w fun e w' => e = .returned (.bool true) ∧ Below w.heap.size w w' := by
  have cA := fun W => Lib.hid (awake_any W)
  have HA := Lib.hid hA
  have HB := Lib.hid hB
  by_cases hf : Fit L ∧ Fit M
  case neg =>
    have cG := great2 (A := A) (B := B) (c := c) (d := d) lA lB true ⟨(fun h => by cases h), fun h => absurd h hf⟩
    clear hA hB lA lB hf hbad
    generalize L.length = n at *
    generalize M.length = m at *
    go_enter Try.func4, Try.ntmps4
    go_upto_region 1 with fail
    have HX : Hid ((w.alloc (.cells #[.string k, .bool dl, .string v] 28)).heap[w.heap.size]? = some (.cells #[.string k, .bool dl, .string v] 28 (0, 0))) := heap_alloc_new w _
    have HW : Hid (Below w.heap.size w (w.alloc (.cells #[.string k, .bool dl, .string v] 28))) := (Below.refl _ _).alloc (Nat.le_refl _) _
    generalize w.alloc (.cells #[.string k, .bool dl, .string v] 28) = w1 at *
    obtain ⟨g, hg⟩ : ∃ g, g = w.heap.size := ⟨_, rfl⟩
    rw [← hg] at HX ⊢
    have HG := Lib.hid hg
    clear hg
    go_wp2_with (first
      | (go_at_call 7; refine (cG _ _ _ _ _ (heap_alloc_new _ _) (HA.out.kept (HW.out.alloc HW.out.size _)) (HB.out.kept (HW.out.alloc HW.out.size _))).out.mono ?_; rintro e w' ⟨rfl, rfl⟩; have hbx : Below w1.heap.size w1 (w1.alloc (.cells #[.slice A n c, .slice B m d] 22)) := (Below.refl _ _).alloc (Nat.le_refl _) _; replace HX := Lib.hid (kept3 HX.out hbx); replace HW := Lib.hid (HW.out.trans (hbx.mono HW.out.size)); clear hbx; obtain ⟨d0, d1, d2⟩ := box3 HX.out; generalize w1.alloc (.cells #[.slice A n c, .slice B m d] 22) = w2 at *)
      | (go_at_call 8; refine (cA _).out.mono ?_; rintro e w' ⟨rfl, hb⟩; replace HW := Lib.hid (HW.out.trans (hb.mono HW.out.size)); clear hb))
    go_ret
    exact ⟨rfl, HW.out⟩
  have cG := great2 (A := A) (B := B) (c := c) (d := d) lA lB false ⟨fun _ => hf, fun _ => rfl⟩
  obtain ⟨fA, fB⟩ := hf
  by_cases hk : k.size ≤ 300
  case neg =>
    have hk : (300 : Int) < (k.size : Int) := by omega
    clear hA hB lA lB fA fB hbad
    generalize L.length = n at *
    generalize M.length = m at *
    go_enter Try.func4, Try.ntmps4
    go_upto_region 1 with fail
    have HX : Hid ((w.alloc (.cells #[.string k, .bool dl, .string v] 28)).heap[w.heap.size]? = some (.cells #[.string k, .bool dl, .string v] 28 (0, 0))) := heap_alloc_new w _
    have HW : Hid (Below w.heap.size w (w.alloc (.cells #[.string k, .bool dl, .string v] 28))) := (Below.refl _ _).alloc (Nat.le_refl _) _
    generalize w.alloc (.cells #[.string k, .bool dl, .string v] 28) = w1 at *
    obtain ⟨g, hg⟩ : ∃ g, g = w.heap.size := ⟨_, rfl⟩
    rw [← hg] at HX ⊢
    have HG := Lib.hid hg
    clear hg
    go_wp2_with (first
      | (go_at_call 7; refine (cG _ _ _ _ _ (heap_alloc_new _ _) (HA.out.kept (HW.out.alloc HW.out.size _)) (HB.out.kept (HW.out.alloc HW.out.size _))).out.mono ?_; rintro e w' ⟨rfl, rfl⟩; have hbx : Below w1.heap.size w1 (w1.alloc (.cells #[.slice A n c, .slice B m d] 22)) := (Below.refl _ _).alloc (Nat.le_refl _) _; replace HX := Lib.hid (kept3 HX.out hbx); replace HW := Lib.hid (HW.out.trans (hbx.mono HW.out.size)); clear hbx; obtain ⟨d0, d1, d2⟩ := box3 HX.out; generalize w1.alloc (.cells #[.slice A n c, .slice B m d] 22) = w2 at *)
      | (go_at_call 8; refine (cA _).out.mono ?_; rintro e w' ⟨rfl, hb⟩; replace HW := Lib.hid (HW.out.trans (hb.mono HW.out.size)); clear hb))
    go_ret
    exact ⟨rfl, HW.out⟩
  have hk2 : decide ((300 : Int) < (k.size : Int)) = false := by simp; omega
  by_cases rA : Rise L
  case neg =>
    have cRA : ∀ W, Below w.heap.size w W → Hid (Calls Try.prog 10 #[.slice A L.length c] W fun e w' => e = .returned (.bool false) ∧ Below W.heap.size W w') := fun W h => (RRight_any (c := c) (hA.kept h) (fit_key fA) (Nat.le_trans fA.1 (by decide))).mono fun e w' ⟨⟨v, he, hv⟩, hb⟩ => ⟨by rw [he, bool_one (r := false) hv ⟨(fun h => by cases h), fun h => absurd h rA⟩], hb⟩
    clear hA hB lA lB fA fB hbad hk rA
    generalize L.length = n at *
    generalize M.length = m at *
    go_enter Try.func4, Try.ntmps4
    go_upto_region 1 with fail
    have HX : Hid ((w.alloc (.cells #[.string k, .bool dl, .string v] 28)).heap[w.heap.size]? = some (.cells #[.string k, .bool dl, .string v] 28 (0, 0))) := heap_alloc_new w _
    have HW : Hid (Below w.heap.size w (w.alloc (.cells #[.string k, .bool dl, .string v] 28))) := (Below.refl _ _).alloc (Nat.le_refl _) _
    generalize w.alloc (.cells #[.string k, .bool dl, .string v] 28) = w1 at *
    obtain ⟨g, hg⟩ : ∃ g, g = w.heap.size := ⟨_, rfl⟩
    rw [← hg] at HX ⊢
    have HG := Lib.hid hg
    clear hg
    go_wp2_with (first
      | (go_at_call 7; refine (cG _ _ _ _ _ (heap_alloc_new _ _) (HA.out.kept (HW.out.alloc HW.out.size _)) (HB.out.kept (HW.out.alloc HW.out.size _))).out.mono ?_; rintro e w' ⟨rfl, rfl⟩; have hbx : Below w1.heap.size w1 (w1.alloc (.cells #[.slice A n c, .slice B m d] 22)) := (Below.refl _ _).alloc (Nat.le_refl _) _; replace HX := Lib.hid (kept3 HX.out hbx); replace HW := Lib.hid (HW.out.trans (hbx.mono HW.out.size)); clear hbx; obtain ⟨d0, d1, d2⟩ := box3 HX.out; generalize w1.alloc (.cells #[.slice A n c, .slice B m d] 22) = w2 at *)
      | (go_at_call 10; refine (cRA _ HW.out).out.mono ?_; rintro e w' ⟨rfl, hb⟩; clear d0 d1 d2 cRA; replace HX := Lib.hid (kept3 HX.out hb); replace HW := Lib.hid (HW.out.trans (hb.mono HW.out.size)); clear hb)
      | (go_at_call 8; refine (cA _).out.mono ?_; rintro e w' ⟨rfl, hb⟩; replace HW := Lib.hid (HW.out.trans (hb.mono HW.out.size)); clear hb))
    go_ret
    exact ⟨rfl, HW.out⟩
  have cRA : ∀ W, Below w.heap.size w W → Hid (Calls Try.prog 10 #[.slice A L.length c] W fun e w' => e = .returned (.bool true) ∧ Below W.heap.size W w') := fun W h => (RRight_any (c := c) (hA.kept h) (fit_key fA) (Nat.le_trans fA.1 (by decide))).mono fun e w' ⟨⟨v, he, hv⟩, hb⟩ => ⟨by rw [he, bool_one (r := true) hv ⟨fun _ => rA, fun _ => rfl⟩], hb⟩
  by_cases rB : Rise M
  case neg =>
    have cRB : ∀ W, Below w.heap.size w W → Hid (Calls Try.prog 10 #[.slice B M.length d] W fun e w' => e = .returned (.bool false) ∧ Below W.heap.size W w') := fun W h => (RRight_any (c := d) (hB.kept h) (fit_key fB) (Nat.le_trans fB.1 (by decide))).mono fun e w' ⟨⟨v, he, hv⟩, hb⟩ => ⟨by rw [he, bool_one (r := false) hv ⟨(fun h => by cases h), fun h => absurd h rB⟩], hb⟩
    clear hA hB lA lB fA fB hbad hk rA rB
    generalize L.length = n at *
    generalize M.length = m at *
    go_enter Try.func4, Try.ntmps4
    go_upto_region 1 with fail
    have HX : Hid ((w.alloc (.cells #[.string k, .bool dl, .string v] 28)).heap[w.heap.size]? = some (.cells #[.string k, .bool dl, .string v] 28 (0, 0))) := heap_alloc_new w _
    have HW : Hid (Below w.heap.size w (w.alloc (.cells #[.string k, .bool dl, .string v] 28))) := (Below.refl _ _).alloc (Nat.le_refl _) _
    generalize w.alloc (.cells #[.string k, .bool dl, .string v] 28) = w1 at *
    obtain ⟨g, hg⟩ : ∃ g, g = w.heap.size := ⟨_, rfl⟩
    rw [← hg] at HX ⊢
    have HG := Lib.hid hg
    clear hg
    go_wp2_with (first
      | (go_at_call 7; refine (cG _ _ _ _ _ (heap_alloc_new _ _) (HA.out.kept (HW.out.alloc HW.out.size _)) (HB.out.kept (HW.out.alloc HW.out.size _))).out.mono ?_; rintro e w' ⟨rfl, rfl⟩; have hbx : Below w1.heap.size w1 (w1.alloc (.cells #[.slice A n c, .slice B m d] 22)) := (Below.refl _ _).alloc (Nat.le_refl _) _; replace HX := Lib.hid (kept3 HX.out hbx); replace HW := Lib.hid (HW.out.trans (hbx.mono HW.out.size)); clear hbx; obtain ⟨d0, d1, d2⟩ := box3 HX.out; generalize w1.alloc (.cells #[.slice A n c, .slice B m d] 22) = w2 at *)
      | (go_at_call 10; refine (cRA _ HW.out).out.mono ?_; rintro e w' ⟨rfl, hb⟩; clear d0 d1 d2 cRA; replace HX := Lib.hid (kept3 HX.out hb); replace HW := Lib.hid (HW.out.trans (hb.mono HW.out.size)); clear hb)
      | (go_at_call 10; refine (cRB _ HW.out).out.mono ?_; rintro e w' ⟨rfl, hb⟩; replace HX := Lib.hid (kept3 HX.out hb); replace HW := Lib.hid (HW.out.trans (hb.mono HW.out.size)); clear hb)
      | (go_at_call 8; refine (cA _).out.mono ?_; rintro e w' ⟨rfl, hb⟩; replace HW := Lib.hid (HW.out.trans (hb.mono HW.out.size)); clear hb))
    go_ret
    exact ⟨rfl, HW.out⟩
  exact absurd ⟨fA, fB, hk, rA, rB⟩ hbad
theorem put_key {L : List Mg} {m : Mg} {n : Nat} (h : ∀ x, x ∈ L → x.1.size ≤ n) (hm : m.1.size ≤ n) : ∀ x, x ∈ putD L m → x.1.size ≤ n := fun x hx => by
  rcases mem_putD.1 hx with rfl | hx
  · exact hm
  · exact h x hx.1
theorem merge_key {L M : List Mg} {n : Nat} (hr : Ri L) (h : ∀ x, x ∈ L → x.1.size ≤ n) (h' : ∀ x, x ∈ M → x.1.size ≤ n) : ∀ x, x ∈ mergeD L M → x.1.size ≤ n := fun x hx => by
  rcases (mem_mergeD hr).1 hx with hx | hx
  · exact h x hx
  · exact h' x hx.1
set_option maxRecDepth 100000 in
set_option maxHeartbeats 4000000 in
theorem BufPuts_good (A : Option Addr) (c : Nat) (L : List Mg) (B : Option Addr) (d : Nat) (M : List Mg) (k : ByteArray) (dl : Bool) (v : ByteArray) (w : World) (hA : ML w A L) (lA : L.length ≤ maxLen) (hB : ML w B M) (lB : M.length ≤ maxLen) (gA : L.length ≤ c) (gB : M.length ≤ d) (fA : Fit L) (fB : Fit M) (hk : k.size ≤ 300) (rA : Rise L) (rB : Rise M) :
    Calls Try.prog 4 #[.slice A L.length c, .slice B M.length d, .agg #[.string k, .bool dl, .string v]] w fun e w' => e = .returned (.bool true) ∧ Below w.heap.size w w' := by
  have cA := fun W => Lib.hid (awake_any W)
  have cG := great2 (A := A) (B := B) (c := c) (d := d) lA lB false ⟨fun _ => ⟨fA, fB⟩, fun _ => rfl⟩
  have cRA : ∀ W, Below w.heap.size w W → Hid (Calls Try.prog 10 #[.slice A L.length c] W fun e w' => e = .returned (.bool true) ∧ Below W.heap.size W w') := fun W h => (RRight_any (c := c) (hA.kept h) (fit_key fA) (Nat.le_trans fA.1 (by decide))).mono fun e w' ⟨⟨v, he, hv⟩, hb⟩ => ⟨by rw [he, bool_one (r := true) hv ⟨fun _ => rA, fun _ => rfl⟩], hb⟩
  have cRB : ∀ W, Below w.heap.size w W → Hid (Calls Try.prog 10 #[.slice B M.length d] W fun e w' => e = .returned (.bool true) ∧ Below W.heap.size W w') := fun W h => (RRight_any (c := d) (hB.kept h) (fit_key fB) (Nat.le_trans fB.1 (by decide))).mono fun e w' ⟨⟨v, he, hv⟩, hb⟩ => ⟨by rw [he, bool_one (r := true) hv ⟨fun _ => rB, fun _ => rfl⟩], hb⟩
  have hk2 : decide ((300 : Int) < (k.size : Int)) = false := by simp; omega
  have iA := rise_iff.1 rA
  have iB := rise_iff.1 rB
  have nA : L.length ≤ 1000 := Nat.le_trans fA.1 (by decide)
  have nB : M.length ≤ 1000 := Nat.le_trans fB.1 (by decide)
  have k3 : k.size ≤ 1000 := Nat.le_trans hk (by decide)
  have km : k.size ≤ maxLen := Nat.le_trans hk (by decide)
  obtain ⟨x, hx⟩ : ∃ x, x = (findD L k).getD zeroM := ⟨_, rfl⟩
  obtain ⟨ok, hok⟩ : ∃ ok, ok = (findD L k).isSome := ⟨_, rfl⟩
  obtain ⟨P, hP⟩ : ∃ P, P = putD L (k, dl, v) := ⟨_, rfl⟩
  obtain ⟨Q, hQ⟩ : ∃ Q, Q = mergeD L M := ⟨_, rfl⟩
  have cF : ∀ W, Below w.heap.size w W → Hid (Calls Try.prog 13 #[.slice A L.length c, .string k] W fun e w' => e = .returned (.tuple #[.agg #[.string x.1, .bool x.2.1, .string x.2.2], .bool ok]) ∧ Below W.heap.size W w') := fun W h => by
    have := Find_any (c := c) (hA.kept h) k k3 (fit_key3 fA) iA nA
    rw [← hx, ← hok] at this
    exact this
  have cRF : ∀ W, Below w.heap.size w W → Hid (Calls Try.prog 14 #[.slice A L.length c, .string k] W fun e w' => e = .returned (.tuple #[.agg #[.string x.1, .bool x.2.1, .string x.2.2], .bool ok]) ∧ Below W.heap.size W w') := fun W h => by
    have := RFind_any (c := c) (hA.kept h) k (by omega)
    rw [← hx, ← hok] at this
    exact this
  have cP : ∀ W, Below w.heap.size w W → Hid (Calls Try.prog 15 #[.slice A L.length c, .agg #[.string k, .bool dl, .string v]] W fun e w' => (∃ A' c', e = .returned (.slice A' P.length c') ∧ ML w' A' P) ∧ Below W.heap.size W w') := fun W h => by
    have := Put_any (c := c) ⟨hA.kept h, gA⟩ (k, dl, v) k3 (fit_key3 fA) iA nA
    rw [← hP] at this
    exact this
  have cRP : ∀ W, Below w.heap.size w W → Hid (Calls Try.prog 17 #[.slice A L.length c, .agg #[.string k, .bool dl, .string v]] W fun e w' => (∃ A' c', e = .returned (.slice A' P.length c') ∧ ML w' A' P) ∧ Below W.heap.size W w') := fun W h => by
    have := RPut_any (c := c) (hA.kept h) (k, dl, v) km (by omega)
    rw [← hP] at this
    exact this.mono fun e w' ⟨⟨A', c', he, h1⟩, hb⟩ => ⟨⟨A', c', he, h1.rd⟩, hb⟩
  have cM : ∀ W, Below w.heap.size w W → Hid (Calls Try.prog 16 #[.slice A L.length c, .slice B M.length d] W fun e w' => (∃ A' c', e = .returned (.slice A' Q.length c') ∧ ML w' A' Q) ∧ Below W.heap.size W w') := fun W h => by
    have := Merge_any (c := c) (c' := d) ⟨hA.kept h, gA⟩ ⟨hB.kept h, gB⟩ (fit_key3 fA) (fit_key3 fB) iA iB nA nB
    rw [← hQ] at this
    exact this.mono fun e w' ⟨⟨A', c', he, h1, _⟩, hb⟩ => ⟨⟨A', c', he, h1⟩, hb⟩
  have cRM : ∀ W, Below w.heap.size w W → Hid (Calls Try.prog 18 #[.slice A L.length c, .slice B M.length d] W fun e w' => (∃ A' c', e = .returned (.slice A' Q.length c') ∧ ML w' A' Q) ∧ Below W.heap.size W w') := fun W h => by
    have := RMerge_any (c := c) (c' := d) (hA.kept h) (hB.kept h) (fit_key fA) iB (by omega)
    rw [← hQ] at this
    exact this.mono fun e w' ⟨⟨A', c', he, h1, _⟩, hb⟩ => ⟨⟨A', c', he, h1⟩, hb⟩
  have riP : Ri P := by rw [hP]; exact iA.put _
  have riQ : Ri Q := by rw [hQ]; exact (Ri.merge iB).1
  have nP : P.length ≤ 2000 := by rw [hP]; have := iA.put_len (k, dl, v); omega
  have nQ : Q.length ≤ 2000 := by rw [hQ]; have := (Ri.merge (a := L) iB).2; omega
  have kP : ∀ m, m ∈ P → m.1.size ≤ maxLen := by rw [hP]; exact put_key (fit_key fA) km
  have kQ : ∀ m, m ∈ Q → m.1.size ≤ maxLen := by rw [hQ]; exact merge_key iA (fit_key fA) (fit_key fB)
  have cSP : ∀ (W : World) (A1 A2 : Option Addr) (c1 c2 : Nat), ML W A1 P → ML W A2 P → Hid (Calls Try.prog 12 #[.slice A1 P.length c1, .slice A2 P.length c2] W fun e w' => e = .returned (.bool true) ∧ Below W.heap.size W w') := fun W A1 A2 c1 c2 h1 h2 => (RSame_any (c := c1) (c' := c2) h1 h2 (by omega) (by omega)).mono fun e w' ⟨⟨v, he, hv⟩, hb⟩ => ⟨by rw [he, hv.2 rfl], hb⟩
  have cSQ : ∀ (W : World) (A1 A2 : Option Addr) (c1 c2 : Nat), ML W A1 Q → ML W A2 Q → Hid (Calls Try.prog 12 #[.slice A1 Q.length c1, .slice A2 Q.length c2] W fun e w' => e = .returned (.bool true) ∧ Below W.heap.size W w') := fun W A1 A2 c1 c2 h1 h2 => (RSame_any (c := c1) (c' := c2) h1 h2 (by omega) (by omega)).mono fun e w' ⟨⟨v, he, hv⟩, hb⟩ => ⟨by rw [he, hv.2 rfl], hb⟩
  have cRiP : ∀ (W : World) (A1 : Option Addr) (c1 : Nat), ML W A1 P → Hid (Calls Try.prog 10 #[.slice A1 P.length c1] W fun e w' => e = .returned (.bool true) ∧ Below W.heap.size W w') := fun W A1 c1 h1 => (RRight_any (c := c1) h1 kP (by omega)).mono fun e w' ⟨⟨v, he, hv⟩, hb⟩ => ⟨by rw [he, hv.2 (rise_iff.2 riP)], hb⟩
  have cRiQ : ∀ (W : World) (A1 : Option Addr) (c1 : Nat), ML W A1 Q → Hid (Calls Try.prog 10 #[.slice A1 Q.length c1] W fun e w' => e = .returned (.bool true) ∧ Below W.heap.size W w') := fun W A1 c1 h1 => (RRight_any (c := c1) h1 kQ (by omega)).mono fun e w' ⟨⟨v, he, hv⟩, hb⟩ => ⟨by rw [he, hv.2 (rise_iff.2 riQ)], hb⟩
  have hE : ∀ w, (binOp .eql 28 (.agg #[.string x.1, .bool x.2.1, .string x.2.2]) (.agg #[.string x.1, .bool x.2.1, .string x.2.2])).run Try.prog w = .ok (.bool true) w := fun w => (mg_eq x x w).trans (by simp)
  have HA := Lib.hid hA
  have HB := Lib.hid hB
  clear hA hB gA gB lA lB fA fB rA rB iA iB nA nB k3 km hx hok hP hQ riP riQ nP nQ kP kQ hk
  generalize P.length = np at *
  generalize Q.length = nq at *
  generalize L.length = n at *
  generalize M.length = m at *
  go_enter Try.func4, Try.ntmps4
  go_upto_region 1 with fail
  have HX : Hid ((w.alloc (.cells #[.string k, .bool dl, .string v] 28)).heap[w.heap.size]? = some (.cells #[.string k, .bool dl, .string v] 28 (0, 0))) := heap_alloc_new w _
  have HW : Hid (Below w.heap.size w (w.alloc (.cells #[.string k, .bool dl, .string v] 28))) := (Below.refl _ _).alloc (Nat.le_refl _) _
  generalize w.alloc (.cells #[.string k, .bool dl, .string v] 28) = w1 at *
  obtain ⟨g, hg⟩ : ∃ g, g = w.heap.size := ⟨_, rfl⟩
  rw [← hg] at HX ⊢
  have HG := Lib.hid hg
  clear hg
  go_upto_region 3 with (first
    | (go_at_call 7; refine (cG _ _ _ _ _ (heap_alloc_new _ _) (HA.out.kept (HW.out.alloc HW.out.size _)) (HB.out.kept (HW.out.alloc HW.out.size _))).out.mono ?_; rintro e w' ⟨rfl, rfl⟩; have hbx : Below w1.heap.size w1 (w1.alloc (.cells #[.slice A n c, .slice B m d] 22)) := (Below.refl _ _).alloc (Nat.le_refl _) _; replace HX := Lib.hid (kept3 HX.out hbx); replace HW := Lib.hid (HW.out.trans (hbx.mono HW.out.size)); clear hbx; obtain ⟨d0, d1, d2⟩ := box3 HX.out; generalize w1.alloc (.cells #[.slice A n c, .slice B m d] 22) = w2 at *)
    | (go_at_call 10; refine (cRA _ HW.out).out.mono ?_; rintro e w' ⟨rfl, hb⟩; clear d0 d1 d2 cRA; replace HX := Lib.hid (kept3 HX.out hb); replace HW := Lib.hid (HW.out.trans (hb.mono HW.out.size)); clear hb)
    | (go_at_call 10; refine (cRB _ HW.out).out.mono ?_; rintro e w' ⟨rfl, hb⟩; replace HX := Lib.hid (kept3 HX.out hb); replace HW := Lib.hid (HW.out.trans (hb.mono HW.out.size)); clear hb))
  clear cG cRB HA HB
  obtain ⟨d0, d1, d2⟩ := box3 HX.out
  go_upto_region 4 with (go_at_call 13; refine (cF _ HW.out).out.mono ?_; rintro e w3 ⟨rfl, hb⟩; replace HX := Lib.hid (kept3 HX.out hb); replace HW := Lib.hid (HW.out.trans (hb.mono HW.out.size)); clear hb cF)
  have h7 := heap_alloc_new w3 (.cells #[.string x.1, .bool x.2.1, .string x.2.2] 28)
  have hb : Below w3.heap.size w3 (w3.alloc (.cells #[.string x.1, .bool x.2.1, .string x.2.2] 28)) := (Below.refl _ _).alloc (Nat.le_refl _) _
  generalize w3.alloc (.cells #[.string x.1, .bool x.2.1, .string x.2.2] 28) = w4 at *
  obtain ⟨g7, hg⟩ : ∃ g7, g7 = w3.heap.size := ⟨_, rfl⟩
  rw [← hg] at h7 ⊢
  have HY := Lib.hid h7
  replace HX := Lib.hid (kept3 HX.out hb)
  replace HW := Lib.hid (HW.out.trans (hb.mono HW.out.size))
  clear h7 hb hg
  clear d0 d1 d2
  obtain ⟨d0, d1, d2⟩ := box3 HX.out
  go_upto_region 5 with (go_at_call 14; refine (cRF _ HW.out).out.mono ?_; rintro e w5 ⟨rfl, hb⟩; replace HX := Lib.hid (kept3 HX.out hb); replace HY := Lib.hid (kept3 HY.out hb); replace HW := Lib.hid (HW.out.trans (hb.mono HW.out.size)); clear hb cRF)
  have h7 := heap_alloc_new w5 (.cells #[.string x.1, .bool x.2.1, .string x.2.2] 28)
  have hb : Below w5.heap.size w5 (w5.alloc (.cells #[.string x.1, .bool x.2.1, .string x.2.2] 28)) := (Below.refl _ _).alloc (Nat.le_refl _) _
  generalize w5.alloc (.cells #[.string x.1, .bool x.2.1, .string x.2.2] 28) = w6 at *
  obtain ⟨g9, hg⟩ : ∃ g9, g9 = w5.heap.size := ⟨_, rfl⟩
  rw [← hg] at h7 ⊢
  have HZ := Lib.hid h7
  replace HX := Lib.hid (kept3 HX.out hb); replace HY := Lib.hid (kept3 HY.out hb)
  replace HW := Lib.hid (HW.out.trans (hb.mono HW.out.size))
  clear h7 hb hg
  clear d0 d1 d2
  obtain ⟨d0, d1, d2⟩ := box3 HX.out
  go_upto_region 6 with (first
    | (go_at_call 15; refine (cP _ HW.out).out.mono ?_; rintro e w7 ⟨⟨Ap, cp, rfl, h5⟩, hb⟩; have HP := Lib.hid h5; replace HX := Lib.hid (kept3 HX.out hb); replace HY := Lib.hid (kept3 HY.out hb); replace HZ := Lib.hid (kept3 HZ.out hb); replace HW := Lib.hid (HW.out.trans (hb.mono HW.out.size)); clear hb h5 cP)
    | (go_at_call 16; refine (cM _ HW.out).out.mono ?_; rintro e w8 ⟨⟨Aq, cq, rfl, h5⟩, hb⟩; have HQ := Lib.hid h5; replace HP := Lib.hid (HP.out.kept hb); replace HX := Lib.hid (kept3 HX.out hb); replace HY := Lib.hid (kept3 HY.out hb); replace HZ := Lib.hid (kept3 HZ.out hb); replace HW := Lib.hid (HW.out.trans (hb.mono HW.out.size)); clear hb h5 cM))
  clear d0 d1 d2
  obtain ⟨d0, d1, d2⟩ := box3 HX.out
  obtain ⟨e0, e1, e2⟩ := box3 HY.out
  obtain ⟨z0, z1, z2⟩ := box3 HZ.out
  clear HX HY HZ
  cases ok
  all_goals
    go_wp2_with (first
      | (go_at_call 17; refine (cRP _ HW.out).out.mono ?_; rintro e w9 ⟨⟨A5, c5, rfl, h5⟩, hb⟩; have H5 := Lib.hid h5; replace HP := Lib.hid (HP.out.kept hb); replace HQ := Lib.hid (HQ.out.kept hb); replace HW := Lib.hid (HW.out.trans (hb.mono HW.out.size)); clear hb h5 cRP)
      | (go_at_call 12; refine (cSP _ _ _ _ _ HP.out H5.out).out.mono ?_; rintro e w9 ⟨rfl, hb⟩; replace HP := Lib.hid (HP.out.kept hb); replace HQ := Lib.hid (HQ.out.kept hb); replace HW := Lib.hid (HW.out.trans (hb.mono HW.out.size)); clear hb H5 cSP)
      | (go_at_call 10; refine (cRiP _ _ _ HP.out).out.mono ?_; rintro e w9 ⟨rfl, hb⟩; replace HQ := Lib.hid (HQ.out.kept hb); replace HW := Lib.hid (HW.out.trans (hb.mono HW.out.size)); clear hb HP cRiP)
      | (go_at_call 18; refine (cRM _ HW.out).out.mono ?_; rintro e w9 ⟨⟨A5, c5, rfl, h5⟩, hb⟩; have H5 := Lib.hid h5; replace HQ := Lib.hid (HQ.out.kept hb); replace HW := Lib.hid (HW.out.trans (hb.mono HW.out.size)); clear hb h5 cRM)
      | (go_at_call 12; refine (cSQ _ _ _ _ _ HQ.out H5.out).out.mono ?_; rintro e w9 ⟨rfl, hb⟩; replace HQ := Lib.hid (HQ.out.kept hb); replace HW := Lib.hid (HW.out.trans (hb.mono HW.out.size)); clear hb H5 cSQ)
      | (go_at_call 10; refine (cRiQ _ _ _ HQ.out).out.mono ?_; rintro e w9 ⟨rfl, hb⟩; replace HW := Lib.hid (HW.out.trans (hb.mono HW.out.size)); clear hb cRiQ)
      | (go_at_call 8; refine (cA _).out.mono ?_; rintro e w' ⟨rfl, hb⟩; replace HW := Lib.hid (HW.out.trans (hb.mono HW.out.size)); clear hb))
    go_ret
    exact ⟨rfl, HW.out⟩
theorem BufPuts_walk (A : Option Addr) (c : Nat) (L : List Mg) (B : Option Addr) (d : Nat) (M : List Mg) (k : ByteArray) (dl : Bool) (v : ByteArray) (w : World) (hA : MC w A c L) (lA : L.length ≤ maxLen) (hB : MC w B d M) (lB : M.length ≤ maxLen) :
    Calls Try.prog 4 #[.slice A L.length c, .slice B M.length d, .agg #[.string k, .bool dl, .string v]] w fun e w' => e = .returned (.bool true) ∧ Below w.heap.size w w' := by
  by_cases h : Fit L ∧ Fit M ∧ k.size ≤ 300 ∧ Rise L ∧ Rise M
  · exact BufPuts_good A c L B d M k dl v w hA.1 lA hB.1 lB hA.2 hB.2 h.1 h.2.1 h.2.2.1 h.2.2.2.1 h.2.2.2.2
  · exact BufPuts_bad A c L B d M k dl v w hA.1 lA hB.1 lB h
end Bu
end Go.Proofs.Ytmgmkfophdjidaa
