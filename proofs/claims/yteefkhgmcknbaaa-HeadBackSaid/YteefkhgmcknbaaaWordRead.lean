/-
  Contracts of layer word: the reader's methods.
-/
import Derived.Test.YteefkhgmcknbaaaWordPut
import Derived.Test.YteefkhgmcknbaaaReadPlain
import Derived.Test.YteefkhgmcknbaaaFlow
namespace Go.Proofs.Yteefkhgmcknbaaa
open Go.RowKit
namespace Wd
open Mem

/-- only block g has turned, of what was there -/
abbrev Only (g : Nat) (w w' : World) : Prop := Flow.Into [g] w w'
theorem Only.of_below {g : Nat} {w w' : World} (h : Below w.heap.size w w') : Only g w w' := Flow.Into.of_below h

/-- bytes that lie elsewhere than in block g -/
def Off (w : World) (g : Nat) (p : Option Addr) (l : List UInt8) : Prop := BL w p l ∧ (0 < l.length → ∀ a, p = some a → a.block ≠ g)
theorem Off.only {w w' : World} {g : Nat} {p : Option Addr} {l : List UInt8} (h : Off w g p l) (ho : Only g w w') : Off w' g p l :=
  ⟨h.1.keep fun hl a ha => ho.block _ (h.1.lt hl a ha) (by have := h.2 hl a ha; simpa using this), h.2⟩
theorem Off.nil (w : World) (g : Nat) (p : Option Addr) : Off w g p [] := ⟨BL.nil _ _, fun h => absurd h (by simp)⟩
theorem Off.take {w : World} {g : Nat} {p : Option Addr} {l : List UInt8} (h : Off w g p l) (k : Nat) : Off w g p (l.take k) := ⟨h.1.take k, fun hl => h.2 (by simp at hl; omega)⟩
theorem Off.cut {w : World} {g : Nat} {p : Option Addr} {l : List UInt8} (h : Off w g p l) {k c : Nat} (hc : l.length ≤ c) : Off w g (cutA p c k) (l.drop k) := by
  refine ⟨h.1.cut hc, fun hl a ha => ?_⟩
  simp only [List.length_drop] at hl
  unfold cutA at ha
  rw [if_neg (by omega)] at ha
  cases p with
  | none => cases ha
  | some p =>
    obtain rfl : p.add k = a := by simpa using ha
    rw [show (p.add k).block = p.block by unfold Addr.add; split <;> rfl]
    exact h.2 (by omega) p rfl

/-- the same, in a block of bytes -/
def Offr (w : World) (g : Nat) (p : Option Addr) (l : List UInt8) : Prop := Off w g p l ∧ (0 < l.length → ∀ a, p = some a → ∃ C : Array Value, w.heap[a.block]? = some (.cells C 5 (0, 0)))
theorem Offr.only {w w' : World} {g : Nat} {p : Option Addr} {l : List UInt8} (h : Offr w g p l) (ho : Only g w w') : Offr w' g p l :=
  ⟨h.1.only ho, fun hl a ha => by
    obtain ⟨C, hC⟩ := h.2 hl a ha
    exact ⟨C, (ho.block _ (h.1.1.lt hl a ha) (by have := h.1.2 hl a ha; simpa using this)).trans hC⟩⟩
theorem Offr.nil (w : World) (g : Nat) (p : Option Addr) : Offr w g p [] := ⟨Off.nil _ _ _, fun h => absurd h (by simp)⟩
theorem Offr.cut {w : World} {g : Nat} {p : Option Addr} {l : List UInt8} (h : Offr w g p l) {k c : Nat} (hc : l.length ≤ c) : Offr w g (cutA p c k) (l.drop k) := by
  refine ⟨h.1.cut hc, fun hl a ha => ?_⟩
  simp only [List.length_drop] at hl
  unfold cutA at ha
  rw [if_neg (by omega)] at ha
  cases p with
  | none => cases ha
  | some p =>
    obtain rfl : p.add k = a := by simpa using ha
    rw [show (p.add k).block = p.block by unfold Addr.add; split <;> rfl]
    exact h.2 (by omega) p rfl

/-- a reader as block g (T: its type) -/
def Rd (T : TypeId) (w : World) (g : Nat) (s : St) : Prop :=
  ∃ (A : Option Addr) (c : Nat), w.heap[g]? = some (.cells #[.slice A s.b.length c, .int .i64 s.e] T (0, 0)) ∧ Offr w g A s.b ∧ s.b.length ≤ c ∧ s.b.length ≤ 140737488355000 ∧ s.ok
section
variable {T : TypeId} {w w' : World} {g : Nat} {s : St}
theorem Rd.lt (h : Rd T w g s) : g < w.heap.size := by obtain ⟨A, c, h, _⟩ := h; exact (Array.getElem?_eq_some_iff.1 h).1
theorem Rd.ok (h : Rd T w g s) : s.ok := by obtain ⟨A, c, _, _, _, _, h⟩ := h; exact h
theorem Rd.keep (h : Rd T w g s) (hb : Below w.heap.size w w') : Rd T w' g s := by
  have hlt := h.lt
  obtain ⟨A, c, h1, h2, h3, h4, h5⟩ := h
  exact ⟨A, c, (hb.block g hlt).trans h1, h2.only (Only.of_below hb), h3, h4, h5⟩
end
theorem cells2 {w : World} {g : Nat} {x y : Value} {T : TypeId} (h : w.heap[g]? = some (.cells #[x, y] T (0, 0))) :
    w.cell? ⟨g, 0, none⟩ = some x ∧ w.cell? ⟨g, 1, none⟩ = some y ∧ w.frozen? ⟨g, 0, none⟩ = false ∧ w.frozen? ⟨g, 1, none⟩ = false := by
  simp [World.cell?, World.frozen?, h]
/-- both fields written -/
theorem set2 {w : World} {g : Nat} {x y x' y' : Value} {T : TypeId} (h : w.heap[g]? = some (.cells #[x, y] T (0, 0))) :
    ((w.setCell ⟨g, 0, none⟩ x').setCell ⟨g, 1, none⟩ y').heap[g]? = some (.cells #[x', y'] T (0, 0)) := by
  simp [World.setCell, Array.getElem?_modify, h]
theorem set1 {w : World} {g : Nat} {x y x' : Value} {T : TypeId} (h : w.heap[g]? = some (.cells #[x, y] T (0, 0))) :
    (w.setCell ⟨g, 0, none⟩ x').heap[g]? = some (.cells #[x', y] T (0, 0)) := by
  simp [World.setCell, Array.getElem?_modify, h]
theorem only_set {g : Nat} {w w' : World} (h : Only g w w') (i : Nat) (x : Value) : Only g w (w'.setCell ⟨g, i, none⟩ x) :=
  h.trans ⟨rfl, rfl, rfl, by simp [World.setCell], fun k _ hn => Below.heap_setCell _ _ _ _ (by simpa using hn)⟩

set_option maxHeartbeats 400000 in
theorem spoil_any (g : Nat) (s : St) (x : Int) (w : World) (h : Rd 73 w g s) :
    Calls Try.prog 41 #[.pointer (some ⟨g, 0, none⟩), .int .i64 x] w fun e w' => e = .returned (.tuple #[]) ∧ Rd 73 w' g (spoilS s x) ∧ Only g w w' := by
  obtain ⟨b, er⟩ := s
  obtain ⟨A, c, hh, ho, hc, hl, hok⟩ := h
  obtain ⟨c0, c1, f0, f1⟩ := cells2 hh
  have HH := Lib.hid hh
  simp only at c0 c1
  by_cases he : er = 0
  · subst he
    have HS := Lib.hid (show spoilS ⟨b, 0⟩ x = ⟨[], x⟩ from rfl)
    clear hh
    go_enter Try.func41, Try.ntmps41
    go_wp2
    go_end0
    refine ⟨rfl, ?_, only_set (only_set (Flow.Into.refl _ _) _ _) _ _⟩
    rw [HS.out]
    exact ⟨none, 0, set2 HH.out, Offr.nil _ _ _, Nat.zero_le _, Nat.zero_le _, fun _ => rfl⟩
  · have HS := Lib.hid (show spoilS ⟨b, er⟩ x = ⟨b, er⟩ from if_neg he)
    have h1 : (er == 0) = false := by simpa using he
    have h2 : (er != 0) = true := by simpa using he
    clear hh he
    go_enter Try.func41, Try.ntmps41
    go_wp2
    refine bodyPost_ret (results_none rfl _ _ _) rfl ⟨rfl, ?_, Flow.Into.refl _ _⟩
    rw [HS.out]
    exact ⟨A, c, HH.out, ho, hc, hl, hok⟩

/-- what a reader's taking tells: where the bytes lie -/
def Told (w : World) (g : Nat) (l : List UInt8) (e : Ending) : Prop := ∃ (A : Option Addr) (c : Nat), e = .returned (.slice A l.length c) ∧ Off w g A l ∧ l.length ≤ c
theorem Told.nil (w : World) (g : Nat) : Told w g [] (.returned (.slice none 0 0)) := ⟨none, 0, rfl, Off.nil _ _ _, Nat.le_refl _⟩

theorem u8one : ∃ i, Try.prog.info? 5 = some i ∧ i.size = 1 := by
  obtain ⟨i, h1, _, h2, _⟩ := info_parts u8info
  exact ⟨i, h1, h2⟩
set_option maxHeartbeats 1000000 in
theorem take_any (g : Nat) (s : St) (n : Int) (w : World) (h : Rd 73 w g s) :
    Calls Try.prog 42 #[.pointer (some ⟨g, 0, none⟩), .int .i64 n] w fun e w' => Told w' g (takeS s n).2 e ∧ Rd 73 w' g (takeS s n).1 ∧ Only g w w' := by
  have HR := Lib.hid h
  by_cases h0 : n < 0
  · have HS := Lib.hid (take_neg s h0)
    have cS := fun w hw => Lib.hid (spoil_any g s 2 w hw)
    clear h
    go_enter Try.func42, Try.ntmps42
    go_wp2_with (go_at_call 41; refine (cS _ HR.out).out.mono ?_; rintro e w' ⟨rfl, hr, ho⟩; have HR' := Lib.hid hr; have HO' := Lib.hid ho; clear hr ho)
    go_ret
    rw [HS.out]
    exact ⟨Told.nil _ _, HR'.out, HO'.out⟩
  · obtain ⟨A, c, hh, ho, hc, hl, hok⟩ := h
    obtain ⟨c0, c1, f0, f1⟩ := cells2 hh
    have HH := Lib.hid hh
    by_cases h1 : (s.b.length : Int) < n
    · have HS := Lib.hid (take_short s h0 h1)
      have cS := fun w hw => Lib.hid (spoil_any g s 5 w hw)
      clear hh
      go_enter Try.func42, Try.ntmps42
      go_wp2_with (go_at_call 41; refine (cS _ HR.out).out.mono ?_; rintro e w' ⟨rfl, hr, ho⟩; have HR' := Lib.hid hr; have HO' := Lib.hid ho; clear hr ho)
      go_ret
      rw [HS.out]
      exact ⟨Told.nil _ _, HR'.out, HO'.out⟩
    · have HS := Lib.hid (take_some s h0 h1)
      obtain ⟨k, rfl⟩ : ∃ k : Nat, n = k := ⟨n.toNat, by omega⟩
      obtain ⟨m, hm⟩ : ∃ m, m = s.b.length := ⟨_, rfl⟩
      have hk : k ≤ m := by omega
      obtain ⟨i0, hi, hsz⟩ := u8one
      have r1 := fun w => run_upTo (P := Try.prog) Try.underlying27 hi A m c k (by omega) w
      have r2 := fun w => run_cut (P := Try.prog) Try.underlying27 hi hsz A m c k hk w
      rw [← hm] at c0
      have HM := Lib.hid hm
      obtain ⟨A', hA'⟩ : ∃ A', A' = cutA A c k := ⟨_, rfl⟩
      rw [← hA'] at r2
      have HA := Lib.hid hA'
      clear hh hm hA' hi hsz h0 h1 hl
      go_enter Try.func42, Try.ntmps42
      go_wp2
      go_ret
      have hs := HS.out
      have hm := HM.out
      rw [Int.toNat_natCast] at hs
      have hsz : (s.b.take k).length = k := by simp; omega
      have hO : Only g w (w.setCell ⟨g, 0, none⟩ (.slice A' (m - k) (c - k))) := only_set (Flow.Into.refl _ _) _ _
      rw [hs]
      refine ⟨⟨A, c, by rw [hsz]; rfl, (ho.1.take k).only hO, by rw [hsz]; omega⟩, ⟨A', c - k, ?_, ?_, by simp; omega, by simp; obtain ⟨_, _, _, _, _, hl, _⟩ := HR.out; omega, fun he => by simp [hok he]⟩, hO⟩
      · have := set1 (x' := .slice A' (m - k) (c - k)) HH.out
        rw [this]; simp [hm]
      · have h1 := (ho.cut (k := k) hc).only hO
        rw [← HA.out] at h1
        exact h1

theorem zero_snoc (l : List UInt8) (k : Nat) (h : k < l.length) : zeroB (l.take (k + 1)) = (zeroB (l.take k) && l[k] == 0) := by
  unfold zeroB
  rw [List.take_succ_eq_append_getElem h, List.all_append]
  simp
theorem zero_not {l : List UInt8} {k : Nat} (h : k < l.length) (hz : l[k] ≠ 0) : zeroB l = false := by
  unfold zeroB
  rw [List.all_eq_false]
  exact ⟨l[k], List.getElem_mem h, by simpa using hz⟩

set_option maxHeartbeats 400000 in
theorem allZero_any (p : Option Addr) (c : Nat) (l : List UInt8) (w : World) (h : BL w p l) (hl : l.length ≤ 140737488355328) :
    Calls Try.prog 43 #[.slice p l.length c] w fun e w' => e = .returned (.bool (zeroB l)) ∧ w = w' := by
  obtain ⟨n, hn⟩ : ∃ n, n = l.length := ⟨_, rfl⟩
  have hl' : n ≤ 140737488355328 := by omega
  have HN := Lib.hid hn
  rw [← hn]
  clear hn hl
  go_enter Try.func43, Try.ntmps43
  go_wp2
  go_loop [7] (fun i => ∃ k : Nat, k ≤ n ∧ i = .int .i64 k ∧ Hid (zeroB (l.take k) = true)) (fun i => n - (intOf i).toNat)
  case atStart => exact ⟨0, Nat.zero_le _, rfl, rfl⟩
  case round =>
    obtain ⟨k, hk, rfl, HZ⟩ := hrel
    by_cases hlt : k < n
    · have hkl : k < l.length := by rw [← HN.out]; exact hlt
      obtain ⟨b, o, rfl, hc⟩ := h.at_ hkl
      by_cases hz : l[k] = 0
      · have HZ' : Hid (zeroB (l.take (k + 1)) = true) := by unfold Hid; rw [zero_snoc l k hkl, HZ.out, hz]; rfl
        rw [hz] at hc
        have hc' : w.cell? ⟨b, o + k, none⟩ = some (.int .u8 0) := by rw [hc]; rfl
        clear hz hc hkl h
        go_wp2
        go_round
        case rel => exact ⟨k + 1, hlt, by go_num, HZ'⟩
        case measure => simp [intOf]; omega
      · have HR := Lib.hid (zero_not hkl hz)
        have hne : ((l[k].toNat : Int) != 0) = true := by
          simp only [bne_iff_ne, ne_eq]; intro e; exact hz (UInt8.toNat_inj.1 (by simpa using e))
        generalize (l[k].toNat : Int) = y at hc hne
        clear hz hkl h
        go_wp2
        go_ret
        exact ⟨by rw [HR.out]; rfl, rfl⟩
    · obtain rfl : k = n := by omega
      have HR : Hid (zeroB l = true) := by
        unfold Hid
        have := HZ.out
        rwa [List.take_of_length_le (by rw [HN.out]; exact Nat.le_refl _)] at this
      go_wp2
      go_ret
      exact ⟨by rw [HR.out]; rfl, rfl⟩


theorem take_bound {T : TypeId} {w : World} {g : Nat} {s : St} (h : Rd T w g s) (n : Int) : (takeS s n).2.length ≤ 140737488355000 := by
  obtain ⟨_, _, _, _, _, hl, _⟩ := h
  have := take_len_le s n
  omega

end Wd
end Go.Proofs.Yteefkhgmcknbaaa
