/-
  RowC, WordPlain, WordPut, Structs, Args, RowA, HeapP, PdqP, Calm, ReadPlain. Put together by pack.py.
-/
import Derived.Test.YtgpbioljldkmaaaPkAA
import Derived.Test.YtgpbioljldkmaaaProg
import Derived.WalkKit
import Derived.WalkLawsBesides
import Derived.KernelRfl
import Derived.Lib.Hide
import Derived.ProofKit
import Derived.Deep.Slices
import Derived.Deep.Fields
import Derived.ChangeSame
import Derived.Lib.SmallJoins
import Derived.SizedLaws
import Derived.Lib.QuietBelow
import Derived.StillTail

namespace Go.Proofs.Ytgpbioljldkmaaa
open Go.RowKit
namespace Mem
section
variable {α : Type} {K : Kind α} {w w' : World} {B c : Nat} {A : Option Addr} {L : List α}
/-- a slice that reads as L, and has room for it -/
def RC (K : Kind α) (w : World) (A : Option Addr) (c : Nat) (L : List α) : Prop := RdK K w A L ∧ L.length ≤ c
theorem RC.kept (h : RC K w A c L) (hb : Below w.heap.size w w') : RC K w' A c L := ⟨h.1.kept hb, h.2⟩
theorem RC.nil (w : World) (A : Option Addr) (c : Nat) : RC K w A c [] := ⟨RdK.nil w A, Nat.zero_le _⟩
theorem VK.rc (h : VK K w B A c L) : RC K w A c L := by
  refine ⟨h.rd, ?_⟩
  rcases h.2 with ⟨_, h1⟩ | ⟨g, cap, cur, h1, _, _, hn, _⟩
  · omega
  · obtain ⟨_, rfl⟩ : A = some ⟨g, 0, none⟩ ∧ c = cap := by simpa using h1
    exact hn
/-- where what is behind the first n lies -/
def cutK (k : Nat) (A : Option Addr) (c n : Nat) : Option Addr := if c = n then A else A.map (·.add (n * k))
theorem RC.cut (h : RC K w A c L) (n : Nat) : RC K w (cutK K.k A c n) (c - n) (L.drop n) := by
  refine ⟨?_, by rw [List.length_drop]; have := h.2; omega⟩
  rcases Nat.lt_or_ge n L.length with hk | hk
  · obtain ⟨b, o, e, hd⟩ := h.1.drop hk
    subst e
    have hc := h.2
    unfold cutK
    rw [if_neg (by omega)]
    have : (⟨b, o, none⟩ : Addr).add (n * K.k) = ⟨b, o + n * K.k, none⟩ := by by_cases h0 : n * K.k = 0 <;> simp [Addr.add, h0]
    rw [Option.map_some, this]
    exact hd
  · rw [List.drop_eq_nil_of_le hk]
    exact RdK.nil _ _
theorem RdK.none_ (h : RdK K w none L) : L = [] := by
  cases L with
  | nil => rfl
  | cons y l => obtain ⟨_, _, e, _⟩ := h (by simp); cases e
end
section
variable {P : Program} {t e : TypeId} {z : Value} {k by_ : Nat}
end
end Mem
end Go.Proofs.Ytgpbioljldkmaaa

namespace Go.Proofs.Ytgpbioljldkmaaa.Wd

def isW (n : Int) : Bool := n == 1 || n == 2 || n == 4 || n == 8
theorem isW_cases {n : Int} (h : isW n = true) : n = 1 ∨ n = 2 ∨ n = 4 ∨ n = 8 := by simpa [isW, or_assoc] using h

/-- a number's bytes, so many, the greatest first -/
def be : Nat → Nat → List UInt8
  | 0, _ => []
  | n + 1, v => be n (v / 256) ++ [UInt8.ofNat (v % 256)]
@[simp] theorem be_length (n v : Nat) : (be n v).length = n := by
  induction n generalizing v with
  | zero => rfl
  | succ n ih => simp [be, ih]
theorem be_cons (n v : Nat) : be (n + 1) v = UInt8.ofNat (v / 256 ^ n % 256) :: be n v := by
  induction n generalizing v with
  | zero => simp [be]
  | succ n ih =>
    rw [be, ih, List.cons_append]
    congr 2
    · rw [Nat.div_div_eq_div_mul, Nat.pow_succ, Nat.mul_comm]

/-- the number of bytes -/
def val (l : List UInt8) : Nat := l.foldl (fun v x => 256 * v + x.toNat) 0
theorem val_snoc (l : List UInt8) (x : UInt8) : val (l ++ [x]) = 256 * val l + x.toNat := by simp [val]
theorem val_lt (l : List UInt8) : val l < 256 ^ l.length := by
  suffices h : ∀ (n : Nat) (l : List UInt8), l.length = n → val l < 256 ^ n from h _ _ rfl
  intro n
  induction n with
  | zero => intro l hl; obtain rfl := List.eq_nil_of_length_eq_zero hl; simp [val]
  | succ n ih =>
    intro l hl
    have hne : l ≠ [] := by intro e; simp [e] at hl
    obtain ⟨r, x, rfl⟩ : ∃ r x, l = r ++ [x] := ⟨l.dropLast, l.getLast hne, (List.dropLast_concat_getLast hne).symm⟩
    rw [val_snoc, Nat.pow_succ]
    have h1 := ih r (by simpa using hl)
    have h2 : x.toNat < 256 := x.toNat_lt
    omega
theorem val_be (n v : Nat) : val (be n v) = v % 256 ^ n := by
  induction n generalizing v with
  | zero => simp [be, val, Nat.mod_one]
  | succ n ih =>
    have e : (UInt8.ofNat (v % 256)).toNat = v % 256 := by simp
    rw [be, val_snoc, ih, e, Nat.pow_succ, Nat.mul_comm (256 ^ n) 256, Nat.mod_mul]
    omega
theorem be_val (l : List UInt8) : be l.length (val l) = l := by
  suffices h : ∀ (n : Nat) (l : List UInt8), l.length = n → be n (val l) = l from h _ _ rfl
  intro n
  induction n with
  | zero => intro l hl; obtain rfl := List.eq_nil_of_length_eq_zero hl; rfl
  | succ n ih =>
    intro l hl
    have hne : l ≠ [] := by intro e; simp [e] at hl
    obtain ⟨r, x, rfl⟩ : ∃ r x, l = r ++ [x] := ⟨l.dropLast, l.getLast hne, (List.dropLast_concat_getLast hne).symm⟩
    have h2 : x.toNat < 256 := x.toNat_lt
    have h3 : (256 * val r + x.toNat) / 256 = val r := by omega
    have h4 : (256 * val r + x.toNat) % 256 = x.toNat := by omega
    rw [val_snoc, be, h3, h4, ih r (by simpa using hl)]
    simp

/-- what lies in the row behind j rounds: the lowest j bytes at its end -/
def rowAt (l : List UInt8) (wd v j : Nat) : List UInt8 := l ++ (List.replicate (wd - j) 0 ++ be j v)
theorem rowAt_length (l : List UInt8) {wd j : Nat} (v : Nat) (h : j ≤ wd) : (rowAt l wd v j).length = l.length + wd := by simp [rowAt]; omega
theorem rowAt_zero (l : List UInt8) (wd v : Nat) : rowAt l wd v 0 = l ++ List.replicate wd 0 := by simp [rowAt, be]
theorem rowAt_all (l : List UInt8) (wd v : Nat) : rowAt l wd v wd = l ++ be wd v := by simp [rowAt]
theorem rowAt_succ (l : List UInt8) {wd v j : Nat} (h : j < wd) : (rowAt l wd v j).set (l.length + (wd - j - 1)) (UInt8.ofNat (v / 256 ^ j % 256)) = rowAt l wd v (j + 1) := by
  unfold rowAt
  obtain ⟨r, hr⟩ : ∃ r, wd - j = r + 1 := ⟨wd - j - 1, by omega⟩
  have hr' : wd - (j + 1) = r := by omega
  rw [hr, hr', be_cons, List.replicate_succ', List.set_append_right _ _ (by omega)]
  congr 1
  rw [show l.length + (r + 1 - 1) - l.length = r by omega, List.append_assoc, List.set_append_right _ _ (by simp)]
  simp

end Go.Proofs.Ytgpbioljldkmaaa.Wd

namespace Go.Proofs.Ytgpbioljldkmaaa
open Go.RowKit
namespace Wd
open Mem

theorem isWidth_any (n : Int) (w : World) : Calls Try.prog 72 #[.int .i64 n] w fun e w' => e = .returned (.bool (isW n)) ∧ w = w' := by
  by_cases h1 : n = 1
  · subst h1; go_enter Try.func72, Try.ntmps72; go_wp2; go_ret; exact ⟨rfl, rfl⟩
  by_cases h2 : n = 2
  · subst h2; go_enter Try.func72, Try.ntmps72; go_wp2; go_ret; exact ⟨rfl, rfl⟩
  by_cases h4 : n = 4
  · subst h4; go_enter Try.func72, Try.ntmps72; go_wp2; go_ret; exact ⟨rfl, rfl⟩
  by_cases h8 : n = 8
  · subst h8; go_enter Try.func72, Try.ntmps72; go_wp2; go_ret; exact ⟨rfl, rfl⟩
  have HR := Lib.hid (show isW n = false by simp [isW, h1, h2, h4, h8])
  have g1 : (n == 1) = false := by simpa using h1
  have g2 : (n == 2) = false := by simpa using h2
  have g4 : (n == 4) = false := by simpa using h4
  have g8 : (n == 8) = false := by simpa using h8
  clear h1 h2 h4 h8
  go_enter Try.func72, Try.ntmps72
  go_wp2
  go_ret
  exact ⟨by rw [HR.out]; rfl, rfl⟩


theorem u8info : (Try.prog.info? 5).map (fun i => (i.zero, i.size, i.bytes)) = some (some (.int .u8 0), 1, 1) := by kernel_rfl
theorem u8size : (Try.prog.info? 5).map (·.size) = some 1 := by kernel_rfl

/-- a new block of noughts -/
theorem run_makeBytes (n : Nat) (hn : n ≤ 140737488355328) (w : World) :
    (Instr.makeSlice 33 (.int .i64 (n : Int)) (.int .i64 (n : Int))).run Try.prog w = .ok (.slice (some ⟨w.heap.size, 0, none⟩) n n) (w.alloc (.cells (bytesV (List.replicate n 0)).toArray 5)) := by
  obtain ⟨i0, hi, hz, hs, hb⟩ := info_parts u8info
  have hr := run_make (P := Try.prog) w 33 5 i0 (.int .u8 0) Try.underlying33 hi hz .i64 .i64 n n (by omega) (by omega) (by rw [hb]; omega) (by omega)
  rw [hr, hs]
  simp only [Int.toNat_natCast, Nat.mul_one]
  rw [← madeCells_bytes (z := (Value.int IntKind.u8 0).cells) rfl n]


set_option maxHeartbeats 400000 in
theorem clone_any (p : Option Addr) (c : Nat) (l : List UInt8) (w : World) (h : BL w p l) (hl : l.length ≤ 140737488355328) :
    Calls Try.prog 44 #[.slice p l.length c] w fun e w' => e = .returned (.slice (some ⟨w.heap.size, 0, none⟩) l.length l.length) ∧ Row 5 w' w.heap.size l ∧ Below w.heap.size w w' := by
  have hmk := fun w => run_makeBytes l.length hl w
  obtain ⟨n, hn⟩ : ∃ n, n = l.length := ⟨_, rfl⟩
  rw [← hn] at hmk
  have HN := Lib.hid hn
  rw [← hn]
  clear hn hl
  go_enter Try.func44, Try.ntmps44
  go_wp2_with (with_reducible refine wpList_copy_bytes rfl (.tmp 7) (.tmp 8) _ _ rfl 5 Try.underlying33 u8size w.heap.size n n n c p rfl rfl (List.replicate n 0) l (Row.new _ _ _) HN.out.symm (h.alloc _) (Nat.le_refl _) (by simp) w.heap.size w ((Below.refl _ _).alloc (Nat.le_refl _) _) (Nat.le_refl _) ?_; intro w1 HR1 hb1)
  go_ret
  refine ⟨rfl, ?_, hb1⟩
  have := HR1.out
  rw [← HN.out] at this
  simpa using this

/-- Put, where there is such a width -/
theorem pow_div (v j : Nat) : v / 256 ^ j / 256 = v / 256 ^ (j + 1) := by rw [Nat.div_div_eq_div_mul, Nat.pow_succ]

set_option maxHeartbeats 1000000 in
theorem Put_width (p : Option Addr) (c : Nat) (l : List UInt8) (wd v : Nat) (w : World) (h : BL w p l) (hl : l.length ≤ 140737488355000) (hw : isW (wd : Int) = true) (hv : v < 18446744073709551616) :
    Calls Try.prog 64 #[.slice p l.length c, .int .i64 (wd : Int), .int .u64 (v : Int)] w fun e w' => e = .returned (.slice (some ⟨w.heap.size, 0, none⟩) (l.length + wd) (l.length + wd)) ∧ Row 5 w' w.heap.size (l ++ be wd v) ∧ Below w.heap.size w w' := by
  have hwd : wd ≤ 8 := by have := isW_cases hw; omega
  have hmk := fun w => run_makeBytes (l.length + wd) (by omega) w
  obtain ⟨n, hn⟩ : ∃ n, n = l.length := ⟨_, rfl⟩
  rw [← hn] at hmk
  have hl' : n ≤ 140737488355000 := by omega
  have HN := Lib.hid hn
  have cW := fun w => Lib.hid (isWidth_any wd w)
  rw [hw] at cW
  rw [← hn]
  clear hn hl hw
  rw [show ((n + wd : Nat) : Int) = (n : Int) + (wd : Int) from by omega] at hmk
  have HV := Lib.hid hv
  clear hv
  go_enter Try.func64, Try.ntmps64
  go_wp2_with (first
    | (go_at_call 72; refine (cW _).out.mono ?_; rintro e w' ⟨rfl, rfl⟩)
    | (with_reducible refine wpList_copy_bytes rfl (.tmp 17) (.tmp 18) _ _ rfl 5 Try.underlying33 u8size w.heap.size (n + wd) (n + wd) n c p rfl rfl (List.replicate (n + wd) 0) l (Row.new _ _ _) HN.out.symm (h.alloc _) (by omega) (by simp) w.heap.size w ((Below.refl _ _).alloc (Nat.le_refl _) _) (Nat.le_refl _) ?_; intro w1 HR1 hb1))
  go_loopw [2, 8] (fun vv i wr => ∃ (j m : Nat) (z : Int), j ≤ wd ∧ i = .int .i64 z ∧ vv = .int .u64 (m : Int) ∧ Hid (z = n + wd - j - 1) ∧ Hid (m = v / 256 ^ j) ∧ Row 5 wr w.heap.size (rowAt l wd v j) ∧ Below w.heap.size w wr) (fun _ i _ => (intOf i - n + 1).toNat)
  case atStart => exact ⟨0, v, _, Nat.zero_le _, rfl, rfl, by unfold Hid; omega, by unfold Hid; simp, by
    have := HR1.out
    rw [rowAt_zero]
    rw [← HN.out] at this
    simpa [Nat.add_sub_cancel_left] using this, hb1⟩
  case round =>
    obtain ⟨j, m, z, hj, rfl, rfl, HZ, HM, hrow, hbw⟩ := hrel
    by_cases hlt : j < wd
    · obtain ⟨q, hq⟩ : ∃ q, q = n + (wd - j - 1) := ⟨_, rfl⟩
      obtain rfl : z = (q : Int) := by have := HZ.out; omega
      have hq1 : n ≤ q := by omega
      have hq2 : q < n + wd := by omega
      have hlen : q < (rowAt l wd v j).length := by rw [rowAt_length _ _ hj, ← HN.out]; exact hq2
      have hcell := hrow.cell hlen
      have hfree := hrow.free q
      generalize ((rowAt l wd v j)[q].toNat : Int) = y at hcell
      have hset := fun z hz => Lib.hid (hrow.set hlen (UInt8.ofNat (m % 256)) (z := z) hz)
      have HB := Lib.hid hbw
      have HQ := Lib.hid hq
      clear hrow hbw hq hlen
      go_wp2
      refine ⟨⟨j + 1, m / 256, _, hlt, rfl, by simp, by have := HZ.out; unfold Hid; omega, by have := HM.out; unfold Hid; rw [this, pow_div], ?_, HB.out.setCell (Nat.le_refl _) _⟩, by simp [intOf]; omega⟩
      have h1 := (hset (↑m % 256) (by simp)).out
      rw [HQ.out, HM.out, HN.out, rowAt_succ l hlt] at h1
      rw [HQ.out, HM.out, HN.out]
      exact h1
    · obtain rfl : j = wd := by omega
      obtain rfl : z = (n : Int) - 1 := by have := HZ.out; omega
      have HR := Lib.hid hrow
      have HB := Lib.hid hbw
      clear hrow hbw
      go_wp2
      go_ret
      have h1 := HR.out
      rw [rowAt_all] at h1
      exact ⟨rfl, h1, HB.out⟩



theorem ret_bool {a b : Bool} (h : a = b) : Ending.returned (.bool a) = .returned (.bool b) := by rw [h]

end Wd
end Go.Proofs.Ytgpbioljldkmaaa

namespace Go.Proofs.Ytgpbioljldkmaaa.Args
open Go.RowKit Go.WideShapes Go.ChangeShapes Go.Deep
section
variable {H : Type} {enc : TypeId × Value → H} {P : Program} {W : World}

theorem plain_of_cell {a : Addr} {i : Nat} {v : Value} (h : W.cell? (a.add i) = some v) (h0 : i = 0) : a.spot = none := by
  subst h0
  simpa [Addr.add] using World.cell?_spot h

theorem w_each {P : Program} : ∀ {ts : List TypeId} {ds : List (DataW H)} {j : Nat} {t : TypeId} {d : DataW H}, ts[j]? = some t → ds[j]? = some d → ∀ n ∈ d.weights P t, n ∈ DataW.weightsEach P ts ds
  | [], _, j, _, _, h, _, _, _ => by simp at h
  | _ :: _, [], j, _, _, _, h, _, _ => by simp at h
  | t0 :: ts, d0 :: ds, 0, t, d, h1, h2, n, hn => by
    obtain rfl : t0 = t := by simpa using h1
    obtain rfl : d0 = d := by simpa using h2
    simp only [DataW.weightsEach, List.mem_append]
    exact .inl hn
  | t0 :: ts, d0 :: ds, j + 1, t, d, h1, h2, n, hn => by
    simp only [DataW.weightsEach, List.mem_append]
    exact .inr (w_each (j := j) (by simpa using h1) (by simpa using h2) n hn)
theorem w_all {P : Program} {e : TypeId} : ∀ {ds : List (DataW H)} {d : DataW H}, d ∈ ds → ∀ n ∈ d.weights P e, n ∈ DataW.weightsAll P e ds
  | _ :: ds, d, hd, n, hn => by
    simp only [DataW.weightsAll, List.mem_append]
    rcases List.mem_cons.1 hd with rfl | hd
    · exact .inl hn
    · exact .inr (w_all hd n hn)
theorem open_structs_t {t e : TypeId} {fs : Array Field} (ht : P.underlying t = some (.slice e)) (he : P.underlying e = some (.struct fs)) (hone : oneCellFields P fs = true) (hC : P.cellsOf e = fs.size) (hpos : 0 < fs.size)
    {v : Value} {d : DataW H} {p : List MemPlace} {fuel : Nat} (hf : DataW.trod enc P W 0 (fun _ => true) true fuel t [v] = some (d, p)) :
    ∃ (A : Option Addr) (len c : Nat), v = .slice A len c ∧ len ≤ c ∧ c ≤ maxLen ∧
      (0 < len → ∃ b o, A = some ⟨b, o, none⟩ ∧ ∀ i, i < len → ∀ (j : Nat) (f : Field), fs[j]? = some f → ∃ (u : Value) (y : DataW H × List MemPlace) (n : Nat), W.cell? ⟨b, o + (i * fs.size + j), none⟩ = some u ∧ DataW.trod enc P W 0 (fun _ => true) true n f.type [u] = some y ∧ ∀ k ∈ y.1.weights P f.type, k ∈ d.weights P t) := by
  rcases open_slice ht hf with ⟨hcs, _⟩ | ⟨a, len, cap, m, n, D, Pl, hcs, _, hl, hm, hmm, hx, hi⟩
  · obtain rfl : v = _ := by simpa using hcs
    exact ⟨none, 0, 0, rfl, Nat.le_refl _, Nat.zero_le _, fun h => absurd h (Nat.lt_irrefl 0)⟩
  · obtain rfl : v = _ := by simpa using hcs
    simp only [if_true] at hmm
    simp only [Prod.mk.injEq] at hx
    have each : ∀ i, i < len → ∀ (j : Nat) (f : Field), fs[j]? = some f → ∃ (u : Value) (y : DataW H × List MemPlace) (n : Nat), W.cell? (a.add (i * fs.size + j)) = some u ∧ DataW.trod enc P W 0 (fun _ => true) true n f.type [u] = some y ∧ ∀ k ∈ y.1.weights P f.type, k ∈ d.weights P t := by
      intro i hil j f hj
      obtain ⟨cs', hc, ht'⟩ := hi i (by omega)
      rw [hC] at hc
      obtain ⟨ys, n', _, hD, hlen, hyl, hfl⟩ := DataW.trod_struct he ht'
      obtain ⟨_, hcl, hat⟩ := World.cells?_some hc
      obtain ⟨ho, hk⟩ := hone_of hone j f hj
      have hjl : j < fs.size := (Array.getElem?_eq_some_iff.1 hj).1
      have hcell := hat j hjl
      have h1 := hfl j f hj
      rw [ho, hk] at h1
      have hu : (cs'.drop j).take 1 = [cs'[j]'(by omega)] := by rw [List.drop_eq_getElem_cons (by omega)]; rfl
      rw [hu, List.getElem?_eq_getElem (show j < ys.length by omega)] at h1
      refine ⟨cs'[j]'(by omega), _, n', ?_, h1, fun k hk => ?_⟩
      · rw [← Go.Deep.add_add, hcell]
        exact List.getElem?_eq_getElem (by omega)
      · rw [hx.1]
        simp only [DataW.weights, ht, List.mem_cons, List.mem_append]
        refine .inr (.inl (w_all (d := D i) (List.mem_map.2 ⟨i, by simpa using hil, rfl⟩) k ?_))
        simp only [Prod.mk.injEq] at hD
        rw [hD.1]
        simp only [DataW.weights, he]
        refine w_each (j := j) (t := f.type) (d := (ys[j]'(by omega)).1) ?_ ?_ k hk
        · rw [List.getElem?_map, Array.getElem?_toList, hj]; rfl
        · rw [List.getElem?_map, List.getElem?_eq_getElem (show j < ys.length by omega)]; rfl
    refine ⟨some a, len, cap, rfl, hl, hm, fun hp => ?_⟩
    obtain ⟨b, o, sp⟩ := a
    have hsp : sp = none := by
      obtain ⟨u, _, _, hu, _, _⟩ := each 0 hp 0 (fs[0]'hpos) (Array.getElem?_eq_getElem hpos)
      exact plain_of_cell hu (by simp)
    subst hsp
    refine ⟨b, o, rfl, fun i hil j f hj => ?_⟩
    obtain ⟨u, y, n, h1, h2, h3⟩ := each i hil j f hj
    refine ⟨u, y, n, ?_, h2, h3⟩
    have e : (⟨b, o, none⟩ : Addr).add (i * fs.size + j) = ⟨b, o + (i * fs.size + j), none⟩ := by unfold Addr.add; split <;> simp_all
    rw [← e]; exact h1
end
end Go.Proofs.Ytgpbioljldkmaaa.Args

namespace Go.Proofs.Ytgpbioljldkmaaa.Args
open Go.RowKit Go.WideShapes Go.ChangeShapes Mem
section
variable {H : Type} {enc : TypeId × Value → H} {P : Program} {W : World}

theorem nat_of_u32 {x : Int} (h : (Lit.int .u32 x).wf = true) : ∃ n : Nat, x = n ∧ n < 4294967296 := by
  have h1 : IntKind.u32.min = 0 := rfl
  have h2 : IntKind.u32.max = 4294967295 := rfl
  simp only [Lit.wf, Bool.and_eq_true, decide_eq_true_eq] at h
  exact ⟨x.toNat, by omega, by omega⟩
theorem i64_bounds {x : Int} (h : (Lit.int .i64 x).wf = true) : -9223372036854775808 ≤ x ∧ x ≤ 9223372036854775807 := by
  have h1 : IntKind.i64.min = -9223372036854775808 := rfl
  have h2 : IntKind.i64.max = 9223372036854775807 := rfl
  simp only [Lit.wf, Bool.and_eq_true, decide_eq_true_eq] at h
  omega

/-- a slice of numbers -/
def NL (w : World) (k : IntKind) (p : Option Addr) (zs : List Int) : Prop :=
  0 < zs.length → ∃ b o, p = some ⟨b, o, none⟩ ∧ ∀ i (h : i < zs.length), w.cell? ⟨b, o + i, none⟩ = some (.int k zs[i])

/-- an argument of type []uint64 -/
def UL (w : World) (p : Option Addr) (ns : List Nat) : Prop := NL w .u64 p (ns.map fun n : Nat => (n : Int))
theorem UL.at_ {w : World} {p : Option Addr} {ns : List Nat} (h : UL w p ns) {i : Nat} (hi : i < ns.length) : ∃ b o, p = some ⟨b, o, none⟩ ∧ w.cell? ⟨b, o + i, none⟩ = some (.int .u64 (ns[i] : Int)) := by
  obtain ⟨b, o, e, hc⟩ := h (by simp; omega)
  exact ⟨b, o, e, by rw [hc i (by simpa using hi)]; simp⟩
end
end Go.Proofs.Ytgpbioljldkmaaa.Args

namespace Go.Proofs.Ytgpbioljldkmaaa
open Go.RowKit
namespace Mem
section
variable {α : Type} {K : Kind α} {P : Program}
theorem VK.made (w : World) (B n : Nat) (z : Array Value) (hB : B ≤ w.heap.size) (hn : n ≤ 1048576) : VK K (w.alloc (.cells (madeCells z (n * K.k)) K.T)) B (some ⟨w.heap.size, 0, none⟩) n [] :=
  World.ownsRow_made w _ n hB (by unfold maxLen; omega) (size_madeCells _ _)
end
end Mem
end Go.Proofs.Ytgpbioljldkmaaa

namespace Go.Proofs.Ytgpbioljldkmaaa
namespace Hp
section
variable {α : Type} [Inhabited α]
def gt (l : List α) (i : Nat) : α := l.getD i default
def swp (l : List α) (i j : Nat) : List α := (l.set i (gt l j)).set j (gt l i)
theorem gt_eq {l : List α} {i : Nat} (h : i < l.length) : gt l i = l[i] := by simp [gt, h]
theorem swp_len (l : List α) (i j : Nat) : (swp l i j).length = l.length := by simp [swp]
theorem swp_perm {l : List α} {i j : Nat} (hi : i < l.length) (hj : j < l.length) : (swp l i j).Perm l := by
  unfold swp
  rw [gt_eq hi, gt_eq hj]
  exact List.set_set_perm hi hj
theorem gt_swp {l : List α} {i j : Nat} (hi : i < l.length) (hj : j < l.length) (k : Nat) : gt (swp l i j) k = if k = j then gt l i else if k = i then gt l j else gt l k := by
  unfold swp gt
  by_cases h1 : k = j
  · subst h1
    simp [hj]
  · rw [if_neg h1]
    by_cases h2 : k = i
    · subst h2
      have h3 : ¬ j = k := fun e => h1 e.symm
      simp [hi, h3]
    · have h3 : ¬ j = k := fun e => h1 e.symm
      have h4 : ¬ i = k := fun e => h2 e.symm
      simp [h2, h3, h4]
structure Ord (lt : α → α → Bool) : Prop where
  asym : ∀ a b, lt a b = true → lt b a = false
  trans : ∀ a b c, lt b a = false → lt c b = false → lt c a = false
/-- no place below those from k on is less than the one above it -/
def HpF (lt : α → α → Bool) (l : List α) (n k : Nat) : Prop := ∀ j, 0 < j → j < n → k ≤ (j - 1) / 2 → lt (gt l j) (gt l ((j - 1) / 2)) = false
/-- the same but below i; and what is below i is not less than what is above it -/
structure Sf (lt : α → α → Bool) (l : List α) (n k i : Nat) : Prop where
  le : k ≤ i
  most : ∀ j, 0 < j → j < n → k ≤ (j - 1) / 2 → (j - 1) / 2 ≠ i → lt (gt l j) (gt l ((j - 1) / 2)) = false
  over : k < i → ∀ j, 0 < j → j < n → (j - 1) / 2 = i → lt (gt l j) (gt l ((i - 1) / 2)) = false
variable {lt : α → α → Bool} {l : List α} {n k i : Nat}
theorem HpF.sf (h : HpF lt l n (k + 1)) : Sf lt l n k k := ⟨Nat.le_refl _, fun j h1 h2 h3 h4 => h j h1 h2 (by omega), fun h0 => by omega⟩
theorem Sf.stop (h : Sf lt l n k i) (hc : ∀ j, 0 < j → j < n → (j - 1) / 2 = i → lt (gt l j) (gt l i) = false) : HpF lt l n k := fun j h1 h2 h3 => by
  by_cases e : (j - 1) / 2 = i
  · rw [e]
    exact hc j h1 h2 e
  · exact h.most j h1 h2 h3 e
theorem Sf.step (ho : Ord lt) (h : Sf lt l n k i) (hn : n ≤ l.length) {j : Nat} (h0 : 0 < j) (hj : j < n) (hp : (j - 1) / 2 = i) (hlt : lt (gt l j) (gt l i) = true) (hc : ∀ c, 0 < c → c < n → (c - 1) / 2 = i → lt (gt l c) (gt l j) = false) : Sf lt (swp l i j) n k j := by
  have hij : i < j := by omega
  have hk := h.le
  have G := gt_swp (l := l) (i := i) (j := j) (by omega) (by omega)
  refine ⟨by omega, fun c h1 h2 h3 h4 => ?_, fun _ c h1 h2 h3 => ?_⟩
  · rw [G c, G ((c - 1) / 2), if_neg h4]
    by_cases e : (c - 1) / 2 = i
    · rw [if_pos e]
      by_cases e2 : c = j
      · rw [if_pos e2]
        exact ho.asym _ _ hlt
      · rw [if_neg e2, if_neg (by omega)]
        exact hc c h1 h2 e
    · rw [if_neg e, if_neg (by intro e2; subst e2; omega)]
      by_cases e2 : c = i
      · rw [if_pos e2]
        subst e2
        exact h.over (by omega) j h0 hj hp
      · rw [if_neg e2]
        exact h.most c h1 h2 h3 e
  · rw [G c, G ((j - 1) / 2), hp, if_neg (by omega), if_neg (by omega), if_neg (by omega), if_pos rfl]
    have := h.most c h1 h2 (by omega) (by omega)
    rw [h3] at this
    exact this
theorem HpF.root (ho : Ord lt) (hs : ∀ a, lt a a = false) (h : HpF lt l n 0) : ∀ m j, j < m → j < n → lt (gt l j) (gt l 0) = false
  | 0, j, hm, _ => by omega
  | m + 1, j, hm, hj => by
    by_cases h0 : j = 0
    · subst h0
      exact hs _
    · exact ho.trans _ _ _ (HpF.root ho hs h m ((j - 1) / 2) (by omega) (by omega)) (h j (by omega) hj (Nat.zero_le _))
theorem HpF.congr {l' : List α} (h : HpF lt l n k) (he : ∀ i, i < n → gt l' i = gt l i) : HpF lt l' n k := fun j h1 h2 h3 => by
  rw [he j h2, he ((j - 1) / 2) (by omega)]
  exact h j h1 h2 h3
/-- the top taken to the end: the rest is a heap but at its top -/
theorem HpF.swap_top (h : HpF lt l (n + 1) 0) (hn : n < l.length) : HpF lt (swp l 0 n) n 1 := fun j h1 h2 h3 => by
  have G := gt_swp (l := l) (i := 0) (j := n) (by omega) hn
  rw [G j, G ((j - 1) / 2), if_neg (by omega), if_neg (by omega), if_neg (by omega), if_neg (by omega)]
  exact h j h1 (by omega) (by omega)
/-- what comes of it when the least one is taken -/
structure Took (lt : α → α → Bool) (l : List α) (x : α) (l' : List α) : Prop where
  perm : l.Perm (x :: l')
  heap : HpF lt l' l'.length 0
  least : ∀ y, y ∈ l' → lt y x = false
end
end Hp
end Go.Proofs.Ytgpbioljldkmaaa

namespace Go.Proofs.Ytgpbioljldkmaaa
namespace Pq
open Hp
/-- l was turned into L, within a to b alone -/
structure Mvd (l L : List Nat) (a b : Nat) : Prop where
  perm : L.Perm l
  out : ∀ k, k < a ∨ b ≤ k → gt L k = gt l k
section
variable {l L M : List Nat} {a b : Nat}
theorem Mvd.refl (l : List Nat) (a b : Nat) : Mvd l l a b := ⟨List.Perm.refl _, fun _ _ => rfl⟩
theorem Mvd.len (h : Mvd l L a b) : L.length = l.length := h.perm.length_eq
theorem Mvd.trans (h : Mvd l L a b) (g : Mvd L M a b) : Mvd l M a b := ⟨g.perm.trans h.perm, fun k hk => (g.out k hk).trans (h.out k hk)⟩
theorem Mvd.mono {a' b' : Nat} (h : Mvd l L a b) (ha : a' ≤ a) (hb : b ≤ b') : Mvd l L a' b' := ⟨h.perm, fun k hk => h.out k (by omega)⟩
theorem Mvd.swp {i j : Nat} (hb : b ≤ l.length) (hi : a ≤ i) (hi2 : i < b) (hj : a ≤ j) (hj2 : j < b) : Mvd l (swp l i j) a b :=
  ⟨swp_perm (by omega) (by omega), fun k hk => by
    rw [gt_swp (by omega) (by omega), if_neg (by omega), if_neg (by omega)]⟩
theorem Mvd.swap {i j : Nat} (h : Mvd l L a b) (hb : b ≤ l.length) (hi : a ≤ i) (hi2 : i < b) (hj : a ≤ j) (hj2 : j < b) : Mvd l (Hp.swp L i j) a b :=
  h.trans (Mvd.swp (by rw [h.len]; exact hb) hi hi2 hj hj2)
theorem eq_of_gt {A B : List Nat} (hl : A.length = B.length) (h : ∀ k, k < A.length → gt A k = gt B k) : A = B := by
  refine List.ext_getElem hl fun k h1 h2 => ?_
  have := h k h1
  rwa [gt_eq h1, gt_eq h2] at this
theorem gt_take {n k : Nat} (hk : k < n) : gt (l.take n) k = gt l k := by
  unfold gt
  rw [List.getD_eq_getElem?_getD, List.getD_eq_getElem?_getD, List.getElem?_take, if_pos hk]
theorem gt_drop (n k : Nat) : gt (l.drop n) k = gt l (n + k) := by
  unfold gt
  rw [List.getD_eq_getElem?_getD, List.getD_eq_getElem?_getD, List.getElem?_drop]
/-- what the range has now it had -/
theorem Mvd.ex (h : Mvd l L a b) (hb : b ≤ l.length) {k : Nat} (hk : a ≤ k) (hk2 : k < b) : ∃ j, a ≤ j ∧ j < b ∧ gt L k = gt l j := by
  have hl := h.len
  have e1 : L.take a = l.take a := eq_of_gt (by simp [hl]) fun j hj => by
    have hja : j < a := by simp at hj; omega
    rw [gt_take hja, gt_take hja]
    exact h.out j (.inl hja)
  have e2 : L.drop b = l.drop b := eq_of_gt (by simp [hl]) fun j _ => by
    rw [gt_drop, gt_drop]
    exact h.out _ (.inr (by omega))
  have s1 : ∀ X : List Nat, X = X.take a ++ ((X.drop a).take (b - a) ++ X.drop b) := fun X => by
    have : X.drop b = (X.drop a).drop (b - a) := by rw [List.drop_drop, show a + (b - a) = b by omega]
    rw [this, List.take_append_drop, List.take_append_drop]
  have hp := h.perm
  rw [s1 L, s1 l, e1, e2, List.perm_append_left_iff, List.perm_append_right_iff] at hp
  have hm : gt L k ∈ (L.drop a).take (b - a) := by
    have : gt ((L.drop a).take (b - a)) (k - a) = gt L k := by
      rw [gt_take (by omega), gt_drop, show a + (k - a) = k by omega]
    rw [← this, gt_eq (by simp; omega)]
    exact List.getElem_mem _
  obtain ⟨i, hi, e⟩ := List.mem_iff_getElem.1 (hp.mem_iff.1 hm)
  have hi2 : i < b - a := by simp at hi; omega
  refine ⟨a + i, by omega, by omega, ?_⟩
  rw [← e, ← gt_eq hi, gt_take hi2, gt_drop]
theorem Mvd.all {P : Nat → Prop} (h : Mvd l L a b) (hb : b ≤ l.length) (hp : ∀ k, a ≤ k → k < b → P (gt l k)) : ∀ k, a ≤ k → k < b → P (gt L k) := fun k h1 h2 => by
  obtain ⟨j, h3, h4, e⟩ := h.ex hb h1 h2
  rw [e]
  exact hp j h3 h4
/-- a range in order: each neighbour -/
def Adj (l : List Nat) (a b : Nat) : Prop := ∀ i, a < i → i < b → gt l (i - 1) ≤ gt l i
/-- a range in order: any two -/
def Ord2 (l : List Nat) (a b : Nat) : Prop := ∀ i j, a ≤ i → i < j → j < b → gt l i ≤ gt l j
theorem Adj.ord (h : Adj l a b) : Ord2 l a b := fun i j h1 h2 h3 => by
  induction j with
  | zero => omega
  | succ j ih =>
    have := h (j + 1) (by omega) h3
    rw [Nat.add_sub_cancel] at this
    by_cases e : i = j
    · rw [e]
      exact this
    · exact Nat.le_trans (ih (by omega) (by omega)) this
/-- at place j a number is on its way down; all else from a to i is in order -/
structure Ins (l : List Nat) (a i j : Nat) : Prop where
  adj : ∀ k, a < k → k ≤ i → k ≠ j → gt l (k - 1) ≤ gt l k
  gap : a < j → j < i → gt l (j - 1) ≤ gt l (j + 1)
theorem Ins.start {i : Nat} (h : Adj l a i) : Ins l a i i := ⟨fun k h1 h2 h3 => h k h1 (by omega), fun _ h2 => by omega⟩
theorem Ins.stop {i j : Nat} (h : Ins l a i j) (hj : j ≤ a ∨ gt l (j - 1) ≤ gt l j) : Adj l a (i + 1) := fun k h1 h2 => by
  by_cases e : k = j
  · subst e
    rcases hj with hj | hj
    · omega
    · exact hj
  · exact h.adj k h1 (by omega) e
theorem Ins.step {i j : Nat} (h : Ins l a i (j + 1)) (haj : a ≤ j) (hji : j + 1 ≤ i) (hi : i < l.length) (hlt : gt l (j + 1) < gt l j) : Ins (Hp.swp l (j + 1) j) a i j := by
  have G := gt_swp (l := l) (i := j + 1) (j := j) (by omega) (by omega)
  refine ⟨fun k h1 h2 h3 => ?_, fun h1 h2 => ?_⟩
  · by_cases e1 : k = j + 1
    · subst e1
      rw [G, G, if_pos (by omega), if_neg (by omega), if_pos rfl]
      exact Nat.le_of_lt hlt
    · by_cases e2 : k = j + 2
      · subst e2
        rw [G, G, if_neg (by omega), if_pos (by omega), if_neg (by omega), if_neg (by omega)]
        have := h.gap (by omega) (by omega)
        rwa [Nat.add_sub_cancel] at this
      · rw [G, G, if_neg (by omega), if_neg (by omega), if_neg (by omega), if_neg (by omega)]
        exact h.adj k h1 h2 e1
  · rw [G, G, if_neg (by omega), if_neg (by omega), if_neg (by omega), if_pos rfl]
    exact h.adj j h1 (by omega) (by omega)
/-- on the way to be parted by the number at place a -/
structure Pt (l : List Nat) (a b i j : Nat) : Prop where
  ai : a < i
  ij : i ≤ j + 1
  jb : j < b
  lo : ∀ k, a < k → k < i → gt l k < gt l a
  hi : ∀ k, j < k → k < b → gt l a ≤ gt l k
theorem Pt.up {i j : Nat} (h : Pt l a b i j) (hij : i ≤ j) (hx : gt l i < gt l a) : Pt l a b (i + 1) j := ⟨by have := h.ai; omega, by omega, h.jb, fun k h1 h2 => by
  by_cases e : k = i
  · rw [e]; exact hx
  · exact h.lo k h1 (by omega), h.hi⟩
theorem Pt.down {i j : Nat} (h : Pt l a b i (j + 1)) (hij : i ≤ j + 1) (hx : gt l a ≤ gt l (j + 1)) : Pt l a b i j := ⟨h.ai, by omega, by have := h.jb; omega, h.lo, fun k h1 h2 => by
  by_cases e : k = j + 1
  · rw [e]; exact hx
  · exact h.hi k (by omega) h2⟩
theorem Pt.swap {i j : Nat} (h : Pt l a b i (j + 1)) (hij : i ≤ j + 1) (hb : b ≤ l.length) (hx : ¬ gt l i < gt l a) (hy : ¬ gt l a ≤ gt l (j + 1)) : Pt (Hp.swp l i (j + 1)) a b (i + 1) j := by
  have h1 := h.ai
  have h2 := h.jb
  have hne : i ≠ j + 1 := fun e => by
    subst e
    omega
  have G := gt_swp (l := l) (i := i) (j := j + 1) (by omega) (by omega)
  have ga : gt (Hp.swp l i (j + 1)) a = gt l a := by rw [G, if_neg (by omega), if_neg (by omega)]
  refine ⟨by omega, by omega, by omega, fun k h3 h4 => ?_, fun k h3 h4 => ?_⟩
  · rw [ga, G, if_neg (by omega)]
    by_cases e : k = i
    · rw [if_pos e]
      omega
    · rw [if_neg e]
      exact h.lo k h3 (by omega)
  · rw [ga, G]
    by_cases e : k = j + 1
    · rw [if_pos e]
      omega
    · rw [if_neg e, if_neg (by omega)]
      exact h.hi k (by omega) h4
/-- parted at place m -/
structure Parted (l : List Nat) (a b m : Nat) : Prop where
  am : a ≤ m
  mb : m < b
  lo : ∀ k, a ≤ k → k < m → gt l k ≤ gt l m
  hi : ∀ k, m < k → k < b → gt l m ≤ gt l k
theorem Pt.done {i j : Nat} (h : Pt l a b i j) (hij : j < i) (hb : b ≤ l.length) : Parted (Hp.swp l j a) a b j := by
  have h1 := h.ai
  have h2 := h.jb
  have h3 := h.ij
  have G := gt_swp (l := l) (i := j) (j := a) (by omega) (by omega)
  have gj : gt (Hp.swp l j a) j = gt l a := by
    rw [G]
    by_cases e : j = a
    · rw [if_pos e, e]
    · rw [if_neg e, if_pos rfl]
  refine ⟨by omega, h2, fun k h4 h5 => ?_, fun k h4 h5 => ?_⟩
  · rw [gj, G]
    by_cases e : k = a
    · rw [if_pos e]
      exact Nat.le_of_lt (h.lo j (by omega) (by omega))
    · rw [if_neg e, if_neg (by omega)]
      exact Nat.le_of_lt (h.lo k (by omega) (by omega))
  · rw [gj, G, if_neg (by omega), if_neg (by omega)]
    exact h.hi k h4 h5
/-- on the way to be parted into those that are no more than the number at place a, and those that are -/
structure Pe (l : List Nat) (a b i j : Nat) : Prop where
  ai : a < i
  ij : i ≤ j + 1
  jb : j < b
  lo : ∀ k, a ≤ k → k < i → gt l k ≤ gt l a
  hi : ∀ k, j < k → k < b → gt l a < gt l k
theorem Pe.up {i j : Nat} (h : Pe l a b i j) (hij : i ≤ j) (hx : gt l i ≤ gt l a) : Pe l a b (i + 1) j := ⟨by have := h.ai; omega, by omega, h.jb, fun k h1 h2 => by
  by_cases e : k = i
  · rw [e]; exact hx
  · exact h.lo k h1 (by omega), h.hi⟩
theorem Pe.down {i j : Nat} (h : Pe l a b i (j + 1)) (hij : i ≤ j + 1) (hx : gt l a < gt l (j + 1)) : Pe l a b i j := ⟨h.ai, by omega, by have := h.jb; omega, h.lo, fun k h1 h2 => by
  by_cases e : k = j + 1
  · rw [e]; exact hx
  · exact h.hi k (by omega) h2⟩
theorem Pe.swap {i j : Nat} (h : Pe l a b i (j + 1)) (hij : i ≤ j + 1) (hb : b ≤ l.length) (hx : ¬ gt l i ≤ gt l a) (hy : ¬ gt l a < gt l (j + 1)) : Pe (Hp.swp l i (j + 1)) a b (i + 1) j := by
  have h1 := h.ai
  have h2 := h.jb
  have hne : i ≠ j + 1 := fun e => by
    subst e
    omega
  have G := gt_swp (l := l) (i := i) (j := j + 1) (by omega) (by omega)
  have ga : gt (Hp.swp l i (j + 1)) a = gt l a := by rw [G, if_neg (by omega), if_neg (by omega)]
  refine ⟨by omega, by omega, by omega, fun k h3 h4 => ?_, fun k h3 h4 => ?_⟩
  · rw [ga, G, if_neg (by omega)]
    by_cases e : k = i
    · rw [if_pos e]
      omega
    · rw [if_neg e]
      exact h.lo k h3 (by omega)
  · rw [ga, G]
    by_cases e : k = j + 1
    · rw [if_pos e]
      omega
    · rw [if_neg e, if_neg (by omega)]
      exact h.hi k (by omega) h4
/-- any two of a0 to b0 stand in order, but those that are both from a to b -/
def Rest (l : List Nat) (a0 b0 a b : Nat) : Prop := ∀ i j, a0 ≤ i → i < j → j < b0 → (i < a ∨ b ≤ j) → gt l i ≤ gt l j
theorem Rest.moved {a0 b0 : Nat} (h : Rest l a0 b0 a b) (hm : Mvd l L a b) (hb : b ≤ l.length) (ha0 : a0 ≤ a) (hb0 : b ≤ b0) : Rest L a0 b0 a b := fun i j h1 h2 h3 h4 => by
  rcases h4 with h4 | h4
  · rw [hm.out i (.inl h4)]
    by_cases hj : j < a
    · rw [hm.out j (.inl hj)]
      exact h i j h1 h2 h3 (.inl h4)
    · by_cases hj2 : b ≤ j
      · rw [hm.out j (.inr hj2)]
        exact h i j h1 h2 h3 (.inl h4)
      · obtain ⟨j', h5, h6, e⟩ := hm.ex hb (show a ≤ j by omega) (by omega)
        rw [e]
        exact h i j' h1 (by omega) (by omega) (.inl h4)
  · rw [hm.out j (.inr h4)]
    by_cases hi : i < a
    · rw [hm.out i (.inl hi)]
      exact h i j h1 h2 h3 (.inr h4)
    · by_cases hi2 : b ≤ i
      · rw [hm.out i (.inr hi2)]
        exact h i j h1 h2 h3 (.inr h4)
      · obtain ⟨i', h5, h6, e⟩ := hm.ex hb (show a ≤ i by omega) (by omega)
        rw [e]
        exact h i' j (by omega) (by omega) h3 (.inr h4)
theorem Rest.start (l : List Nat) (a b : Nat) : Rest l a b a b := fun i j h1 h2 h3 h4 => by omega
theorem Rest.done {a0 b0 : Nat} (h : Rest l a0 b0 a b) (ho : Ord2 l a b) : Ord2 l a0 b0 := fun i j h1 h2 h3 => by
  by_cases h4 : i < a ∨ b ≤ j
  · exact h i j h1 h2 h3 h4
  · exact ho i j (by omega) h2 (by omega)
/-- nothing of a to b is less than what stands ahead of a -/
def Blw (l : List Nat) (a b : Nat) : Prop := 0 < a → ∀ k, a ≤ k → k < b → gt l (a - 1) ≤ gt l k
theorem Blw.moved (h : Blw l a b) (hm : Mvd l L a b) (hb : b ≤ l.length) : Blw L a b := fun h0 k h1 h2 => by
  obtain ⟨j, h3, h4, e⟩ := hm.ex hb h1 h2
  rw [e, hm.out (a - 1) (.inl (by omega))]
  exact h h0 j h3 h4
/-- the left part put in order -/
theorem Rest.left {a0 b0 m : Nat} (h : Rest l a0 b0 a b) (hp : Parted l a b m) (ho : Ord2 l a m) : Rest l a0 b0 (m + 1) b := fun i j h1 h2 h3 h4 => by
  have := hp.am
  have := hp.mb
  by_cases h5 : i < a ∨ b ≤ j
  · exact h i j h1 h2 h3 h5
  · by_cases e : i = m
    · rw [e]
      exact hp.hi j (by omega) (by omega)
    · by_cases hj : j < m
      · exact ho i j (by omega) h2 hj
      · by_cases e2 : j = m
        · rw [e2]
          exact hp.lo i (by omega) (by omega)
        · exact Nat.le_trans (hp.lo i (by omega) (by omega)) (hp.hi j (by omega) (by omega))
theorem Rest.right {a0 b0 m : Nat} (h : Rest l a0 b0 a b) (hp : Parted l a b m) (ho : Ord2 l (m + 1) b) : Rest l a0 b0 a m := fun i j h1 h2 h3 h4 => by
  have := hp.am
  have := hp.mb
  by_cases h5 : i < a ∨ b ≤ j
  · exact h i j h1 h2 h3 h5
  · by_cases e : j = m
    · rw [e]
      exact hp.lo i (by omega) (by omega)
    · by_cases e2 : i = m
      · rw [e2]
        exact hp.hi j (by omega) (by omega)
      · by_cases hi : i < m
        · exact Nat.le_trans (hp.lo i (by omega) hi) (hp.hi j (by omega) (by omega))
        · exact ho i j (by omega) h2 (by omega)
theorem Parted.movedL {m : Nat} (hp : Parted l a b m) (hm : Mvd l L a m) (hb : b ≤ l.length) : Parted L a b m := by
  have h1 := hp.am
  have h2 := hp.mb
  have e := hm.out m (.inr (Nat.le_refl _))
  refine ⟨h1, h2, fun k h3 h4 => ?_, fun k h3 h4 => ?_⟩
  · obtain ⟨j, h5, h6, e2⟩ := hm.ex (by omega) h3 h4
    rw [e2, e]
    exact hp.lo j h5 h6
  · rw [e, hm.out k (.inr (by omega))]
    exact hp.hi k h3 h4
theorem Parted.movedR {m : Nat} (hp : Parted l a b m) (hm : Mvd l L (m + 1) b) (hb : b ≤ l.length) : Parted L a b m := by
  have h1 := hp.am
  have h2 := hp.mb
  have e := hm.out m (.inl (by omega))
  refine ⟨h1, h2, fun k h3 h4 => ?_, fun k h3 h4 => ?_⟩
  · rw [e, hm.out k (.inl (by omega))]
    exact hp.lo k h3 h4
  · obtain ⟨j, h5, h6, e2⟩ := hm.ex (by omega) (show m + 1 ≤ k by omega) h4
    rw [e2, e]
    exact hp.hi j (by omega) h6
/-- those that are alike, at the front -/
theorem Rest.same {a0 b0 i : Nat} (h : Rest l a0 b0 a b) (_ : a < i) (_ : i ≤ b) (lo : ∀ k, a ≤ k → k < i → gt l k ≤ gt l a) (_ : ∀ k, i ≤ k → k < b → gt l a < gt l k) (hall : ∀ k, a ≤ k → k < b → gt l a ≤ gt l k) : Rest l a0 b0 i b := fun x y h1 h2 h3 h4 => by
  by_cases h5 : x < a ∨ b ≤ y
  · exact h x y h1 h2 h3 h5
  · exact Nat.le_trans (lo x (by omega) (by omega)) (hall y (by omega) (by omega))
end
end Pq
end Go.Proofs.Ytgpbioljldkmaaa

namespace Go.Proofs.Ytgpbioljldkmaaa.Calm
open Go.RowKit Go.Sort
section
variable {P : Program} {ops : Array Oper} {md : Region.Mode} {w0 : World}

/-- nothing old has turned (a name of its own: simp shall not open it) -/
def Kept (w w' : World) : Prop := Below w.heap.size w w'
def upon (P : Program) (w : World) (v : Value) : Result Next → Prop
  | .ok (.value u) w' => w' = w ∧ u = v
  | .ok .skip w' => w' = w ∧ v = undef
  | .ok (.enter f args) w' => w' = w ∧ Calls P f args w (fun e w'' => e = .returned v ∧ Kept w w'')
  | _ => False
def calmAt (P : Program) (o : Oper) (a : Act) (w : World) (v : Value) : Prop := upon P w v ((execOp a.eval o).run P w)
/-- one value, in every world that has grown out of the first one -/
def calm (P : Program) (w0 : World) (o : Oper) (a : Act) (next : Act → Prop) : Prop := ∃ v, (∀ p : Regrown, calmAt P o a (grow (redrawn w0 p.d) p.os) v) ∧ next (a.put o.dst v)


def cOp (P : Program) (ops : Array Oper) (w0 : World) (i : Nat) (K : Act → Prop) (a : Act) : Prop :=
  match ops[i]? with
  | none => K a
  | some o => if Region.wanted o (yielded ops a.tmps) then calm P w0 o a K else K (a.put o.dst undef)


/-- what an operation yields in every such world -/
def Y (P : Program) (ops : Array Oper) (w0 : World) (o : Oper) (v : Value) (a : Act) : Prop :=
  (Region.wanted o (yielded ops a.tmps) = true ∧ ∀ p : Regrown, calmAt P o a (grow (redrawn w0 p.d) p.os) v) ∨ (Region.wanted o (yielded ops a.tmps) = false ∧ v = undef)
theorem Y.cOp {i : Nat} {o : Oper} {v : Value} {a : Act} (hi : ops[i]? = some o) (hy : Y P ops w0 o v a) {K : Act → Prop} (h : K (a.put o.dst v)) : cOp P ops w0 i K a := by
  unfold Calm.cOp
  simp only [hi]
  rcases hy with ⟨hw, hv⟩ | ⟨hw, rfl⟩
  · rw [if_pos hw]; exact ⟨v, hv, h⟩
  · rw [if_neg (by rw [hw]; exact Bool.false_ne_true)]; exact h
theorem Y.put {o oj : Oper} {v u : Value} {a : Act} (hs : ∀ cs b, o.op ≠ .select cs b) (h3 : ∀ d, oj.dst = some d → d ∉ o.looksAt ops) (hy : Y P ops w0 o v a) : Y P ops w0 o v (a.put oj.dst u) := by
  unfold Y calmAt at *
  rw [execOp_put o hs a oj.dst u h3, wanted_put o a oj.dst u h3]
  exact hy



/-- what is asked of the one that floats: of its value V is known, in every later world -/
structure Floats (P : Program) (ops : Array Oper) (w0 : World) (n : Option Nat) (oF : Oper) (V : Value → World → Prop) : Prop where
  at_n : ∀ i, n = some i → ops[i]? = some oF
  wanted : ∀ i, n = some i → ∀ a : Act, Region.wanted oF (yielded ops a.tmps) = true
  run : ∀ i, n = some i → ∀ (a : Act) (w : World), Below w0.heap.size w0 w → ∃ p w', (execOp a.eval oF).run P w = .ok (.value p) w' ∧ Below w.heap.size w w' ∧ V p w'
  stable : ∀ p w w', V p w → Below w.heap.size w w' → V p w'


theorem getD_either {listed : Array Bool} {i : Nat} (h : listed.getD i true = false) : listed.getD i false = false := by
  rcases Nat.lt_or_ge i listed.size with h' | h'
  · simp [h'] at h ⊢; exact h
  · simp [Array.getElem?_eq_none h'] at h


/-- each operation from m on waits for every one below m -/
def sinkB (md : Region.Mode) (ops : Array Oper) (m : Nat) : Bool :=
  (List.range ops.size).all fun t => decide (t < m) || (List.range m).all fun i => Region.waitsFor md ops t i

theorem waits {m i : Nat} {listed : Array Bool} (hs : sinkB md ops m = true) (hi : i < m) (hun : listed.getD i true = false) {j : Nat} (hj : j ∈ Region.ready md ops listed) : j < m := by
  rcases Nat.lt_or_ge j m with h | h
  · exact h
  · exfalso
    obtain ⟨_, oj, hoj, hall⟩ := mem_ready.1 hj
    have hjs : j < ops.size := (Array.getElem?_eq_some_iff.1 hoj).1
    have h1 := List.all_eq_true.1 hs j (List.mem_range.2 hjs)
    simp only [Bool.or_eq_true, decide_eq_true_eq] at h1
    rcases h1 with h1 | h1
    · omega
    · obtain ⟨o', ho', e, he, hb, hon⟩ := Region.waitsFor_spec (List.all_eq_true.1 h1 i (List.mem_range.2 hi))
      obtain rfl : o' = oj := Option.some.inj (ho'.symm.trans hoj)
      have := hall e he hb
      rw [hon, getD_either hun] at this
      cases this



/-- what is known of a block that was laid among the others -/
def Laid (w0 : World) (obj : Obj) (p : Value) (w : World) : Prop := ∃ b, p = .pointer (some ⟨b, 0, none⟩) ∧ w0.heap.size ≤ b ∧ b < w.heap.size ∧ w.heap[b]? = some obj

end
/-! the chain of worlds that only grow -/
theorem cell_of_block {w : World} {b : Nat} {cs : Array Value} {T : TypeId} (h : w.heap[b]? = some (.cells cs T)) (i : Nat) : w.cell? ⟨b, i, none⟩ = cs[i]? := by
  simp [World.cell?, h]
theorem free_of_block {w : World} {b : Nat} {cs : Array Value} {T : TypeId} (h : w.heap[b]? = some (.cells cs T)) (i : Nat) : w.frozen? ⟨b, i, none⟩ = false := by
  simp [World.frozen?, h]
/-! a block that is known whole -/
def Has (w : World) (b : Nat) (cs : Array Value) (T : TypeId) : Prop := w.heap[b]? = some (.cells cs T)
theorem Has.lt {w : World} {b : Nat} {cs : Array Value} {T : TypeId} (h : Has w b cs T) : b < w.heap.size := (Array.getElem?_eq_some_iff.1 h).1
theorem Has.cell {w : World} {b : Nat} {cs : Array Value} {T : TypeId} (h : Has w b cs T) (i : Nat) : w.cell? ⟨b, i, none⟩ = cs[i]? := cell_of_block h i
theorem Has.free {w : World} {b : Nat} {cs : Array Value} {T : TypeId} (h : Has w b cs T) (i : Nat) : w.frozen? ⟨b, i, none⟩ = false := free_of_block h i
theorem Has.kept {w w' : World} {b : Nat} {cs : Array Value} {T : TypeId} (h : Has w b cs T) (hb : Below w.heap.size w w') : Has w' b cs T := (hb.block b h.lt).trans h
theorem Has.new (w : World) (cs : Array Value) (T : TypeId) : Has (w.alloc (.cells cs T)) w.heap.size cs T := by
  show (w.heap.push _)[w.heap.size]? = _
  simp
theorem Has.alloc {w : World} {b : Nat} {cs : Array Value} {T : TypeId} (h : Has w b cs T) (o : Obj) : Has (w.alloc o) b cs T := h.kept ((Below.refl _ _).alloc (Nat.le_refl _) o)
theorem Has.drewN {w : World} {b : Nat} {cs : Array Value} {T : TypeId} (h : Has w b cs T) (n : Nat) : Has (w.drewN n) b cs T := h
attribute [go_sem] calm calmAt upon
end Go.Proofs.Ytgpbioljldkmaaa.Calm

namespace Go.Proofs.Ytgpbioljldkmaaa.Wd

/-- a reader: the bytes that are left, and its error -/
structure St where
  b : List UInt8
  e : Int
/-- a spoilt one has no bytes -/
def St.ok (s : St) : Prop := s.e ≠ 0 → s.b = []
def spoilS (s : St) (x : Int) : St := if s.e = 0 then ⟨[], x⟩ else s
def takeS (s : St) (n : Int) : St × List UInt8 :=
  if n < 0 then (spoilS s 2, []) else if (s.b.length : Int) < n then (spoilS s 5, []) else (⟨s.b.drop n.toNat, s.e⟩, s.b.take n.toNat)
def numS (s : St) (n : Int) : St × Nat := if isW n then ((takeS s n).1, val (takeS s n).2) else (spoilS s 2, 0)
def zeroB (l : List UInt8) : Bool := l.all (· == 0)
def zerosS (s : St) (n : Int) : St := if zeroB (takeS s n).2 then (takeS s n).1 else spoilS (takeS s n).1 3
def textS (s : St) (n m : Int) : St × List UInt8 :=
  if n < 0 ∨ m < n then (spoilS s 2, [])
  else if ((takeS s m).2.length : Int) < m then ((takeS s m).1, [])
  else if zeroB ((takeS s m).2.drop n.toNat) then ((takeS s m).1, (takeS s m).2.take n.toNat) else (spoilS (takeS s m).1 3, [])

theorem spoil_ok {s : St} (h : s.ok) (x : Int) : (spoilS s x).ok := by
  unfold spoilS
  split
  · intro _; rfl
  · exact h
/-- a spoilt one stays, and tells nothing -/
theorem take_spoilt {s : St} (h : s.ok) (he : s.e ≠ 0) (n : Int) : takeS s n = (s, []) := by
  obtain ⟨b, e⟩ := s
  have hb : b = [] := h he
  simp only at he
  subst hb
  unfold takeS spoilS
  split
  · simp
  · split
    · simp
    · simp
theorem take_neg (s : St) {n : Int} (h : n < 0) : takeS s n = (spoilS s 2, []) := if_pos h
theorem take_short (s : St) {n : Int} (h0 : ¬ n < 0) (h : (s.b.length : Int) < n) : takeS s n = (spoilS s 5, []) := by unfold takeS; rw [if_neg h0, if_pos h]
theorem take_some (s : St) {n : Int} (h0 : ¬ n < 0) (h : ¬ (s.b.length : Int) < n) : takeS s n = (⟨s.b.drop n.toNat, s.e⟩, s.b.take n.toNat) := by unfold takeS; rw [if_neg h0, if_neg h]
theorem take_ok {s : St} (h : s.ok) (n : Int) : (takeS s n).1.ok := by
  unfold takeS
  split
  · exact spoil_ok h _
  · split
    · exact spoil_ok h _
    · intro he; simp [h he]
theorem take_len (s : St) (n : Int) : ((takeS s n).2.length : Int) ≤ if n < 0 then 0 else n := by
  unfold takeS
  split
  · simp
  · split
    · simp; omega
    · simp; omega
theorem take_len_le (s : St) (n : Int) : (takeS s n).2.length ≤ s.b.length := by
  unfold takeS
  split
  · simp
  · split
    · simp
    · simp; omega
end Go.Proofs.Ytgpbioljldkmaaa.Wd
