/-
  Widths, and the bytes of numbers: plain. No program.
-/
namespace Go.Proofs.Yteefkhgmcknbaaa.Wd

def isW (n : Int) : Bool := n == 1 || n == 2 || n == 4 || n == 8
theorem isW_cases {n : Int} (h : isW n = true) : n = 1 ∨ n = 2 ∨ n = 4 ∨ n = 8 := by simpa [isW, or_assoc] using h
theorem isW_not {n : Int} (h : isW n = false) : n ≠ 1 ∧ n ≠ 2 ∧ n ≠ 4 ∧ n ≠ 8 := by simpa [isW, and_assoc] using h

/-- a number's bytes, so many, the greatest first -/
def be : Nat → Nat → List UInt8
  | 0, _ => []
  | n + 1, v => be n (v / 256) ++ [UInt8.ofNat (v % 256)]
@[simp] theorem be_length (n v : Nat) : (be n v).length = n := by
  induction n generalizing v with
  | zero => rfl
  | succ n ih => simp [be, ih]
theorem be_cons (n v : Nat) : be (n + 1) v = UInt8.ofNat (v / 256 ^ n % 256) :: be n v := by
  induction n generalizing v with
  | zero => simp [be]
  | succ n ih =>
    rw [be, ih, List.cons_append]
    congr 2
    · rw [Nat.div_div_eq_div_mul, Nat.pow_succ, Nat.mul_comm]

/-- the number of bytes -/
def val (l : List UInt8) : Nat := l.foldl (fun v x => 256 * v + x.toNat) 0
theorem val_snoc (l : List UInt8) (x : UInt8) : val (l ++ [x]) = 256 * val l + x.toNat := by simp [val]
theorem val_lt (l : List UInt8) : val l < 256 ^ l.length := by
  suffices h : ∀ (n : Nat) (l : List UInt8), l.length = n → val l < 256 ^ n from h _ _ rfl
  intro n
  induction n with
  | zero => intro l hl; obtain rfl := List.eq_nil_of_length_eq_zero hl; simp [val]
  | succ n ih =>
    intro l hl
    have hne : l ≠ [] := by intro e; simp [e] at hl
    obtain ⟨r, x, rfl⟩ : ∃ r x, l = r ++ [x] := ⟨l.dropLast, l.getLast hne, (List.dropLast_concat_getLast hne).symm⟩
    rw [val_snoc, Nat.pow_succ]
    have h1 := ih r (by simpa using hl)
    have h2 : x.toNat < 256 := x.toNat_lt
    omega
theorem val_be (n v : Nat) : val (be n v) = v % 256 ^ n := by
  induction n generalizing v with
  | zero => simp [be, val, Nat.mod_one]
  | succ n ih =>
    have e : (UInt8.ofNat (v % 256)).toNat = v % 256 := by simp
    rw [be, val_snoc, ih, e, Nat.pow_succ, Nat.mul_comm (256 ^ n) 256, Nat.mod_mul]
    omega
theorem be_val (l : List UInt8) : be l.length (val l) = l := by
  suffices h : ∀ (n : Nat) (l : List UInt8), l.length = n → be n (val l) = l from h _ _ rfl
  intro n
  induction n with
  | zero => intro l hl; obtain rfl := List.eq_nil_of_length_eq_zero hl; rfl
  | succ n ih =>
    intro l hl
    have hne : l ≠ [] := by intro e; simp [e] at hl
    obtain ⟨r, x, rfl⟩ : ∃ r x, l = r ++ [x] := ⟨l.dropLast, l.getLast hne, (List.dropLast_concat_getLast hne).symm⟩
    have h2 : x.toNat < 256 := x.toNat_lt
    have h3 : (256 * val r + x.toNat) / 256 = val r := by omega
    have h4 : (256 * val r + x.toNat) % 256 = x.toNat := by omega
    rw [val_snoc, be, h3, h4, ih r (by simpa using hl)]
    simp

/-- what lies in the row behind j rounds: the lowest j bytes at its end -/
def rowAt (l : List UInt8) (wd v j : Nat) : List UInt8 := l ++ (List.replicate (wd - j) 0 ++ be j v)
theorem rowAt_length (l : List UInt8) {wd j : Nat} (v : Nat) (h : j ≤ wd) : (rowAt l wd v j).length = l.length + wd := by simp [rowAt]; omega
theorem rowAt_zero (l : List UInt8) (wd v : Nat) : rowAt l wd v 0 = l ++ List.replicate wd 0 := by simp [rowAt, be]
theorem rowAt_all (l : List UInt8) (wd v : Nat) : rowAt l wd v wd = l ++ be wd v := by simp [rowAt]
theorem rowAt_succ (l : List UInt8) {wd v j : Nat} (h : j < wd) : (rowAt l wd v j).set (l.length + (wd - j - 1)) (UInt8.ofNat (v / 256 ^ j % 256)) = rowAt l wd v (j + 1) := by
  unfold rowAt
  obtain ⟨r, hr⟩ : ∃ r, wd - j = r + 1 := ⟨wd - j - 1, by omega⟩
  have hr' : wd - (j + 1) = r := by omega
  rw [hr, hr', be_cons, List.replicate_succ', List.set_append_right _ _ (by omega)]
  congr 1
  rw [show l.length + (r + 1 - 1) - l.length = r by omega, List.append_assoc, List.set_append_right _ _ (by simp)]
  simp

/-- does a number need no more bytes -/
def fitB (n : Int) (v : Nat) : Bool := isW n && decide (v < 256 ^ n.toNat)
end Go.Proofs.Yteefkhgmcknbaaa.Wd
