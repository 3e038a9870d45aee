/-
  Sums of bytes: plain. No program.
-/
namespace Go.Proofs.Yteefkhgmcknbaaa.Ck

/-- both halves, from any two on, not yet divided -/
def stp (s : Nat × Nat) (l : List UInt8) : Nat × Nat := l.foldl (fun s x => (s.1 + x.toNat, s.2 + (s.1 + x.toNat))) s
def outV (s : Nat × Nat) : Nat := s.2 % 65521 * 65536 + s.1 % 65521
def more (s : Nat) (l : List UInt8) : Nat := outV (stp (s % 65536, s / 65536) l)
@[simp] theorem stp_nil (s : Nat × Nat) : stp s [] = s := rfl
theorem stp_cons (s : Nat × Nat) (x : UInt8) (l : List UInt8) : stp s (x :: l) = stp (s.1 + x.toNat, s.2 + (s.1 + x.toNat)) l := rfl
theorem stp_app (s : Nat × Nat) (l m : List UInt8) : stp s (l ++ m) = stp (stp s l) m := by simp [stp]
theorem stp_take (s : Nat × Nat) (l : List UInt8) {k : Nat} (h : k < l.length) : stp s (l.take (k + 1)) = ((stp s (l.take k)).1 + l[k].toNat, (stp s (l.take k)).2 + ((stp s (l.take k)).1 + l[k].toNat)) := by
  rw [List.take_succ_eq_append_getElem h, stp_app]; rfl
/-- like halves stay like -/
theorem stp_like {s t : Nat × Nat} (h1 : s.1 % 65521 = t.1 % 65521) (h2 : s.2 % 65521 = t.2 % 65521) (l : List UInt8) : (stp s l).1 % 65521 = (stp t l).1 % 65521 ∧ (stp s l).2 % 65521 = (stp t l).2 % 65521 := by
  induction l generalizing s t with
  | nil => exact ⟨h1, h2⟩
  | cons x l ih =>
    rw [stp_cons, stp_cons]
    exact ih (by show (s.1 + x.toNat) % 65521 = (t.1 + x.toNat) % 65521; omega) (by show (s.2 + (s.1 + x.toNat)) % 65521 = (t.2 + (t.1 + x.toNat)) % 65521; omega)
theorem outV_lt (s : Nat × Nat) : outV s < 4294967296 := by unfold outV; omega
theorem outV_lo (s : Nat × Nat) : outV s % 65536 = s.1 % 65521 := by unfold outV; omega
theorem outV_hi (s : Nat × Nat) : outV s / 65536 = s.2 % 65521 := by unfold outV; omega
theorem outV_inj {s t : Nat × Nat} : outV s = outV t ↔ s.1 % 65521 = t.1 % 65521 ∧ s.2 % 65521 = t.2 % 65521 := by unfold outV; omega
theorem more_lt (s : Nat) (l : List UInt8) : more s l < 4294967296 := outV_lt _
/-- bytes behind bytes -/
theorem more_more (s : Nat) (l m : List UInt8) : more (more s l) m = more s (l ++ m) := by
  unfold more
  rw [outV_inj, outV_lo, outV_hi, stp_app]
  exact stp_like (by simp) (by simp) m
/-- texts, one behind the other -/
def sum (ls : List (List UInt8)) : Nat := ls.foldl more 1
theorem sum_take (ls : List (List UInt8)) {k : Nat} (h : k < ls.length) : sum (ls.take (k + 1)) = more (sum (ls.take k)) ls[k] := by
  unfold sum
  rw [List.take_succ_eq_append_getElem h, List.foldl_append]; rfl
theorem more_nil : more 1 [] = 1 := by decide
theorem sum_flat (ls : List (List UInt8)) : sum ls = more 1 ls.flatten := by
  suffices h : ∀ s, ls.foldl more (more 1 s) = more 1 (s ++ ls.flatten) by
    have := h []
    rw [more_nil, List.nil_append] at this
    exact this
  induction ls with
  | nil => intro s; simp
  | cons l ls ih => intro s; rw [List.foldl_cons, more_more, ih]; simp [List.append_assoc]
theorem sum_one (l : List UInt8) : sum [l] = more 1 l := by rw [sum_flat]; simp
theorem sum_lt (ls : List (List UInt8)) : sum ls < 4294967296 := by rw [sum_flat]; exact more_lt _ _
theorem stp_bound (s : Nat × Nat) (l : List UInt8) : (stp s l).1 ≤ s.1 + 255 * l.length ∧ (stp s l).2 ≤ s.2 + l.length * (s.1 + 255 * l.length) := by
  induction l generalizing s with
  | nil => simp
  | cons x l ih =>
    rw [stp_cons]
    obtain ⟨h1, h2⟩ := ih (s.1 + x.toNat, s.2 + (s.1 + x.toNat))
    have hx : x.toNat < 256 := x.toNat_lt
    simp only [List.length_cons] at *
    refine ⟨by omega, Nat.le_trans h2 ?_⟩
    have h3 : s.1 + x.toNat + 255 * l.length ≤ s.1 + 255 * (l.length + 1) := by omega
    have h4 := Nat.mul_le_mul_left l.length h3
    have h5 : (l.length + 1) * (s.1 + 255 * (l.length + 1)) = l.length * (s.1 + 255 * (l.length + 1)) + (s.1 + 255 * (l.length + 1)) := by rw [Nat.add_mul, Nat.one_mul]
    omega

/-- the lower half but for the modulus: the sum of all -/
theorem stp_fst (s : Nat × Nat) (l : List UInt8) : (stp s l).1 = s.1 + (l.map UInt8.toNat).sum := by
  induction l generalizing s with
  | nil => simp
  | cons x l ih => rw [stp_cons, ih]; simp; omega
/-- the upper half: what was there ahead only adds -/
theorem stp_snd_add (a b d : Nat) (l : List UInt8) : (stp (a, b + d) l).2 = (stp (a, b) l).2 + d ∧ (stp (a, b + d) l).1 = (stp (a, b) l).1 := by
  induction l generalizing a b with
  | nil => simp
  | cons x l ih => rw [stp_cons, stp_cons]; have := ih (a + x.toNat) (b + (a + x.toNat)); simpa [Nat.add_right_comm] using this

theorem sum_set (l : List UInt8) {k : Nat} (h : k < l.length) (z : UInt8) : ((l.set k z).map UInt8.toNat).sum + l[k].toNat = (l.map UInt8.toNat).sum + z.toNat := by
  induction l generalizing k with
  | nil => simp at h
  | cons x l ih =>
    cases k with
    | zero => simp; omega
    | succ k =>
      have := ih (k := k) (by simpa using h)
      rw [List.set_cons_succ, List.map_cons, List.sum_cons, List.map_cons, List.sum_cons, List.getElem_cons_succ]
      omega
/-- one byte that is another one shows -/
theorem shows_set (l : List UInt8) {k : Nat} (h : k < l.length) (z : UInt8) : (more 1 (l.set k z) = more 1 l) ↔ z = l[k] := by
  constructor
  · intro he
    have h1 := (outV_inj.1 he).1
    rw [stp_fst, stp_fst] at h1
    have h2 := sum_set l h z
    have h3 : z.toNat < 256 := z.toNat_lt
    have h4 : l[k].toNat < 256 := l[k].toNat_lt
    exact UInt8.toNat_inj.1 (by omega)
  · rintro rfl
    rw [List.set_getElem_self]
/-- two neighbours that change places show -/
theorem shows_swap (l : List UInt8) {k : Nat} (h : k + 1 < l.length) : (more 1 ((l.set k l[k + 1]).set (k + 1) l[k]) = more 1 l) ↔ l[k] = l[k + 1] := by
  have e1 : l = l.take k ++ (l[k] :: l[k + 1] :: l.drop (k + 2)) := by
    have h0 := (List.take_append_drop k l).symm
    rw [List.drop_eq_getElem_cons (by omega), List.drop_eq_getElem_cons h] at h0
    exact h0
  obtain ⟨p, hp⟩ : ∃ p, p = l.take k := ⟨_, rfl⟩
  obtain ⟨q, hq⟩ : ∃ q, q = l.drop (k + 2) := ⟨_, rfl⟩
  obtain ⟨x, hx⟩ : ∃ x, x = l[k] := ⟨_, rfl⟩
  obtain ⟨y, hy⟩ : ∃ y, y = l[k + 1] := ⟨_, rfl⟩
  have hpk : p.length = k := by rw [hp]; simp; omega
  rw [← hp, ← hq, ← hx, ← hy] at e1
  rw [← hx, ← hy]
  have e2 : (l.set k y).set (k + 1) x = p ++ (y :: x :: q) := by
    rw [e1, List.set_append_right _ _ (by omega), List.set_append_right _ _ (by omega), hpk]
    simp
  rw [e2, e1]
  unfold more
  rw [outV_inj, stp_app, stp_app]
  obtain ⟨a, b⟩ := stp (1 % 65536, 1 / 65536) p
  simp only [stp_cons]
  have hxl : x.toNat < 256 := x.toNat_lt
  have hyl : y.toNat < 256 := y.toNat_lt
  have f1 := stp_snd_add (a + x.toNat + y.toNat) (b + 2 * a + x.toNat + y.toNat) x.toNat q
  have f2 := stp_snd_add (a + x.toNat + y.toNat) (b + 2 * a + x.toNat + y.toNat) y.toNat q
  rw [show a + y.toNat + x.toNat = a + x.toNat + y.toNat by omega, show b + (a + y.toNat) + (a + x.toNat + y.toNat) = b + 2 * a + x.toNat + y.toNat + y.toNat by omega,
    show b + (a + x.toNat) + (a + x.toNat + y.toNat) = b + 2 * a + x.toNat + y.toNat + x.toNat by omega, f1.1, f1.2, f2.1, f2.2]
  constructor
  · rintro ⟨_, h2⟩
    exact UInt8.toNat_inj.1 (by omega)
  · rintro rfl
    exact ⟨rfl, rfl⟩
end Go.Proofs.Yteefkhgmcknbaaa.Ck
