/-
  Layer chain, plain: a row as a ring of links. No program.
-/
import Derived.ProofKit
namespace Go.Proofs.Ytjnbdmimflhhiaa
namespace Cn

def upd (f : Nat → Nat) (k v : Nat) : Nat → Nat := fun x => if x = k then v else f x
theorem upd_same (f : Nat → Nat) (k v : Nat) : upd f k v k = v := by simp [upd]
theorem upd_other (f : Nat → Nat) {k x : Nat} (v : Nat) (h : x ≠ k) : upd f k v x = f x := by simp [upd, h]

/-- the last one of x :: l; the first one of l, or z -/
def lst : Nat → List Nat → Nat
  | x, [] => x
  | _, y :: r => lst y r
def hd : List Nat → Nat → Nat
  | [], z => z
  | y :: _, _ => y
/-- all edges from x on, to z -/
def Lk (A B : Nat → Nat) : Nat → List Nat → Nat → Prop
  | x, [], z => B x = z ∧ A z = x
  | x, y :: r, z => B x = y ∧ A y = x ∧ Lk A B y r z
def Pre (A B : Nat → Nat) : Nat → List Nat → Prop
  | _, [] => True
  | x, y :: r => B x = y ∧ A y = x ∧ Pre A B y r
def Tail (A B : Nat → Nat) : List Nat → Nat → Prop
  | [], _ => True
  | y :: r, z => Lk A B y r z

theorem lst_mem : ∀ (x : Nat) (l : List Nat), lst x l ∈ x :: l
  | x, [] => by simp [lst]
  | x, y :: r => by
    have := lst_mem y r
    simp only [lst]
    exact List.mem_cons_of_mem _ this
theorem hd_mem : ∀ (l : List Nat) (z : Nat), hd l z = z ∨ hd l z ∈ l
  | [], z => .inl rfl
  | y :: r, z => .inr (by simp [hd])
theorem lst_append (x : Nat) (l : List Nat) (y : Nat) : lst x (l ++ [y]) = y := by
  induction l generalizing x with
  | nil => rfl
  | cons u r ih => exact ih u
theorem lst_app (x : Nat) (l : List Nat) (y : Nat) (r : List Nat) : lst x (l ++ y :: r) = lst y r := by
  induction l generalizing x with
  | nil => rfl
  | cons u s ih => exact ih u

theorem lk_split {A B : Nat → Nat} : ∀ {x : Nat} {l1 l2 : List Nat} {z : Nat}, Lk A B x (l1 ++ l2) z ↔ Pre A B x l1 ∧ B (lst x l1) = hd l2 z ∧ A (hd l2 z) = lst x l1 ∧ Tail A B l2 z
  | x, [], [], z => by simp [Lk, Pre, lst, hd, Tail]
  | x, [], y :: r, z => by simp [Lk, Pre, lst, hd, Tail]
  | x, u :: l1, l2, z => by
    have := @lk_split A B u l1 l2 z
    simp only [List.cons_append, Lk, Pre, lst, this, and_assoc]
theorem tail_cons {A B : Nat → Nat} {i z : Nat} {l : List Nat} : Tail A B (i :: l) z ↔ B i = hd l z ∧ A (hd l z) = i ∧ Tail A B l z := by
  have := @lk_split A B i [] l z
  simpa [Pre, lst, Tail] using this
theorem pre_congr {A B A' B' : Nat → Nat} : ∀ {x : Nat} {l : List Nat}, (x :: l).Nodup → (∀ y ∈ x :: l, y ≠ lst x l → B' y = B y) → (∀ y ∈ l, A' y = A y) → Pre A B x l → Pre A' B' x l
  | x, [], _, _, _, _ => trivial
  | x, y :: r, hn, hB, hA, ⟨h1, h2, h3⟩ => by
    have hx : x ≠ lst y r := by
      have h := lst_mem y r
      rw [List.nodup_cons] at hn
      rintro rfl
      exact hn.1 h
    refine ⟨by rw [hB x (by simp) hx, h1], by rw [hA y (by simp), h2], pre_congr (List.nodup_cons.1 hn).2 (fun u hu hne => hB u (List.mem_cons_of_mem _ hu) hne) (fun u hu => hA u (List.mem_cons_of_mem _ hu)) h3⟩
theorem lk_congr {A B A' B' : Nat → Nat} : ∀ {x : Nat} {l : List Nat} {z : Nat}, (∀ y ∈ x :: l, B' y = B y) → (∀ y ∈ l, A' y = A y) → A' z = A z → Lk A B x l z → Lk A' B' x l z
  | x, [], z, hB, _, hz, ⟨h1, h2⟩ => ⟨by rw [hB x (by simp), h1], by rw [hz, h2]⟩
  | x, y :: r, z, hB, hA, hz, ⟨h1, h2, h3⟩ => ⟨by rw [hB x (by simp), h1], by rw [hA y (by simp), h2], lk_congr (fun u hu => hB u (List.mem_cons_of_mem _ hu)) (fun u hu => hA u (List.mem_cons_of_mem _ hu)) hz h3⟩
theorem tail_congr {A B A' B' : Nat → Nat} {l : List Nat} {z : Nat} (hd' : (l ++ [z]).Nodup) (hB : ∀ y ∈ l, B' y = B y) (hA : ∀ y, y ∈ l ∨ y = z → y ≠ hd l z → A' y = A y) (h : Tail A B l z) : Tail A' B' l z := by
  cases l with
  | nil => trivial
  | cons y r =>
    have hn := hd'
    simp only [List.cons_append, List.nodup_cons, List.mem_append, List.mem_singleton, not_or] at hn
    refine lk_congr (A := A) (B := B) hB (fun u hu => hA u (.inl (List.mem_cons_of_mem _ hu)) ?_) (hA z (.inr rfl) ?_) h
    · rintro rfl; exact hn.1.1 hu
    · rintro rfl; exact hn.1.2 rfl

/-- the row l of numbers below n, linked: A ahead, B behind; n closes the ring -/
structure Ring (n : Nat) (A B : Nat → Nat) (l : List Nat) : Prop where
  lt : ∀ x ∈ l, x < n
  nd : l.Nodup
  lk : Lk A B n l n
  out : ∀ x, x < n → x ∉ l → B x = x
section
variable {n : Nat} {A B : Nat → Nat} {l l1 l2 : List Nat} {i : Nat}
theorem Ring.notin (h : Ring n A B l) : n ∉ l := fun hn => Nat.lt_irrefl _ (h.lt n hn)
theorem Ring.next (h : Ring n A B (l1 ++ i :: l2)) : B i = hd l2 n ∧ A (hd l2 n) = i ∧ A i = lst n l1 ∧ B (lst n l1) = i := by
  obtain ⟨_, h1, h2, h3⟩ := lk_split.1 h.lk
  obtain ⟨h4, h5, _⟩ := tail_cons.1 h3
  exact ⟨h4, h5, h2, h1⟩
theorem Ring.ends (h : Ring n A B l) : B n = hd l n ∧ A n = lst n l := by
  have h1 := lk_split (l1 := []).1 h.lk
  have h2 := (lk_split (l1 := l) (l2 := [])).1 (by simpa using h.lk)
  exact ⟨h1.2.1, h2.2.2.1⟩
theorem hd_lt (h : ∀ x ∈ l, x < n) : hd l n ≤ n := by
  rcases hd_mem l n with h1 | h1
  · omega
  · have := h _ h1; omega
theorem lst_lt (h : ∀ x ∈ l, x < n) : lst n l ≤ n := by
  have h1 := lst_mem n l
  rcases List.mem_cons.1 h1 with h1 | h1
  · omega
  · have := h _ h1; omega
/-- who is in the row is not linked to itself -/
theorem Ring.has (h : Ring n A B l) (hi : i < n) : (B i ≠ i) = (i ∈ l) := by
  by_cases hm : i ∈ l
  · refine propext ⟨fun _ => hm, fun _ => ?_⟩
    obtain ⟨l1, l2, rfl⟩ := List.append_of_mem hm
    rw [h.next.1]
    have hn := h.nd
    simp only [List.nodup_append, List.nodup_cons] at hn
    rcases hd_mem l2 n with h1 | h1
    · omega
    · rintro h2
      rw [h2] at h1
      exact hn.2.1.1 h1
  · exact propext ⟨fun hh => absurd (h.out i hi hm) hh, fun hh => absurd hh hm⟩
theorem split_facts (h : Ring n A B (l1 ++ i :: l2)) : i ∉ l1 ∧ i ∉ l2 ∧ (∀ x ∈ l1, x ∉ l2) ∧ l1.Nodup ∧ l2.Nodup ∧ n ∉ l1 ∧ n ∉ l2 ∧ i < n := by
  have hn := h.nd
  have hx := h.notin
  have hi := h.lt i (by simp)
  simp only [List.nodup_append, List.nodup_cons, List.mem_cons] at hn
  simp only [List.mem_append, List.mem_cons, not_or] at hx
  obtain ⟨a1, ⟨a2, a3⟩, a4⟩ := hn
  refine ⟨fun hh => (a4 i hh i (.inl rfl)) rfl, a2, fun x hx1 hx2 => a4 x hx1 x (.inr hx2) rfl, a1, a3, hx.1, hx.2.2, hi⟩
/-- a number is taken out -/
theorem Ring.loosen (h : Ring n A B (l1 ++ i :: l2)) : Ring n (upd (upd A (B i) (A i)) i i) (upd (upd B (A i) (B i)) i i) (l1 ++ l2) := by
  obtain ⟨e1, e2, e3, e4⟩ := h.next
  obtain ⟨f1, f2, f3, f4, f5, f6, f7, f8⟩ := split_facts h
  obtain ⟨h1, _, _, h2⟩ := lk_split.1 h.lk
  obtain ⟨_, _, h3⟩ := tail_cons.1 h2
  have hp := lst_mem n l1
  have hq := hd_mem l2 n
  rw [e1, e3]
  have hpi : lst n l1 ≠ i := by
    rintro he; rw [he] at hp
    rcases List.mem_cons.1 hp with hp | hp
    · omega
    · exact f1 hp
  have hqi : hd l2 n ≠ i := by
    rintro he; rw [he] at hq
    rcases hq with hq | hq
    · omega
    · exact f2 hq
  refine ⟨fun x hx => h.lt x (by simp at hx ⊢; rcases hx with hx | hx <;> simp [hx]), ?_, ?_, ?_⟩
  · exact List.nodup_append.2 ⟨f4, f5, fun x hx y hy he => f3 x hx (he ▸ hy)⟩
  · refine lk_split.2 ⟨pre_congr (List.nodup_cons.2 ⟨f6, f4⟩) (fun y hy hne => ?_) (fun y hy => ?_) h1, ?_, ?_, tail_congr ?_ (fun y hy => ?_) (fun y hy hne => ?_) h3⟩
    · have hyi : y ≠ i := by
        rintro rfl
        rcases List.mem_cons.1 hy with hy | hy
        · omega
        · exact f1 hy
      rw [upd_other _ _ hyi, upd_other _ _ hne]
    · have hyi : y ≠ i := by rintro rfl; exact f1 hy
      have hyq : y ≠ hd l2 n := by
        rintro he
        rcases hq with hq | hq
        · rw [he, hq] at hy; exact f6 hy
        · exact f3 y hy (he ▸ hq)
      rw [upd_other _ _ hyi, upd_other _ _ hyq]
    · rw [upd_other _ _ hpi, upd_same]
    · rw [upd_other _ _ hqi, upd_same]
    · exact List.nodup_append.2 ⟨f5, by simp, fun x hx y hy he => by simp at hy; subst hy he; exact f7 hx⟩
    · have hyi : y ≠ i := by rintro rfl; exact f2 hy
      have hyp : y ≠ lst n l1 := by
        rintro he
        rw [← he] at hp
        rcases List.mem_cons.1 hp with hp | hp
        · subst hp; exact f7 hy
        · exact f3 y hp hy
      rw [upd_other _ _ hyi, upd_other _ _ hyp]
    · have hyi : y ≠ i := by
        rintro rfl
        rcases hy with hy | hy
        · exact f2 hy
        · omega
      rw [upd_other _ _ hyi, upd_other _ _ hne]
  · intro x hx hm
    by_cases hxi : x = i
    · subst hxi; exact upd_same _ _ _
    · have hxp : x ≠ lst n l1 := by
        rintro he
        rw [← he] at hp
        rcases List.mem_cons.1 hp with hp | hp
        · omega
        · exact hm (List.mem_append_left _ hp)
      rw [upd_other _ _ hxi, upd_other _ _ hxp]
      refine h.out x hx fun hh => hm ?_
      simp only [List.mem_append, List.mem_cons] at hh ⊢
      rcases hh with hh | hh | hh
      · exact .inl hh
      · exact absurd hh hxi
      · exact .inr hh
/-- a number is put in -/
theorem Ring.join (h : Ring n A B (l1 ++ l2)) (hi : i < n) (hm : i ∉ l1 ++ l2) {a b : Nat} (ha : a = lst n l1) (hb : b = B a) : Ring n (upd (upd A i a) b i) (upd (upd B i b) a i) (l1 ++ i :: l2) := by
  obtain ⟨h1, h2, h3, h4⟩ := lk_split.1 h.lk
  rw [← ha] at h2 h3
  rw [← hb] at h2
  subst h2
  have hp := lst_mem n l1
  have hq := hd_mem l2 n
  rw [← ha] at hp
  have hn := h.nd
  have hx := h.notin
  have hm' := hm
  simp only [List.mem_append, not_or] at hm' hx
  obtain ⟨g1, g2⟩ := hm'
  obtain ⟨k1, k2⟩ := hx
  obtain ⟨f4, f5, f3⟩ := List.nodup_append.1 hn
  have hai : i ≠ a := by
    rintro rfl
    rcases List.mem_cons.1 hp with hp | hp
    · omega
    · exact g1 hp
  have hbi : i ≠ hd l2 n := by
    rintro he
    rcases hq with hq | hq
    · omega
    · rw [← he] at hq; exact g2 hq
  refine ⟨fun x hx => ?_, ?_, ?_, ?_⟩
  · simp only [List.mem_append, List.mem_cons] at hx
    rcases hx with hx | hx | hx
    · exact h.lt x (List.mem_append_left _ hx)
    · omega
    · exact h.lt x (List.mem_append_right _ hx)
  · refine List.nodup_append.2 ⟨f4, List.nodup_cons.2 ⟨g2, f5⟩, fun x hx y hy he => ?_⟩
    subst he
    rcases List.mem_cons.1 hy with hy | hy
    · subst hy; exact g1 hx
    · exact f3 x hx x hy rfl
  · refine lk_split.2 ⟨pre_congr (List.nodup_cons.2 ⟨k1, f4⟩) (fun y hy hne => ?_) (fun y hy => ?_) h1, ?_, ?_, tail_cons.2 ⟨?_, ?_, tail_congr ?_ (fun y hy => ?_) (fun y hy hne => ?_) h4⟩⟩
    · have hyi : y ≠ i := by
        rintro rfl
        rcases List.mem_cons.1 hy with hy | hy
        · omega
        · exact g1 hy
      rw [← ha] at hne
      rw [upd_other _ _ hne, upd_other _ _ hyi]
    · have hyi : y ≠ i := by rintro rfl; exact g1 hy
      have hyq : y ≠ hd l2 n := by
        rintro he
        rcases hq with hq | hq
        · rw [he, hq] at hy; exact k1 hy
        · exact f3 y hy y (he ▸ hq) rfl
      rw [upd_other _ _ hyq, upd_other _ _ hyi]
    · rw [← ha]; exact upd_same _ _ _
    · show upd (upd A i a) (hd l2 n) i i = _
      rw [upd_other _ _ hbi, upd_same, ha]
    · rw [upd_other _ _ hai, upd_same]
    · exact upd_same _ _ _
    · exact List.nodup_append.2 ⟨f5, by simp, fun x hx y hy he => by simp at hy; subst hy he; exact k2 hx⟩
    · have hyi : y ≠ i := by rintro rfl; exact g2 hy
      have hyp : y ≠ a := by
        rintro he
        rw [← he] at hp
        rcases List.mem_cons.1 hp with hp | hp
        · subst hp; exact k2 hy
        · exact f3 y hp y hy rfl
      rw [upd_other _ _ hyp, upd_other _ _ hyi]
    · have hyi : y ≠ i := by
        rintro rfl
        rcases hy with hy | hy
        · exact g2 hy
        · omega
      rw [upd_other _ _ hne, upd_other _ _ hyi]
  · intro x hx hm2
    simp only [List.mem_append, List.mem_cons, not_or] at hm2
    have hxa : x ≠ a := by
      rintro rfl
      rcases List.mem_cons.1 hp with hp | hp
      · omega
      · exact hm2.1 hp
    rw [upd_other _ _ hxa, upd_other _ _ hm2.2.1]
    exact h.out x hx (by simp [hm2])
theorem Ring.front (h : Ring n A B l) (hi : i < n) (hm : i ∉ l) {b : Nat} (hb : b = B n) : Ring n (upd (upd A i n) b i) (upd (upd B i b) n i) (i :: l) :=
  Ring.join (l1 := []) (l2 := l) h hi hm rfl hb
theorem Ring.back (h : Ring n A B l) (hi : i < n) (hm : i ∉ l) {a b : Nat} (ha : a = A n) (hb : b = B a) : Ring n (upd (upd A i a) b i) (upd (upd B i b) a i) (l ++ [i]) :=
  Ring.join (l1 := l) (l2 := []) (by simpa using h) hi (by simpa using hm) (ha.trans h.ends.2) hb
/-- taking a number out, whether it is there or not -/
def del (l : List Nat) (i : Nat) : List Nat := l.filter (· != i)
theorem del_none (h : i ∉ l) : del l i = l := List.filter_eq_self.2 fun x hx => by
  have : x ≠ i := by rintro rfl; exact h hx
  simpa using this
theorem del_split (h1 : i ∉ l1) (h2 : i ∉ l2) : del (l1 ++ i :: l2) i = l1 ++ l2 := by
  unfold del
  rw [List.filter_append, List.filter_cons_of_neg (by simp)]
  exact congr (congrArg _ (del_none h1)) (del_none h2)
theorem del_notin (l : List Nat) (i : Nat) : i ∉ del l i := by simp [del]
theorem len_nodup : ∀ (n : Nat) (l : List Nat), l.Nodup → (∀ x ∈ l, x < n) → l.length ≤ n
  | 0, l, _, h => by
    cases l with
    | nil => exact Nat.le_refl _
    | cons x r => exact absurd (h x (by simp)) (by omega)
  | n + 1, l, hn, h => by
    by_cases hm : n ∈ l
    · obtain ⟨l1, l2, rfl⟩ := List.append_of_mem hm
      simp only [List.nodup_append, List.nodup_cons, List.mem_cons] at hn
      obtain ⟨a1, ⟨a2, a3⟩, a4⟩ := hn
      have := len_nodup n (l1 ++ l2) (List.nodup_append.2 ⟨a1, a3, fun x hx y hy he => a4 x hx y (.inr hy) he⟩) (fun x hx => by
        have h1 := h x (by simp at hx ⊢; rcases hx with hx | hx <;> simp [hx])
        have h2 : x ≠ n := by
          rintro rfl
          rcases List.mem_append.1 hx with hx | hx
          · exact a4 x hx x (.inl rfl) rfl
          · exact a2 hx
        omega)
      simp at this ⊢
      omega
    · have := len_nodup n l hn (fun x hx => by
        have h1 := h x hx
        have h2 : x ≠ n := by rintro rfl; exact hm hx
        omega)
      omega
theorem Ring.len_le (h : Ring n A B l) : l.length ≤ n := len_nodup n l h.nd h.lt
end
end Cn
end Go.Proofs.Ytjnbdmimflhhiaa
