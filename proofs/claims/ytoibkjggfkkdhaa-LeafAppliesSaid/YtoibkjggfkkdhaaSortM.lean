/-
  The library's stable sort of messages: ranges swapped, exchanged.
-/
import Derived.Test.YtoibkjggfkkdhaaSortP
import Derived.Test.YtoibkjggfkkdhaaMsgK
import Derived.Test.YtoibkjggfkkdhaaCmpC
namespace Go.Proofs.Ytoibkjggfkkdhaa
open Go.RowKit
namespace St
open Mem Lx Bu
/-- a message's key -/
abbrev mk (m : Mg) : ByteArray := m.1
/-- a message laid at place p -/
def stM (w : World) (g p : Nat) (m : Mg) : World := ((w.setCell ⟨g, p * 3, none⟩ (.string m.1)).setCell ⟨g, p * 3 + 1, none⟩ (.bool m.2.1)).setCell ⟨g, p * 3 + 2, none⟩ (.string m.2.2)
theorem flat_set {L : List Mg} {p : Nat} {m : Mg} (hp : p < L.length) : (((L.flatMap MgK.cs).set (p * 3) (.string m.1)).set (p * 3 + 1) (.bool m.2.1)).set (p * 3 + 2) (.string m.2.2) = (L.set p m).flatMap MgK.cs := by
  induction L generalizing p with
  | nil => simp at hp
  | cons y l ih =>
    cases p with
    | zero => simp [MgK]
    | succ p =>
      have h := ih (p := p) (by simpa using hp)
      have e : ∀ (q : Nat) (v : Value) (T : List Value), (MgK.cs y ++ T).set (p * 3 + 3 + q) v = MgK.cs y ++ T.set (p * 3 + q) v := fun q v T => by
        have hl : (MgK.cs y).length = 3 := rfl
        rw [List.set_append_right _ _ (by omega), hl]
        congr 2
        omega
      rw [List.flatMap_cons, List.set_cons_succ, List.flatMap_cons, ← h, show (p + 1) * 3 = p * 3 + 3 + 0 by omega, e 0, show p * 3 + 3 + 0 + 1 = p * 3 + 3 + 1 by omega, e 1, show p * 3 + 3 + 0 + 2 = p * 3 + 3 + 2 by omega, e 2, Nat.add_zero]
theorem vk_set {w : World} {B g c p : Nat} {L : List Mg} (h : M3 w B (some ⟨g, 0, none⟩) c L) (hp : p < L.length) (m : Mg) : M3 (stM w g p m) B (some ⟨g, 0, none⟩) c (L.set p m) := by
  have h1 := (World.ownsRow.stored h (p * 3) (.string m.1)).1
  have h2 := (World.ownsRow.stored h1 (p * 3 + 1) (.bool m.2.1)).1
  have h3 := (World.ownsRow.stored h2 (p * 3 + 2) (.string m.2.2)).1
  rw [flat_set hp] at h3
  unfold M3 VK
  rw [List.length_set]
  exact h3
theorem into_set {g k : Nat} {S : List Nat} (w : World) (v : Value) (hg : g ∈ S) : Flow.Into S w (w.setCell ⟨g, k, none⟩ v) := ⟨rfl, rfl, rfl, by simp [World.setCell], fun i _ hn => Below.heap_setCell _ _ _ _ (fun e => hn (by rw [show i = g from e]; exact hg))⟩
theorem into_stM {g p : Nat} (w : World) (m : Mg) : Flow.Into [g] w (stM w g p m) := ((into_set w _ (by simp)).trans (into_set _ _ (by simp))).trans (into_set _ _ (by simp))
/-- the row in block g, all else as it was -/
structure SS (W w : World) (B g c n : Nat) (L : List Mg) : Prop where
  vk : M3 w B (some ⟨g, 0, none⟩) c L
  hi : Flow.Into [g] W w
  len : L.length = n
section
variable {W w w' : World} {B g c n p q : Nat} {L : List Mg} {x y : Mg}
theorem SS.kept (h : SS W w B g c n L) (hb : Below w.heap.size w w') : SS W w' B g c n L := ⟨h.vk.kept hb, h.hi.trans (Flow.Into.of_below hb), h.len⟩
theorem below_dn (w : World) (m : Nat) : Below w.heap.size w (w.drewN m) := ⟨rfl, rfl, rfl, Nat.le_refl _, fun _ _ => rfl⟩
theorem SS.drew (h : SS W w B g c n L) (m : Nat) : SS W (w.drewN m) B g c n L := h.kept (below_dn w m)
theorem SS.lt (_ : SS W w B g c n L) (hx : L[p]? = some x) : p < L.length := (List.getElem?_eq_some_iff.1 hx).1
theorem SS.ltn (h : SS W w B g c n L) (hx : L[p]? = some x) : p < n := by
  rw [← h.len]
  exact h.lt hx
theorem SS.cell (h : SS W w B g c n L) (hx : L[p]? = some x) : w.cell? ⟨g, p * 3, none⟩ = some (.string x.1) ∧ w.cell? ⟨g, p * 3 + 1, none⟩ = some (.bool x.2.1) ∧ w.cell? ⟨g, p * 3 + 2, none⟩ = some (.string x.2.2) := by
  obtain ⟨g', e, hc⟩ := h.vk.cell hx
  obtain rfl : g = g' := by simpa using e
  exact ⟨hc 0 _ rfl, hc 1 _ rfl, hc 2 _ rfl⟩
theorem SS.free (h : SS W w B g c n L) (j : Nat) : w.frozen? ⟨g, j, none⟩ = false := World.ownsRow.frozenAt h.vk j
theorem SS.swap (h : SS W w B g c n L) (hp : p < n) (hq : q < n) : SS W (stM (stM w g p y) g q x) B g c n ((L.set p y).set q x) :=
  ⟨vk_set (vk_set h.vk (by rw [h.len]; exact hp) y) (by rw [List.length_set, h.len]; exact hq) x, (h.hi.trans (into_stM _ _)).trans (into_stM _ _), by simpa using h.len⟩
end
theorem CCmp (a b : ByteArray) (w : World) : Calls Try.prog 22 #[.string a, .string b] w fun e w' => e = .returned (.int .i64 (cmpB a b)) ∧ Below w.heap.size w w' :=
  (Compare_any a b w).mono fun e w' ⟨he, hw⟩ => ⟨he, by subst hw; exact Below.refl _ _⟩
set_option maxRecDepth 100000 in
set_option maxHeartbeats 2000000 in
theorem cmpMsg_any (x y : Mg) (w : World) : Calls Try.prog 37 #[.agg #[.string x.1, .bool x.2.1, .string x.2.2], .agg #[.string y.1, .bool y.2.1, .string y.2.2]] w fun e w' => e = .returned (.int .i64 (cmpB x.1 y.1)) ∧ Below w.heap.size w w' := by
  go_enter Try.func37, Try.ntmps37
  go_upto_region 1 with fail
  obtain ⟨h0, h1, hb0⟩ := two_new w (.cells #[.string x.1, .bool x.2.1, .string x.2.2] 34) (.cells #[.string y.1, .bool y.2.1, .string y.2.2] 34)
  generalize (w.alloc (.cells #[.string x.1, .bool x.2.1, .string x.2.2] 34)).alloc (.cells #[.string y.1, .bool y.2.1, .string y.2.2] 34) = w1 at *
  obtain ⟨g, hg⟩ : ∃ g, g = w.heap.size := ⟨_, rfl⟩
  rw [← hg] at h0 h1 ⊢
  obtain ⟨c0, c1, c2⟩ := box3 h0
  obtain ⟨d0, d1, d2⟩ := box3 h1
  have HB := Lib.hid hb0
  clear h0 h1 hb0 hg
  go_wp2_with (go_at_call 22; refine (CCmp _ _ _).mono ?_; rintro e w' ⟨rfl, hb⟩)
  go_ret
  exact ⟨rfl, HB.out.trans (hb.mono HB.out.size)⟩
set_option maxRecDepth 100000 in
set_option maxHeartbeats 4000000 in
theorem swapRange_any {W w : World} {B g c n a b k : Nat} {L P X M Y S : List Mg} (cv : Value) (h : SS W w B g c n L) (hL : L = P ++ (X ++ (M ++ (Y ++ S)))) (ha : P.length = a) (hb : a + X.length + M.length = b) (hX : X.length = k) (hY : Y.length = k) (hn : n ≤ 1000) :
    Calls Try.prog 45 #[.slice (some ⟨g, 0, none⟩) n c, .int .i64 (a : Int), .int .i64 (b : Int), .int .i64 (k : Int), cv] w fun e w' => e = .returned (.tuple #[]) ∧ SS W w' B g c n (P ++ (Y ++ (M ++ (X ++ S)))) := by
  have hlen : a + k + M.length + k + S.length = n := by
    have := h.len
    rw [hL] at this
    simp at this
    omega
  have hkn : k ≤ n := by omega
  have hbk : b + k ≤ n := by omega
  have hak : a + k ≤ n := by omega
  have hab : a + k ≤ b := by omega
  have H0 : Hid (SwR P X M Y S L 0) := by
    subst hL
    exact swR_start
  have HST : Hid (∀ (L : List Mg) (i : Nat), SwR P X M Y S L i → i < k → ∃ x y, L[a + i]? = some x ∧ L[b + i]? = some y ∧ SwR P X M Y S ((L.set (a + i) y).set (b + i) x) (i + 1)) := fun L i hs hi => swR_step hs (by omega) (by omega) ha hb
  have HEN : Hid (∀ L : List Mg, SwR P X M Y S L k → L = P ++ (Y ++ (M ++ (X ++ S)))) := fun L hs => swR_end hs hX hY
  have HS0 := Lib.hid h
  clear h hL ha hb hX hY hlen
  go_enter Try.func45, Try.ntmps45
  go_wp2_with fail
  go_loopg [10] k (fun gk iv wr => ∃ (i : Nat) (L : List Mg), i ≤ k ∧ gk = k - i ∧ iv = .int .i64 (i : Int) ∧ Hid (SwR P X M Y S L i) ∧ Hid (SS W wr B g c n L))
  case atStart => exact ⟨0, L, Nat.zero_le _, rfl, rfl, H0, HS0⟩
  case round =>
    obtain ⟨i, L, hi, rfl, rfl, HR, HS⟩ := hrel
    clear H0 HS0
    by_cases hik : i < k
    · obtain ⟨x, y, hx, hy, hs⟩ := HST.out L i HR.out hik
      have HR2 := Lib.hid hs
      obtain ⟨p, hp⟩ : ∃ p, p = a + i := ⟨_, rfl⟩
      obtain ⟨q, hq⟩ : ∃ q, q = b + i := ⟨_, rfl⟩
      rw [← hp] at hx HR2
      rw [← hq] at hy HR2
      have hpn := HS.out.ltn hx
      have hqn := HS.out.ltn hy
      have hw1 : IntKind.i64.wrap ((a : Int) + (i : Int)) = (p : Int) := by rw [IntKind.wrap_i64]; omega
      have hw2 : IntKind.i64.wrap ((b : Int) + (i : Int)) = (q : Int) := by rw [IntKind.wrap_i64]; omega
      have hw3 : IntKind.i64.wrap ((i : Int) + 1) = ((i + 1 : Nat) : Int) := by rw [IntKind.wrap_i64]; omega
      have hpq : p < q := by omega
      obtain ⟨c0, c1, c2⟩ := HS.out.cell hx
      obtain ⟨d0, d1, d2⟩ := HS.out.cell hy
      have HX := Lib.hid hx
      have HY := Lib.hid hy
      clear hx hy hs hp hq HR
      go_upto_region 3 with fail
      have x0 := fun t : Drift.Tide [] wr [] => Drift.Tide.cell c0 (by simp) t
      have x1 := fun t : Drift.Tide [] wr [] => Drift.Tide.cell c1 (by simp) t
      have x2 := fun t : Drift.Tide [] wr [] => Drift.Tide.cell c2 (by simp) t
      have y0 := fun t : Drift.Tide [] wr [] => Drift.Tide.cell d0 (by simp) t
      have y1 := fun t : Drift.Tide [] wr [] => Drift.Tide.cell d1 (by simp) t
      have y2 := fun t : Drift.Tide [] wr [] => Drift.Tide.cell d2 (by simp) t
      clear c0 c1 c2 d0 d1 d2
      refine Drift.wp_region_drift_late [] [(0,[]),(1,[]),(2,[]),(3,[]),(4,[]),(5,[]),(6,[]),(7,[]),(8,[]),(9,[]),(10,[]),(11,[]),(12,[]),(13,[]),(14,[]),(15,[]),(16,[]),(17,[]),(18,[]),(19,[])] [] [] [4, 5, 6, 7, 14, 15, 16, 17, 18] (by kernel_rfl) (by kernel_rfl) (by simp) ?_
      simp only [Drift.pick, Drift.opsAt, List.getElem?_toArray, List.getElem?_cons_zero, List.getElem?_cons_succ, List.cons_append, List.nil_append, List.filterMap_nil]
      repeat (refine Drift.walk_step (fun K hK => ?_); go_simp; (refine hK _ ?_; clear hK K))
      refine Drift.walk_clear rfl (.slice (some ⟨g, 0, none⟩) n c) (fun W => by go_simp) ?_
      refine Drift.walk_clear rfl (.int .i64 b) (fun W => by go_simp) ?_
      refine Drift.walk_clear rfl (.int .i64 i) (fun W => by go_simp) ?_
      refine Drift.walk_clear rfl (.int .i64 q) (fun W => by go_simp) ?_
      repeat (refine Drift.walk_step (fun K hK => ?_); go_simp; (refine hK _ ?_; clear hK K))
      refine Drift.walk_clear rfl (.slice (some ⟨g, 0, none⟩) n c) (fun W => by go_simp) ?_
      refine Drift.walk_clear rfl (.int .i64 a) (fun W => by go_simp) ?_
      refine Drift.walk_clear rfl (.int .i64 i) (fun W => by go_simp) ?_
      refine Drift.walk_clear rfl (.int .i64 p) (fun W => by go_simp) ?_
      refine Drift.walk_clear rfl (.pointer (some ⟨g, p * 3, none⟩)) (fun W => by go_simp) ?_
      repeat (refine Drift.walk_step (fun K hK => ?_); go_simp; (refine hK _ ?_; clear hK K))
      refine Drift.walk_nil ?_
      intro w6 hb6 _
      clear x0 x1 x2 y0 y1 y2
      have h6 : SS W w6 B g c n L := HS.out.kept hb6
      have H7 := Lib.hid (h6.swap (x := x) (y := y) (p := p) (q := q) hpn hqn)
      have f := h6.free
      obtain ⟨c0, c1, c2⟩ := h6.cell HX.out
      obtain ⟨d0, d1, d2⟩ := h6.cell HY.out
      clear h6 hb6 HS
      simp only [List.length_cons, List.length_nil, List.drop_succ_cons, List.drop_zero, Nat.zero_add, Nat.reduceAdd]
      go_wp2_with fail
      rw [Flow.Nrm_normal]
      unfold stM at H7
      generalize (((((w6.setCell ⟨g, p * 3, none⟩ (.string y.1)).setCell ⟨g, p * 3 + 1, none⟩ (.bool y.2.1)).setCell ⟨g, p * 3 + 2, none⟩ (.string y.2.2)).setCell ⟨g, q * 3, none⟩ (.string x.1)).setCell ⟨g, q * 3 + 1, none⟩ (.bool x.2.1)).setCell ⟨g, q * 3 + 2, none⟩ (.string x.2.2) = w7 at *
      clear c0 c1 c2 d0 d1 d2 f
      go_wp2_with fail
      go_roundg (k - (i + 1))
      case measure => omega
      case rel => exact ⟨i + 1, _, hik, rfl, by go_num, HR2, H7⟩
    · obtain rfl : i = k := by omega
      have HE := Lib.hid (HEN.out L HR.out)
      clear hik HR HST HEN
      go_wp2_with fail
      go_end0
      exact ⟨rfl, by rw [← HE.out]; exact HS.out⟩
set_option maxRecDepth 100000 in
set_option maxHeartbeats 4000000 in
theorem rotate_any {W w : World} {B g c n a m b : Nat} {L P U V S : List Mg} (cv : Value) (h : SS W w B g c n L) (hL : L = P ++ (U ++ (V ++ S))) (ha : P.length = a) (hm : a + U.length = m) (hb : m + V.length = b) (hu : 1 ≤ U.length) (hv : 1 ≤ V.length) (hn : n ≤ 1000) :
    Calls Try.prog 44 #[.slice (some ⟨g, 0, none⟩) n c, .int .i64 (a : Int), .int .i64 (m : Int), .int .i64 (b : Int), cv] w fun e w' => e = .returned (.tuple #[]) ∧ SS W w' B g c n (P ++ (V ++ (U ++ S))) := by
  have hlen : b + S.length = n := by
    have := h.len
    rw [hL] at this
    simp at this
    omega
  obtain ⟨T, hT⟩ : ∃ T, T = P ++ (V ++ (U ++ S)) := ⟨_, rfl⟩
  rw [← hT]
  have H0 : Hid (Rot T L (m - a) (b - m) m) := ⟨P, U, V, S, hL, hT, by omega, by omega, by omega⟩
  have HS0 := Lib.hid h
  have hbn : b ≤ n := by omega
  have ham : a + 1 ≤ m := by omega
  have hmb : m + 1 ≤ b := by omega
  have cS := fun (w : World) (L P X M Y S : List Mg) (a b k : Nat) (h : SS W w B g c n L) (hL : L = P ++ (X ++ (M ++ (Y ++ S)))) (ha : P.length = a) (hb : a + X.length + M.length = b) (hX : X.length = k) (hY : Y.length = k) => Lib.hid (swapRange_any cv h hL ha hb hX hY hn)
  clear h hL ha hm hb hu hv hlen hT
  go_enter Try.func44, Try.ntmps44
  obtain ⟨i0, hi0⟩ : ∃ i0, i0 = m - a := ⟨_, rfl⟩
  obtain ⟨j0, hj0⟩ : ∃ j0, j0 = b - m := ⟨_, rfl⟩
  rw [← hi0, ← hj0] at H0
  have hw1 : IntKind.i64.wrap ((m : Int) - (a : Int)) = (i0 : Int) := by rw [IntKind.wrap_i64]; omega
  have hw2 : IntKind.i64.wrap ((b : Int) - (m : Int)) = (j0 : Int) := by rw [IntKind.wrap_i64]; omega
  have hi1 : 1 ≤ i0 := by omega
  have hj1 : 1 ≤ j0 := by omega
  have him : i0 ≤ m := by omega
  have hjn : m + j0 ≤ n := by omega
  clear hi0 hj0 ham hmb hbn
  go_upto_block 0 with fail
  clear hw1 hw2
  go_cut [10, 11] (fun iv jv wx => ∃ (i : Nat) (L : List Mg), iv = .int .i64 (i : Int) ∧ jv = .int .i64 (i : Int) ∧ i ≤ m ∧ m + i ≤ n ∧ Hid (Rot T L i i m) ∧ Hid (SS W wx B g c n L))
  case first =>
    go_wp2_with fail
    go_loopg [10, 11] (i0 + j0) (fun gk iv jv wr => ∃ (i j : Nat) (L : List Mg), 1 ≤ i ∧ 1 ≤ j ∧ i ≤ m ∧ m + j ≤ n ∧ gk = i + j ∧ iv = .int .i64 (i : Int) ∧ jv = .int .i64 (j : Int) ∧ Hid (Rot T L i j m) ∧ Hid (SS W wr B g c n L))
    case atStart => exact ⟨i0, j0, L, hi1, hj1, him, hjn, rfl, rfl, rfl, H0, HS0⟩
    case round =>
      obtain ⟨i, j, L, h1, h2, h3, h4, rfl, rfl, rfl, HR, HS⟩ := hrel
      clear H0 HS0 hi1 hj1 him hjn
      rcases Nat.lt_trichotomy i j with hij | rfl | hij
      · obtain ⟨P, X, M, Y, S, e1, e2, e3, e4, e5, e6⟩ := rot_lt HR.out hij
        have hw1 : IntKind.i64.wrap ((m : Int) - (i : Int)) = ((m - i : Nat) : Int) := by rw [IntKind.wrap_i64]; omega
        have hw2 : IntKind.i64.wrap ((m : Int) + (j : Int)) = ((m + j : Nat) : Int) := by rw [IntKind.wrap_i64]; omega
        have hw3 : IntKind.i64.wrap (((m + j : Nat) : Int) - (i : Int)) = ((m + j - i : Nat) : Int) := by rw [IntKind.wrap_i64]; omega
        have hw4 : IntKind.i64.wrap ((j : Int) - (i : Int)) = ((j - i : Nat) : Int) := by rw [IntKind.wrap_i64]; omega
        obtain ⟨p, hp⟩ : ∃ p, p = m - i := ⟨_, rfl⟩
        obtain ⟨r, hr⟩ : ∃ r, r = m + j := ⟨_, rfl⟩
        obtain ⟨q, hq⟩ : ∃ q, q = r - i := ⟨_, rfl⟩
        obtain ⟨s, hs⟩ : ∃ s, s = j - i := ⟨_, rfl⟩
        rw [← hr] at hw2 hw3 e3
        rw [← hp] at hw1 e2 e3
        rw [← hq] at hw3 e3
        rw [← hs] at hw4 e6
        have HR2 := Lib.hid e6
        have cS' := cS wr _ P X M Y S p q i HS.out e1 e2 e3 e4 e5
        have hd : (decide ((i : Int) > (j : Int))) = false := by simp; omega
        have hd2 : ((i : Int) != (j : Int)) = true := by simp; omega
        have hs1 : 1 ≤ s := by omega
        have hs2 : m + s ≤ n := by omega
        have hs3 : s < j := by omega
        clear e1 e2 e3 e4 e5 e6 hp hq hr hs HR HS cS
        go_wp2_with (go_at_call 45; refine cS'.out.mono ?_; rintro e w7 ⟨rfl, H7⟩)
        have H8 := Lib.hid H7
        go_roundg (i + s)
        case measure => omega
        case rel => exact ⟨i, s, _, h1, hs1, h3, hs2, rfl, rfl, by go_num, HR2, H8⟩
      · have HS9 := HS
        have hd2 : ((i : Int) != (i : Int)) = false := by simp
        clear cS HS
        go_wp2_with fail
        go_meet
        exact ⟨i, L, rfl, rfl, h3, h4, HR, HS9⟩
      · obtain ⟨P, X, M, Y, S, e1, e2, e3, e4, e5, e6⟩ := rot_gt HR.out hij
        have hw1 : IntKind.i64.wrap ((m : Int) - (i : Int)) = ((m - i : Nat) : Int) := by rw [IntKind.wrap_i64]; omega
        have hw4 : IntKind.i64.wrap ((i : Int) - (j : Int)) = ((i - j : Nat) : Int) := by rw [IntKind.wrap_i64]; omega
        obtain ⟨p, hp⟩ : ∃ p, p = m - i := ⟨_, rfl⟩
        obtain ⟨s, hs⟩ : ∃ s, s = i - j := ⟨_, rfl⟩
        rw [← hp] at hw1 e2 e3
        rw [← hs] at hw4 e6
        have HR2 := Lib.hid e6
        have cS' := cS wr _ P X M Y S p m j HS.out e1 e2 e3 e4 e5
        have hd : (decide ((i : Int) > (j : Int))) = true := by simp; omega
        have hd2 : ((i : Int) != (j : Int)) = true := by simp; omega
        have hs1 : 1 ≤ s := by omega
        have hs2 : s ≤ m := by omega
        have hs3 : s < i := by omega
        clear e1 e2 e3 e4 e5 e6 hp hs HR HS cS
        go_wp2_with (go_at_call 45; refine cS'.out.mono ?_; rintro e w7 ⟨rfl, H7⟩)
        have H8 := Lib.hid H7
        go_roundg (s + j)
        case measure => omega
        case rel => exact ⟨s, j, _, hs1, h2, hs2, h4, rfl, by go_num, rfl, HR2, H8⟩
  case rest =>
  obtain ⟨i, L', rfl, rfl, h3, h4, HR, HS⟩ := hcut
  obtain ⟨P, X, Y, S, e1, e2, e3, e4, e5, e6⟩ := rot_eq HR.out
  have hw1 : IntKind.i64.wrap ((m : Int) - (i : Int)) = ((m - i : Nat) : Int) := by rw [IntKind.wrap_i64]; omega
  obtain ⟨p, hp⟩ : ∃ p, p = m - i := ⟨_, rfl⟩
  rw [← hp] at hw1 e2 e3
  have cS' := cS wc _ P X [] Y S p m i HS.out e1 e2 e3 e4 e5
  rw [e6] at cS'
  clear e1 e2 e3 e4 e5 e6 hp HR HS cS H0 HS0
  go_wp2_with (go_at_call 45; refine cS'.out.mono ?_; rintro e w7 ⟨rfl, H7⟩)
  go_end0
  exact ⟨rfl, H7⟩
end St
end Go.Proofs.Ytoibkjggfkkdhaa
