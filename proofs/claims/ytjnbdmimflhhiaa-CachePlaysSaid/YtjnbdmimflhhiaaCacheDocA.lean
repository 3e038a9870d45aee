/-
  CacheDoc CacheDoc2 CacheDoc3 CacheDoc4 CacheDoc5 CacheDoc6 CacheDoc7 CacheDoc8 CacheDoc9 CacheDoc10 CacheDoc11, in one text. Written by merge.py.
-/
import Derived.Test.YtjnbdmimflhhiaaCacheActs
import Derived.Test.YtjnbdmimflhhiaaDevRef2

namespace Go.Proofs.Ytjnbdmimflhhiaa
open Go.RowKit
namespace Ca
open Mem Dv Cn Po

/-- a frame's cells -/
def fcs (f : Fr) : List Value := [.int .u32 (f.1 : Int), .string (strOf f.2.1), .bool f.2.2.1, .int .i64 (f.2.2.2 : Int)]
theorem fcs_one (L : List Fr) : ∀ u ∈ L.flatMap fcs, u.oneCell' = true := by
  intro u hu
  rw [List.mem_flatMap] at hu
  obtain ⟨f, _, hu⟩ := hu
  simp only [fcs, List.mem_cons, List.not_mem_nil, or_false] at hu
  rcases hu with rfl | rfl | rfl | rfl <;> rfl
theorem fcs_len (L : List Fr) : (L.flatMap fcs).length = L.length * 4 := by
  induction L with
  | nil => rfl
  | cons f L ih => rw [List.flatMap_cons, List.length_append, ih]; simp [fcs]; omega
theorem fcs_at {L : List Fr} {i : Nat} {f : Fr} (h : L[i]? = some f) {j : Nat} (hj : j < 4) : (L.flatMap fcs)[i * 4 + j]? = (fcs f)[j]? := by
  induction L generalizing i with
  | nil => simp at h
  | cons x L ih =>
    rw [List.flatMap_cons]
    cases i with
    | zero =>
      obtain rfl : x = f := by simpa using h
      rw [Nat.zero_mul, Nat.zero_add, List.getElem?_append_left (by simpa [fcs] using hj)]
    | succ i =>
      rw [List.getElem?_append_right (by simp [fcs]; omega)]
      have : (i + 1) * 4 + j - (fcs x).length = i * 4 + j := by simp [fcs]; omega
      rw [this]
      exact ih (by simpa using h)
/-- a slice of frames (its row lies from block B on) that reads as L -/
def V4 (w : World) (B : Nat) (A : Option Addr) (c : Nat) (L : List Fr) : Prop := w.ownsRow B 94 4 (.slice A L.length c) L.length (L.flatMap fcs)
section
variable {w w' : World} {B c : Nat} {A : Option Addr} {L : List Fr}
theorem V4.nil (w : World) (B : Nat) : V4 w B none 0 [] := World.ownsRow_nil w B _ 4
theorem V4.at_ (h : V4 w B A c L) : ∀ a, A = some a → B ≤ a.block ∧ a.block < w.heap.size := by
  obtain ⟨_, h2⟩ := h
  rintro a rfl
  rcases h2 with ⟨h', _⟩ | ⟨g, cap, cur, he, hB, hh, _⟩
  · cases h'
  · obtain ⟨rfl, _⟩ : a = ⟨g, 0, none⟩ ∧ c = cap := by simpa using he
    exact ⟨hB, (Array.getElem?_eq_some_iff.1 hh).1⟩
theorem V4.keep (h : V4 w B A c L) (hk : ∀ a, A = some a → w'.heap[a.block]? = w.heap[a.block]?) : V4 w' B A c L := by
  obtain ⟨h1, h2⟩ := h
  refine ⟨h1, ?_⟩
  rcases h2 with h | ⟨g, cap, cur, he, hB, hh, hr⟩
  · exact .inl h
  · obtain ⟨rfl, rfl⟩ : A = some ⟨g, 0, none⟩ ∧ c = cap := by simpa using he
    exact .inr ⟨g, c, cur, rfl, hB, (hk _ rfl).trans hh, hr⟩
theorem V4.kept (h : V4 w B A c L) (hb : Below w.heap.size w w') : V4 w' B A c L := h.keep fun a ha => hb.block _ (h.at_ a ha).2
theorem V4.mono {B' : Nat} (h : V4 w B A c L) (hB' : B' ≤ B) : V4 w B' A c L := by
  obtain ⟨h1, h2⟩ := h
  refine ⟨h1, ?_⟩
  rcases h2 with h | ⟨g, cap, cur, he, hB, hr⟩
  · exact .inl h
  · exact .inr ⟨g, cap, cur, he, Nat.le_trans hB' hB, hr⟩
theorem V4.lit (w : World) (B : Nat) (hB : B ≤ w.heap.size) : V4 (w.alloc (.cells #[] 94)) B (some ⟨w.heap.size, 0, none⟩) 0 [] :=
  World.ownsRow_lit (base := B) (e := 94) (size := 4) w #[] 0 hB (Nat.zero_le _) (by simp)
theorem V4.cell (h : V4 w B A c L) {i : Nat} {f : Fr} (hf : L[i]? = some f) : ∃ g, A = some ⟨g, 0, none⟩ ∧ w.cell? ⟨g, i * 4, none⟩ = some (.int .u32 (f.1 : Int)) ∧ w.cell? ⟨g, i * 4 + 1, none⟩ = some (.string (strOf f.2.1)) ∧ w.cell? ⟨g, i * 4 + 2, none⟩ = some (.bool f.2.2.1) ∧ w.cell? ⟨g, i * 4 + 3, none⟩ = some (.int .i64 (f.2.2.2 : Int)) := by
  have hi := lt_of_get hf
  have h' := h
  obtain ⟨_, h2⟩ := h'
  rcases h2 with ⟨_, h'⟩ | ⟨g, cap, cur, he, _⟩
  · omega
  · obtain ⟨rfl, rfl⟩ : A = some ⟨g, 0, none⟩ ∧ c = cap := by simpa using he
    have hc : ∀ j, j < 4 → w.cell? ⟨g, i * 4 + j, none⟩ = (fcs f)[j]? := fun j hj => by
      rw [World.ownsRow.cellAt h (i * 4 + j) (by omega)]
      exact fcs_at hf hj
    exact ⟨g, rfl, by simpa [fcs] using hc 0 (by omega), by simpa [fcs] using hc 1 (by omega), by simpa [fcs] using hc 2 (by omega), by simpa [fcs] using hc 3 (by omega)⟩
end
/-- what an append of one frame leaves -/
structure Appd4 (B : Nat) (w w' : World) (A A' : Option Addr) (c' : Nat) (L : List Fr) : Prop where
  vo : V4 w' B A' c' L
  below : Below B w w'
theorem fr8info : (Try.prog.info? 94).map (fun i => (i.zero, i.size, i.bytes)) = some (some (.agg #[.int .u32 0, .string ⟨#[]⟩, .bool false, .int .i64 0]), 4, 40) := by kernel_rfl
theorem run_append4 (ty : TypeId) {w : World} {B : Nat} {A : Option Addr} {c : Nat} {L : List Fr} (h : V4 w B A c L) (xb cx : Nat) (f : Fr) (hx : w.heap[xb]? = some (.cells (fcs f).toArray 94 (0, 0))) (hn : L.length + 1 ≤ 1048576) (hB : B ≤ w.heap.size) :
    ∃ A' c' w', (Builtin.append_ #[36, 36] ty #[.slice A L.length c, .slice (some ⟨xb, 0, none⟩) 1 cx]).run Try.prog w = .ok (.slice A' (L.length + 1) c') w' ∧ Appd4 B w w' A A' c' (L ++ [f]) := by
  obtain ⟨i, hi, hz, hs1, hb1⟩ := info_parts fr8info
  obtain ⟨v', w', hrun, h2, h3, _, h5⟩ := run_append_own_at (P := Try.prog) w B 36 ty 94 i _ 4 40 Try.underlying36 hi hz hs1 hb1 rfl (by decide) (.slice A L.length c) L.length (L.flatMap fcs) h ⟨xb, 0, none⟩ 1 cx (fcs f) rfl (fun j u hj => by
    have hj4 : j < 4 := by
      rcases Nat.lt_or_ge j 4 with h' | h'
      · exact h'
      · rw [List.getElem?_eq_none (by simpa [fcs] using h')] at hj; cases hj
    have : (⟨xb, 0, none⟩ : Addr).add j = ⟨xb, j, none⟩ := by by_cases h0 : j = 0 <;> simp [Addr.add, h0]
    rw [this]
    simp only [World.cell?, hx]
    simpa using hj) (by
    have := fcs_one [f]
    simpa using this) (by unfold maxLen; omega) (by omega) hB
  have hv' : ∃ A' c', v' = .slice A' (L.length + 1) c' := by
    rcases h2.2 with ⟨_, h0⟩ | ⟨g, cap, cur, rfl, _⟩
    · omega
    · exact ⟨_, _, rfl⟩
  obtain ⟨A', c', rfl⟩ := hv'
  refine ⟨A', c', w', hrun, ⟨?_, (Below.refl _ _).grown h3 hB fun k hk => ?_⟩⟩
  · unfold V4
    rw [List.length_append, List.flatMap_append]
    simpa using h2
  · rcases A with _ | a
    · cases hk
    · obtain rfl : a.block = k := by simpa [Value.ownBlock] using hk
      exact (h.at_ _ rfl).1
/-- the same, as an arm of the walk -/
theorem wpList_append4 {w : World} {ops : Array Oper} {rest : List Oper} {o : Oper} {a : Go.Act} {Q : Exit → Go.Act → World → Prop} (hgd : o.guard = none) (s x : Operand)
    (ho : o.op = .call { callee := .builtin .append, args := #[s, x], argTypes := #[36, 36] })
    (B : Nat) (A : Option Addr) (n c : Nat) (L : List Fr) (hs : a.eval s = .slice A n c) (hvn : L.length = n) (h : V4 w B A c L) (xb cx : Nat) (f : Fr) (hx : a.eval x = .slice (some ⟨xb, 0, none⟩) 1 cx) (hu : w.heap[xb]? = some (.cells (fcs f).toArray 94 (0, 0))) (hn : n + 1 ≤ 1048576) (hB : B ≤ w.heap.size)
    (hh : ∀ A' c' w', Hid (Appd4 B w w' A A' c' (L ++ [f])) → wpList Try.prog ops Q rest (a.put o.dst (.slice A' (n + 1) c')) w') : wpList Try.prog ops Q (o :: rest) a w := by
  subst hvn
  refine wpList_plain hgd fun K hK => ?_
  obtain ⟨A', c', w', hrun, hd⟩ := run_append4 o.type h xb cx f hu hn hB
  unfold Oper.wp execOp
  simp only [ho, resolve, invoke, builtin, Sem.run_bind, Sem.run_pure, Result.andThen_ok, List.map_toArray, List.map_cons, List.map_nil, hs, hx, hrun]
  exact hK _ _ (hh A' c' w' hd)

/-- a slice of numbers that reads as R, by its type too -/
structure UT (w : World) (B : Option Addr) (R : List Nat) : Prop where
  ul : UL w B R
  ty : 0 < R.length → ∀ a, B = some a → ∃ C z, w.heap[a.block]? = some (.cells C 23 z)
theorem UT.kept {w w' : World} {B : Option Addr} {R : List Nat} (h : UT w B R) (hb : Below w.heap.size w w') : UT w' B R := by
  refine ⟨h.ul.kept hb, fun h0 a ha => ?_⟩
  obtain ⟨C, z, hc⟩ := h.ty h0 a ha
  exact ⟨C, z, (hb.block _ (Array.getElem?_eq_some_iff.1 hc).1).trans hc⟩
theorem UT.of_vo {w : World} {B c : Nat} {A : Option Addr} {l : List Nat} (h : VO 23 w B A c (l.map u32V)) : UT w A l := by
  refine ⟨UL.of_vo h, fun h0 a ha => ?_⟩
  obtain ⟨_, h2⟩ := h
  rcases h2 with ⟨_, h3⟩ | ⟨g, cap, cur, he, _, hh, _⟩
  · simp at h3
    subst h3
    simp at h0
  · subst ha
    obtain ⟨rfl, _⟩ : a = ⟨g, 0, none⟩ ∧ c = cap := by simpa using he
    exact ⟨_, _, hh⟩
theorem UT.nil (w : World) : UT w none [] := ⟨UL.nil w, fun h0 => absurd h0 (by simp)⟩
/-- the document's cache: the device (its blocks, what was read and written), the frames, how many there may be, the row -/
structure Dt where
  m : Nat
  ls : List (List UInt8)
  r : Nat
  s : Nat
  L : List Fr
  most : Nat
  row : List Nat
/-- its value -/
def dvV (t : Dt) (h hc : Nat) (A : Option Addr) (c : Nat) (B : Option Addr) (d : Nat) : Value :=
  .agg #[.int .i64 (t.m : Int), .slice (some ⟨h, 0, none⟩) t.ls.length hc, .int .i64 (t.r : Int), .int .i64 (t.s : Int), .slice A t.L.length c, .int .i64 (t.most : Int), .slice B t.row.length d]
/-- the lists that it names -/
structure DL (w : World) (t : Dt) (h hc : Nat) (A : Option Addr) (c : Nat) (B : Option Addr) : Prop where
  rf : Rf w h hc t.ls.length t.ls
  v4 : V4 w 0 A c t.L
  ul : UT w B t.row
  l0 : t.L.length ≤ 100
  r0 : t.row.length ≤ 100
theorem DL.kept {w w' : World} {t : Dt} {h hc c : Nat} {A B : Option Addr} (H : DL w t h hc A c B) (hb : Below w.heap.size w w') : DL w' t h hc A c B := ⟨H.rf.kept hb, H.v4.kept hb, H.ul.kept hb, H.l0, H.r0⟩
/-- a box of seven cells -/
theorem box7 {w : World} {b : Nat} {v0 v1 v2 v3 v4 v5 v6 : Value} {U : TypeId} (h : w.heap[b]? = some (.cells #[v0, v1, v2, v3, v4, v5, v6] U (0, 0))) : w.cell? ⟨b, 0, none⟩ = some v0 ∧ w.cell? ⟨b, 1, none⟩ = some v1 ∧ w.cell? ⟨b, 2, none⟩ = some v2 ∧ w.cell? ⟨b, 3, none⟩ = some v3 ∧ w.cell? ⟨b, 4, none⟩ = some v4 ∧ w.cell? ⟨b, 5, none⟩ = some v5 ∧ w.cell? ⟨b, 6, none⟩ = some v6 := by
  simp [World.cell?, h]
end Ca
end Go.Proofs.Ytjnbdmimflhhiaa

namespace Go.Proofs.Ytjnbdmimflhhiaa
open Go.RowKit
namespace Ca
open Mem Dv Cn Po

/-- the place of a block among the frames -/
def fk (L : List Fr) (b : Nat) : Option Nat := L.findIdx? fun f => f.1 == b
def fZ (L : List Fr) (b : Nat) : Int := match fk L b with
  | some k => (k : Int)
  | none => -1
theorem fk_at {L : List Fr} {b k : Nat} {f : Fr} (hf : L[k]? = some f) (hb : f.1 = b) (hn : ∀ j g, j < k → L[j]? = some g → g.1 ≠ b) : fk L b = some k := by
  unfold fk
  rw [List.findIdx?_eq_some_iff_getElem]
  have hk := lt_of_get hf
  refine ⟨hk, ?_, fun j hj => ?_⟩
  · rw [List.getElem?_eq_getElem hk] at hf
    obtain rfl := Option.some.inj hf
    simpa using hb
  · have := hn j L[j] hj (List.getElem?_eq_getElem (Nat.lt_trans hj hk))
    simpa using this
theorem fk_none_of {L : List Fr} {b : Nat} (hn : ∀ j g, j < L.length → L[j]? = some g → g.1 ≠ b) : fk L b = none := by
  unfold fk
  rw [List.findIdx?_eq_none_iff]
  intro x hx
  obtain ⟨j, hj⟩ := List.getElem?_of_mem hx
  have := hn j x (lt_of_get hj) hj
  simpa using this
theorem fk_some {L : List Fr} {b k : Nat} (h : fk L b = some k) : ∃ f, L[k]? = some f ∧ f.1 = b := by
  unfold fk at h
  rw [List.findIdx?_eq_some_iff_getElem] at h
  obtain ⟨hk, hb, _⟩ := h
  exact ⟨L[k], List.getElem?_eq_getElem hk, by simpa using hb⟩
set_option maxHeartbeats 1000000 in
set_option maxRecDepth 100000 in
theorem Find_any {W : World} {t : Dt} {h hc c d : Nat} {A B : Option Addr} (H : DL W t h hc A c B) (b : Nat) : Calls Try.prog 50 #[dvV t h hc A c B d, .int .u32 (b : Int)] W fun e w' => e = .returned (.int .i64 (fZ t.L b)) ∧ Below W.heap.size W w' := by
  unfold dvV
  obtain ⟨N, hN⟩ : ∃ N, N = t.L.length := ⟨_, rfl⟩
  have HH := Lib.hid H
  have HN := Lib.hid hN
  rw [← hN]
  have hN100 : N ≤ 100 := by rw [hN]; exact H.l0
  clear H hN
  generalize t.ls.length = nl
  generalize t.row.length = nr
  generalize (t.m : Int) = zm
  generalize (t.r : Int) = zr
  generalize (t.s : Int) = zs
  generalize (t.most : Int) = zo
  go_enter Try.func50, Try.ntmps50
  go_upto_region 1 with fail
  have hx := heap_alloc_new W (.cells #[.int .i64 zm, .slice (some ⟨h, 0, none⟩) nl hc, .int .i64 zr, .int .i64 zs, .slice A N c, .int .i64 zo, .slice B nr d] 39)
  have hb0 : Below W.heap.size W (W.alloc (.cells #[.int .i64 zm, .slice (some ⟨h, 0, none⟩) nl hc, .int .i64 zr, .int .i64 zs, .slice A N c, .int .i64 zo, .slice B nr d] 39)) := (Below.refl _ _).alloc (Nat.le_refl _) _
  generalize W.alloc (.cells #[.int .i64 zm, .slice (some ⟨h, 0, none⟩) nl hc, .int .i64 zr, .int .i64 zs, .slice A N c, .int .i64 zo, .slice B nr d] 39) = w1 at *
  obtain ⟨-, -, -, -, c4, -, -⟩ := box7 hx
  have HB := Lib.hid hb0
  have H1 := Lib.hid (HH.out.v4.kept hb0)
  clear hx hb0 HH
  go_wp2_with fail
  go_loopg [5] N (fun gk iv wr => ∃ k : Nat, k ≤ N ∧ gk = N - k ∧ iv = .int .i64 (k : Int) ∧ wr = w1 ∧ Hid (∀ (j : Nat) (g : Fr), j < k → t.L[j]? = some g → g.1 ≠ b))
  case atStart => exact ⟨0, Nat.zero_le _, rfl, rfl, rfl, fun j g hj => by omega⟩
  case round =>
    obtain ⟨k, hk, rfl, rfl, rfl, HE⟩ := hrel
    by_cases hlt : k < N
    · have hkL : k < t.L.length := by rw [← HN.out]; exact hlt
      have hf : t.L[k]? = some t.L[k] := List.getElem?_eq_getElem hkL
      obtain ⟨f, hff⟩ : ∃ f, f = t.L[k] := ⟨_, rfl⟩
      rw [← hff] at hf
      obtain ⟨g, rfl, e0, -⟩ := H1.out.cell hf
      have hwk : IntKind.i64.wrap ((k : Int) + 1) = ((k + 1 : Nat) : Int) := by rw [IntKind.wrap_i64]; omega
      have HF := Lib.hid hf
      clear hff hf
      by_cases hb : f.1 = b
      · have hz : Hid (fZ t.L b = (k : Int)) := by
          unfold Hid fZ
          rw [fk_at HF.out hb HE.out]
        have hq : ((f.1 : Int) == (b : Int)) = true := by simp; omega
        go_wp2_with fail
        go_ret
        exact ⟨by rw [hz.out]; rfl, HB.out⟩
      · have hq : ((f.1 : Int) == (b : Int)) = false := by simp; omega
        have HE2 : Hid (∀ (j : Nat) (g : Fr), j < k + 1 → t.L[j]? = some g → g.1 ≠ b) := fun j g' hj hg => by
          by_cases e : j = k
          · subst e
            rw [HF.out] at hg
            obtain rfl := Option.some.inj hg
            exact hb
          · exact HE.out j g' (by omega) hg
        go_wp2_with fail
        go_roundg (N - (k + 1))
        case measure => omega
        case rel => exact ⟨k + 1, hlt, rfl, by go_num, rfl, HE2⟩
    · obtain rfl : k = N := by omega
      have hz : Hid (fZ t.L b = -1) := by
        unfold Hid fZ
        rw [fk_none_of fun j g hj hg => HE.out j g (by rw [HN.out]; exact hj) hg]
      clear hlt
      go_wp2_with fail
      go_ret
      exact ⟨by rw [hz.out]; rfl, HB.out⟩
end Ca
end Go.Proofs.Ytjnbdmimflhhiaa

namespace Go.Proofs.Ytjnbdmimflhhiaa
open Go.RowKit
namespace Ca
open Mem Dv Cn Po

/-- the frames but for a block's -/
def goneD (L : List Fr) (b : Nat) : List Fr := L.filter fun f => !decide (f.1 = b)
theorem goneD_take (L : List Fr) (b : Nat) {k : Nat} {f : Fr} (hf : L[k]? = some f) : goneD (L.take (k + 1)) b = goneD (L.take k) b ++ (if f.1 = b then [] else [f]) := by
  have hk := lt_of_get hf
  rw [List.getElem?_eq_getElem hk] at hf
  obtain rfl := Option.some.inj hf
  unfold goneD
  rw [List.take_succ_eq_append_getElem hk, List.filter_append]
  congr 1
  by_cases h : (L[k]).1 = b <;> simp [h]
theorem goneD_le (L : List Fr) (b : Nat) : (goneD L b).length ≤ L.length := List.length_filter_le _ _
/-- seven cells stored -/
def set7 (w : World) (b : Nat) (v0 v1 v2 v3 v4 v5 v6 : Value) : World := ((((((w.setCell ⟨b, 0, none⟩ v0).setCell ⟨b, 1, none⟩ v1).setCell ⟨b, 2, none⟩ v2).setCell ⟨b, 3, none⟩ v3).setCell ⟨b, 4, none⟩ v4).setCell ⟨b, 5, none⟩ v5).setCell ⟨b, 6, none⟩ v6
theorem set7_at {w : World} {b : Nat} {u0 u1 u2 u3 u4 u5 u6 : Value} {U : TypeId} (h : w.heap[b]? = some (.cells #[u0, u1, u2, u3, u4, u5, u6] U (0, 0))) (v0 v1 v2 v3 v4 v5 v6 : Value) : (set7 w b v0 v1 v2 v3 v4 v5 v6).heap[b]? = some (.cells #[v0, v1, v2, v3, v4, v5, v6] U (0, 0)) := by
  unfold set7
  simp [World.setCell, Array.getElem?_modify, h]
theorem set7_into (w : World) (b : Nat) (v0 v1 v2 v3 v4 v5 v6 : Value) : Flow.Into [b] w (set7 w b v0 v1 v2 v3 v4 v5 v6) :=
  ((((((into_setCell w ⟨b, 0, none⟩ v0).trans (into_setCell _ ⟨b, 1, none⟩ v1)).trans (into_setCell _ ⟨b, 2, none⟩ v2)).trans (into_setCell _ ⟨b, 3, none⟩ v3)).trans (into_setCell _ ⟨b, 4, none⟩ v4)).trans (into_setCell _ ⟨b, 5, none⟩ v5)).trans (into_setCell _ ⟨b, 6, none⟩ v6)
theorem free7 {w : World} {b : Nat} {C : Array Value} {U : TypeId} (h : w.heap[b]? = some (.cells C U (0, 0))) (i : Nat) : w.frozen? ⟨b, i, none⟩ = false := by
  simp [World.frozen?, h]
theorem below_in {B b : Nat} {w w' : World} (h : Flow.Into [b] w w') (hb : B ≤ b) (hB : B ≤ w.heap.size) : Below B w w' := below_of_into h (fun x hx => by
  obtain rfl : x = b := by simpa using hx
  exact hb) hB
theorem V4.into {w w' : World} {B c : Nat} {A : Option Addr} {L : List Fr} {T : List Nat} (h : V4 w B A c L) (hi : Flow.Into T w w') (hn : ∀ a, A = some a → a.block ∉ T) : V4 w' B A c L := h.keep fun a ha => hi.block _ (h.at_ a ha).2 (hn a ha)
theorem three_allocs (W : World) (o1 o2 o3 : Obj) : Below W.heap.size W (((W.alloc o1).alloc o2).alloc o3) ∧ (((W.alloc o1).alloc o2).alloc o3).heap[W.heap.size]? = some o1 ∧ (((W.alloc o1).alloc o2).alloc o3).heap[W.heap.size + 1]? = some o2 ∧ (((W.alloc o1).alloc o2).alloc o3).heap.size = W.heap.size + 1 + 1 + 1 := by
  have s1 : (W.alloc o1).heap.size = W.heap.size + 1 := by simp
  have s2 : ((W.alloc o1).alloc o2).heap.size = W.heap.size + 1 + 1 := by simp
  refine ⟨(((Below.refl _ _).alloc (Nat.le_refl _) _).alloc (by omega) _).alloc (by omega) _, ?_, ?_, by simp⟩
  · rw [Below.heap_alloc _ _ _ (by omega), Below.heap_alloc _ _ _ (by omega)]
    exact heap_alloc_new W o1
  · rw [Below.heap_alloc _ _ _ (by omega)]
    have := heap_alloc_new (W.alloc o1) o2
    rwa [s1] at this
set_option maxRecDepth 100000 in
set_option maxHeartbeats 2000000 in
theorem gone_any {W : World} {t : Dt} {h hc c d : Nat} {A B : Option Addr} (H : DL W t h hc A c B) (b : Nat) : Calls Try.prog 77 #[dvV t h hc A c B d, .int .u32 (b : Int)] W fun e w' => (∃ A' c', e = .returned (dvV { t with L := goneD t.L b } h hc A' c' B d) ∧ V4 w' W.heap.size A' c' (goneD t.L b)) ∧ Below W.heap.size W w' := by
  unfold dvV
  obtain ⟨N, hN⟩ : ∃ N, N = t.L.length := ⟨_, rfl⟩
  have HV := Lib.hid H.v4
  have HN := Lib.hid hN
  have hN100 : N ≤ 100 := by rw [hN]; exact H.l0
  simp only
  rw [← hN]
  clear H hN
  generalize t.ls.length = nl
  generalize t.row.length = nr
  generalize (t.m : Int) = zm
  generalize (t.r : Int) = zr
  generalize (t.s : Int) = zs
  generalize (t.most : Int) = zo
  generalize t.L = L at *
  go_enter Try.func77, Try.ntmps77
  go_upto_region 2 with fail
  obtain ⟨hb3, hx0, hx1, hs3⟩ := three_allocs W (.cells #[.int .i64 zm, .slice (some ⟨h, 0, none⟩) nl hc, .int .i64 zr, .int .i64 zs, .slice A N c, .int .i64 zo, .slice B nr d] 39) (.cells #[.int .i64 0, .slice none 0 0, .int .i64 0, .int .i64 0, .slice none 0 0, .int .i64 0, .slice none 0 0] 39) (.cells #[] 94)
  have hv3 : V4 (((W.alloc (.cells #[.int .i64 zm, .slice (some ⟨h, 0, none⟩) nl hc, .int .i64 zr, .int .i64 zs, .slice A N c, .int .i64 zo, .slice B nr d] 39)).alloc (.cells #[.int .i64 0, .slice none 0 0, .int .i64 0, .int .i64 0, .slice none 0 0, .int .i64 0, .slice none 0 0] 39)).alloc (.cells #[] 94)) (W.heap.size + 2) (some ⟨W.heap.size + 1 + 1, 0, none⟩) 0 [] := by
    have := V4.lit ((W.alloc (.cells #[.int .i64 zm, .slice (some ⟨h, 0, none⟩) nl hc, .int .i64 zr, .int .i64 zs, .slice A N c, .int .i64 zo, .slice B nr d] 39)).alloc (.cells #[.int .i64 0, .slice none 0 0, .int .i64 0, .int .i64 0, .slice none 0 0, .int .i64 0, .slice none 0 0] 39)) (W.heap.size + 2) (by simp)
    simpa using this
  generalize ((W.alloc (.cells #[.int .i64 zm, .slice (some ⟨h, 0, none⟩) nl hc, .int .i64 zr, .int .i64 zs, .slice A N c, .int .i64 zo, .slice B nr d] 39)).alloc (.cells #[.int .i64 0, .slice none 0 0, .int .i64 0, .int .i64 0, .slice none 0 0, .int .i64 0, .slice none 0 0] 39)).alloc (.cells #[] 94) = w3 at *
  obtain ⟨b0, hb0⟩ : ∃ b0, b0 = W.heap.size := ⟨_, rfl⟩
  rw [← hb0] at hx0 hx1 hs3 hv3 ⊢
  have HB3 := Lib.hid hb3
  have HX := Lib.hid (And.intro hx0 (And.intro hx1 hs3))
  have HV3 := Lib.hid hv3
  have HB0 := Lib.hid hb0
  clear hb3 hx0 hx1 hs3 hv3 hb0
  go_wp2_with fail
  go_loopg [5, 6] N (fun gk bv iv wr => ∃ (k m c' : Nat) (A' : Option Addr), k ≤ N ∧ gk = N - k ∧ iv = .int .i64 (k : Int) ∧ bv = .slice A' m c' ∧ m ≤ k ∧ Hid ((goneD (L.take k) b).length = m) ∧ Hid (V4 wr (b0 + 2) A' c' (goneD (L.take k) b)) ∧ Hid (Below (b0 + 2) w3 wr))
  case atStart => exact ⟨0, 0, 0, _, Nat.zero_le _, rfl, rfl, rfl, Nat.le_refl _, rfl, HV3, Below.refl _ _⟩
  case round =>
    obtain ⟨k, m, c', A', hk, rfl, rfl, rfl, hm, HM, HV', HB⟩ := hrel
    clear HV3
    have hs3 := HX.out.2.2
    have hx0 := (HB.out.block b0 (by omega)).trans HX.out.1
    have hx1 := (HB.out.block (b0 + 1) (by omega)).trans HX.out.2.1
    obtain ⟨c0, c1, c2, c3, c4, c5, c6⟩ := box7 hx0
    by_cases hlt : k < N
    · have hkL : k < L.length := by rw [← HN.out]; exact hlt
      have hf : L[k]? = some L[k] := List.getElem?_eq_getElem hkL
      obtain ⟨f, hff⟩ : ∃ f, f = L[k] := ⟨_, rfl⟩
      rw [← hff] at hf
      have hbW : Below W.heap.size W wr := by
        refine HB3.out.trans (HB.out.mono ?_)
        have := HB0.out
        omega
      obtain ⟨g, rfl, e0, e1, e2, e3⟩ := (HV.out.kept hbW).cell hf
      have hwk : IntKind.i64.wrap ((k : Int) + 1) = ((k + 1 : Nat) : Int) := by rw [IntKind.wrap_i64]; omega
      have hstep := goneD_take L b hf
      have HF := Lib.hid hf
      clear hff hf hx0 hx1 c0 c1 c2 c3 c5 c6
      by_cases hb : f.1 = b
      · rw [if_pos hb, List.append_nil] at hstep
        have HS := Lib.hid hstep
        have hq : ((f.1 : Int) == (b : Int)) = true := by simp; omega
        have hq2 : ((f.1 : Int) != (b : Int)) = false := by simp; omega
        clear hstep hb hbW e1 e2 e3
        go_wp2_with fail
        go_roundg (N - (k + 1))
        case measure => omega
        case rel => exact ⟨k + 1, m, c', A', hlt, rfl, by go_num, rfl, by omega, by unfold Hid; rw [HS.out]; exact HM.out, by unfold Hid; rw [HS.out]; exact HV'.out, HB⟩
      · rw [if_neg hb] at hstep
        have HS := Lib.hid hstep
        have hq : ((f.1 : Int) == (b : Int)) = false := by simp; omega
        have hq2 : ((f.1 : Int) != (b : Int)) = true := by simp; omega
        have hX : Below wr.heap.size wr (wr.alloc (.cells #[.int .u32 (f.1 : Int), .string (strOf f.2.1), .bool f.2.2.1, .int .i64 (f.2.2.2 : Int)] 94)) := (Below.refl _ _).alloc (Nat.le_refl _) _
        have hcl : Hid ((wr.alloc (.cells #[.int .u32 (f.1 : Int), .string (strOf f.2.1), .bool f.2.2.1, .int .i64 (f.2.2.2 : Int)] 94)).heap[wr.heap.size]? = some (.cells (fcs f).toArray 94 (0, 0))) := heap_alloc_new wr _
        have HVX : Hid (V4 (wr.alloc (.cells #[.int .u32 (f.1 : Int), .string (strOf f.2.1), .bool f.2.2.1, .int .i64 (f.2.2.2 : Int)] 94)) (b0 + 2) A' c' (goneD (L.take k) b)) := HV'.out.kept hX
        have hm65 : m + 1 ≤ 1048576 := by omega
        have hwr3 : b0 + 2 ≤ wr.heap.size := by have := HB.out.size; omega
        have hBx : b0 + 2 ≤ (wr.alloc (.cells #[.int .u32 (f.1 : Int), .string (strOf f.2.1), .bool f.2.2.1, .int .i64 (f.2.2.2 : Int)] 94)).heap.size := Nat.le_trans hwr3 hX.size
        have HX2 := Lib.hid (hX.mono hwr3)
        clear hstep hb hbW hX hwr3
        go_wp2_with (with_reducible refine wpList_append4 rfl (.tmp 23) (.tmp 29) rfl (b0 + 2) A' m c' (goneD (L.take k) b) rfl HM.out HVX.out wr.heap.size 1 f rfl hcl.out hm65 hBx ?_; intro A2 c2' w4 hd)
        go_roundg (N - (k + 1))
        case measure => omega
        case rel =>
          refine ⟨k + 1, m + 1, c2', A2, hlt, rfl, by go_num, rfl, by omega, ?_, ?_, ?_⟩
          · unfold Hid; rw [HS.out, List.length_append, HM.out]; rfl
          · unfold Hid; rw [HS.out]; exact hd.out.vo
          · exact (HB.out.trans HX2.out).trans hd.out.below
    · obtain rfl : k = N := by omega
      clear hlt
      have e : L.take k = L := List.take_of_length_le (by rw [← HN.out]; exact Nat.le_refl _)
      rw [e] at HM HV'
      have hlen : (goneD L b).length = m := HM.out
      have k0 := free7 hx0
      have k1 := free7 hx1
      obtain ⟨u0, u1, u2, u3, u4, u5, u6⟩ := box7 hx1
      have hhn := HX.out.2.2
      go_upto_region 8 with fail
      have HY0 : Hid ((wr.setCell ⟨b0, 4, none⟩ (.slice A' m c')).heap[b0]? = some (.cells #[.int .i64 zm, .slice (some ⟨h, 0, none⟩) nl hc, .int .i64 zr, .int .i64 zs, .slice A' m c', .int .i64 zo, .slice B nr d] 39 (0, 0))) := by
        unfold Hid
        simp [World.setCell, Array.getElem?_modify, hx0]
      have HY1 : Hid ((wr.setCell ⟨b0, 4, none⟩ (.slice A' m c')).heap[b0 + 1]? = some (.cells #[.int .i64 0, .slice none 0 0, .int .i64 0, .int .i64 0, .slice none 0 0, .int .i64 0, .slice none 0 0] 39 (0, 0))) := (Below.heap_setCell _ _ _ _ (by simp)).trans hx1
      have HVY : Hid (V4 (wr.setCell ⟨b0, 4, none⟩ (.slice A' m c')) (b0 + 2) A' c' (goneD L b)) := HV'.out.into (into_setCell wr ⟨b0, 4, none⟩ _) (fun a ha => by
        have := (HV'.out.at_ a ha).1
        simp; omega)
      have HBY : Hid (Below b0 W (wr.setCell ⟨b0, 4, none⟩ (.slice A' m c'))) := ((by rw [HB0.out]; exact HB3.out : Below b0 W w3).trans (HB.out.mono (by omega))).setCell (Nat.le_refl _) _
      clear hx0 hx1 c0 c1 c2 c3 c4 c5 c6 u0 u1 u2 u3 u4 u5 u6 k0 k1 HV' HB
      generalize wr.setCell ⟨b0, 4, none⟩ (.slice A' m c') = w5 at *
      obtain ⟨c0, c1, c2, c3, c4, c5, c6⟩ := box7 HY0.out
      obtain ⟨u0, u1, u2, u3, u4, u5, u6⟩ := box7 HY1.out
      have f0 := free7 HY1.out 0
      have f1 := free7 HY1.out 1
      have f2 := free7 HY1.out 2
      have f3 := free7 HY1.out 3
      have f4 := free7 HY1.out 4
      have f5 := free7 HY1.out 5
      have f6 := free7 HY1.out 6
      go_wp2_with fail
      have g7 := set7_at HY1.out (.int .i64 zm) (.slice (some ⟨h, 0, none⟩) nl hc) (.int .i64 zr) (.int .i64 zs) (.slice A' m c') (.int .i64 zo) (.slice B nr d)
      have i7 := set7_into w5 (b0 + 1) (.int .i64 zm) (.slice (some ⟨h, 0, none⟩) nl hc) (.int .i64 zr) (.int .i64 zs) (.slice A' m c') (.int .i64 zo) (.slice B nr d)
      unfold set7 at g7 i7
      generalize ((((((w5.setCell ⟨b0 + 1, 0, none⟩ (.int .i64 zm)).setCell ⟨b0 + 1, 1, none⟩ (.slice (some ⟨h, 0, none⟩) nl hc)).setCell ⟨b0 + 1, 2, none⟩ (.int .i64 zr)).setCell ⟨b0 + 1, 3, none⟩ (.int .i64 zs)).setCell ⟨b0 + 1, 4, none⟩ (.slice A' m c')).setCell ⟨b0 + 1, 5, none⟩ (.int .i64 zo)).setCell ⟨b0 + 1, 6, none⟩ (.slice B nr d) = w7 at *
      obtain ⟨d0, d1, d2, d3, d4, d5, d6⟩ := box7 g7
      have hb7 : Below W.heap.size W w7 := by
        rw [← HB0.out]
        exact HBY.out.trans (below_in i7 (by omega) (by have := (Array.getElem?_eq_some_iff.1 HY1.out).1; omega))
      have hv7 : V4 w7 W.heap.size A' c' (goneD L b) := by
        rw [← HB0.out]
        exact (HVY.out.into i7 (fun a ha => by
          have := (HVY.out.at_ a ha).1
          simp; omega)).mono (by omega)
      refine bodyPost_ret (v := .agg #[.int .i64 zm, .slice (some ⟨h, 0, none⟩) nl hc, .int .i64 zr, .int .i64 zs, .slice A' m c', .int .i64 zo, .slice B nr d]) (by simp [results, Try.results77, go_sem, d0, d1, d2, d3, d4, d5, d6]) rfl ⟨⟨A', c', ?_, hv7⟩, hb7⟩
      rw [HM.out]
end Ca
end Go.Proofs.Ytjnbdmimflhhiaa

namespace Go.Proofs.Ytjnbdmimflhhiaa
open Go.RowKit
namespace Ca
open Mem Dv Cn Po

/-- the frames with one more, instead of the one of its block -/
def withD (L : List Fr) (f : Fr) : List Fr := goneD L f.1 ++ [f]
def frV (f : Fr) : Value := .agg #[.int .u32 (f.1 : Int), .string (strOf f.2.1), .bool f.2.2.1, .int .i64 (f.2.2.2 : Int)]
/-- a box of four cells -/
theorem boxf {w : World} {b : Nat} {v0 v1 v2 v3 : Value} {U : TypeId} (h : w.heap[b]? = some (.cells #[v0, v1, v2, v3] U (0, 0))) : w.cell? ⟨b, 0, none⟩ = some v0 ∧ w.cell? ⟨b, 1, none⟩ = some v1 ∧ w.cell? ⟨b, 2, none⟩ = some v2 ∧ w.cell? ⟨b, 3, none⟩ = some v3 := by
  simp [World.cell?, h]
theorem three_allocs2 (W : World) (o1 o2 o3 : Obj) : (((W.alloc o1).alloc o2).alloc o3).heap[W.heap.size + 1 + 1]? = some o3 := by
  have s2 : ((W.alloc o1).alloc o2).heap.size = W.heap.size + 1 + 1 := by simp
  rw [← s2]
  exact heap_alloc_new _ o3
set_option maxRecDepth 100000 in
set_option maxHeartbeats 2000000 in
theorem with_any {W : World} {t : Dt} {h hc c d : Nat} {A B : Option Addr} (H : DL W t h hc A c B) (f : Fr) : Calls Try.prog 74 #[dvV t h hc A c B d, frV f] W fun e w' => (∃ A' c', e = .returned (dvV { t with L := withD t.L f } h hc A' c' B d) ∧ V4 w' W.heap.size A' c' (withD t.L f)) ∧ Below W.heap.size W w' := by
  have hl0 := H.l0
  have cG := fun w (hb : Below W.heap.size W w) => Lib.hid (gone_any (H.kept hb) f.1 (d := d))
  have hgl := goneD_le t.L f.1
  obtain ⟨N, hN⟩ : ∃ N, N = t.L.length := ⟨_, rfl⟩
  obtain ⟨M, hM⟩ : ∃ M, M = (goneD t.L f.1).length := ⟨_, rfl⟩
  have hwl : (withD t.L f).length = M + 1 := by unfold withD; rw [List.length_append, ← hM]; rfl
  have HM := Lib.hid hM
  unfold dvV at cG ⊢
  simp only at cG ⊢
  rw [hwl]
  rw [← hM] at hgl
  simp only [← hM, ← hN] at cG
  rw [← hN] at hl0 hgl ⊢
  have hm1 : M + 1 ≤ 1048576 := by omega
  clear H hN hM hwl
  unfold frV
  generalize t.ls.length = nl at *
  generalize t.row.length = nr at *
  generalize (t.m : Int) = zm at *
  generalize (t.r : Int) = zr at *
  generalize (t.s : Int) = zs at *
  generalize (t.most : Int) = zo at *
  go_enter Try.func74, Try.ntmps74
  go_upto_region 1 with fail
  obtain ⟨hb3, hx0, hx1, hs3⟩ := three_allocs W (.cells #[.int .i64 zm, .slice (some ⟨h, 0, none⟩) nl hc, .int .i64 zr, .int .i64 zs, .slice A N c, .int .i64 zo, .slice B nr d] 39) (.cells #[.int .u32 (f.1 : Int), .string (strOf f.2.1), .bool f.2.2.1, .int .i64 (f.2.2.2 : Int)] 94) (.cells #[.int .i64 0, .slice none 0 0, .int .i64 0, .int .i64 0, .slice none 0 0, .int .i64 0, .slice none 0 0] 39)
  have hx2 := three_allocs2 W (.cells #[.int .i64 zm, .slice (some ⟨h, 0, none⟩) nl hc, .int .i64 zr, .int .i64 zs, .slice A N c, .int .i64 zo, .slice B nr d] 39) (.cells #[.int .u32 (f.1 : Int), .string (strOf f.2.1), .bool f.2.2.1, .int .i64 (f.2.2.2 : Int)] 94) (.cells #[.int .i64 0, .slice none 0 0, .int .i64 0, .int .i64 0, .slice none 0 0, .int .i64 0, .slice none 0 0] 39)
  generalize ((W.alloc (.cells #[.int .i64 zm, .slice (some ⟨h, 0, none⟩) nl hc, .int .i64 zr, .int .i64 zs, .slice A N c, .int .i64 zo, .slice B nr d] 39)).alloc (.cells #[.int .u32 (f.1 : Int), .string (strOf f.2.1), .bool f.2.2.1, .int .i64 (f.2.2.2 : Int)] 94)).alloc (.cells #[.int .i64 0, .slice none 0 0, .int .i64 0, .int .i64 0, .slice none 0 0, .int .i64 0, .slice none 0 0] 39) = w3 at *
  have c1 := cG w3 hb3
  clear cG
  obtain ⟨b0, hb0⟩ : ∃ b0, b0 = W.heap.size := ⟨_, rfl⟩
  rw [← hb0] at hx0 hx1 hx2 hs3 ⊢
  have HB3 := Lib.hid hb3
  have HX := Lib.hid (And.intro hx0 (And.intro hx1 (And.intro hx2 hs3)))
  have HB0 := Lib.hid hb0
  obtain ⟨q0, q1, q2, q3, q4, q5, q6⟩ := box7 hx0
  obtain ⟨r0, r1, r2, r3⟩ := boxf hx1
  clear hb3 hx0 hx1 hx2 hs3 hb0
  go_wp2_with fail
  refine c1.out.mono ?_
  rintro e w4 ⟨⟨A', c', rfl, hv4⟩, hb4⟩
  have HS : Hid (w3.heap.size = b0 + 1 + 1 + 1) := HX.out.2.2.2
  have y0 := (hb4.block b0 (by rw [HS.out]; omega)).trans HX.out.1
  have y1 := (hb4.block (b0 + 1) (by rw [HS.out]; omega)).trans HX.out.2.1
  have y2 := (hb4.block (b0 + 1 + 1) (by rw [HS.out]; omega)).trans HX.out.2.2.1
  have HV4 := Lib.hid hv4
  have HB4 := Lib.hid hb4
  clear q0 q1 q2 q3 q4 q5 q6 r0 r1 r2 r3 hv4 hb4 c1 HX
  obtain ⟨q0, q1, q2, q3, q4, q5, q6⟩ := box7 y0
  have f0 := free7 y0 0
  have f1 := free7 y0 1
  have f2 := free7 y0 2
  have f3 := free7 y0 3
  have f4 := free7 y0 4
  have f5 := free7 y0 5
  have f6 := free7 y0 6
  go_upto_region 2 with fail
  have g5 := set7_at y0 (.int .i64 zm) (.slice (some ⟨h, 0, none⟩) nl hc) (.int .i64 zr) (.int .i64 zs) (.slice A' M c') (.int .i64 zo) (.slice B nr d)
  have i5 := set7_into w4 b0 (.int .i64 zm) (.slice (some ⟨h, 0, none⟩) nl hc) (.int .i64 zr) (.int .i64 zs) (.slice A' M c') (.int .i64 zo) (.slice B nr d)
  unfold set7 at g5 i5
  clear q0 q1 q2 q3 q4 q5 q6 f0 f1 f2 f3 f4 f5 f6
  generalize ((((((w4.setCell ⟨b0, 0, none⟩ (.int .i64 zm)).setCell ⟨b0, 1, none⟩ (.slice (some ⟨h, 0, none⟩) nl hc)).setCell ⟨b0, 2, none⟩ (.int .i64 zr)).setCell ⟨b0, 3, none⟩ (.int .i64 zs)).setCell ⟨b0, 4, none⟩ (.slice A' M c')).setCell ⟨b0, 5, none⟩ (.int .i64 zo)).setCell ⟨b0, 6, none⟩ (.slice B nr d) = w5 at *
  have z1 := (i5.block (b0 + 1) (Array.getElem?_eq_some_iff.1 y1).1 (by simp)).trans y1
  have z2 := (i5.block (b0 + 1 + 1) (Array.getElem?_eq_some_iff.1 y2).1 (by simp; omega)).trans y2
  have hv5 : V4 w5 (b0 + 3) A' c' (goneD t.L f.1) := by
    have hv := HV4.out
    rw [HS.out] at hv
    exact hv.into i5 (fun a ha => by
      have := (hv.at_ a ha).1
      simp; omega)
  have hb5 : Below b0 W w5 := by
    have h3 : Below b0 W w3 := by rw [HB0.out]; exact HB3.out
    have h4 : Below b0 W w4 := h3.trans (HB4.out.mono (by rw [HS.out]; omega))
    exact h4.trans (below_in i5 (Nat.le_refl _) (Nat.le_of_lt (Array.getElem?_eq_some_iff.1 y0).1))
  have HG := Lib.hid (And.intro g5 (And.intro z1 z2))
  have HV5 := Lib.hid hv5
  have HB5 := Lib.hid hb5
  have hsz : b0 + 3 ≤ w5.heap.size := (Array.getElem?_eq_some_iff.1 z2).1
  obtain ⟨-, -, -, -, q4, -, -⟩ := box7 g5
  obtain ⟨r0, r1, r2, r3⟩ := boxf z1
  have hX : Below w5.heap.size w5 (w5.alloc (.cells #[.int .u32 (f.1 : Int), .string (strOf f.2.1), .bool f.2.2.1, .int .i64 (f.2.2.2 : Int)] 94)) := (Below.refl _ _).alloc (Nat.le_refl _) _
  have hcl : Hid ((w5.alloc (.cells #[.int .u32 (f.1 : Int), .string (strOf f.2.1), .bool f.2.2.1, .int .i64 (f.2.2.2 : Int)] 94)).heap[w5.heap.size]? = some (.cells (fcs f).toArray 94 (0, 0))) := heap_alloc_new w5 _
  have HVX : Hid (V4 (w5.alloc (.cells #[.int .u32 (f.1 : Int), .string (strOf f.2.1), .bool f.2.2.1, .int .i64 (f.2.2.2 : Int)] 94)) (b0 + 3) A' c' (goneD t.L f.1)) := HV5.out.kept hX
  have hBx : b0 + 3 ≤ (w5.alloc (.cells #[.int .u32 (f.1 : Int), .string (strOf f.2.1), .bool f.2.2.1, .int .i64 (f.2.2.2 : Int)] 94)).heap.size := Nat.le_trans hsz hX.size
  have HX2 := Lib.hid (hX.mono hsz)
  have HM2 : Hid ((goneD t.L f.1).length = M) := HM.out.symm
  clear g5 i5 z1 z2 hv5 hb5 hX hsz y0 y1 y2 HV4 HB4 HV5 HB3 HM
  have hq5 : b0 < w5.heap.size := (Array.getElem?_eq_some_iff.1 HG.out.1).1
  go_upto_region 3 with (with_reducible refine wpList_append4 rfl (.tmp 10) (.tmp 12) rfl (b0 + 3) A' M c' (goneD t.L f.1) rfl HM2.out HVX.out w5.heap.size 1 f rfl hcl.out hm1 hBx ?_; intro A2 c2 w6 hd; have k0 := (HX2.out.trans hd.out.below).block b0 (by omega); have l4 := (box7 (k0.trans HG.out.1)).2.2.2.2.1; have m4 := free7 (k0.trans HG.out.1) 4)
  have hbx : Below (b0 + 3) w5 w6 := HX2.out.trans hd.out.below
  have k2 := hbx.block (b0 + 1 + 1) (by omega)
  have HY0 : Hid ((w6.setCell ⟨b0, 4, none⟩ (.slice A2 (M + 1) c2)).heap[b0]? = some (.cells #[.int .i64 zm, .slice (some ⟨h, 0, none⟩) nl hc, .int .i64 zr, .int .i64 zs, .slice A2 (M + 1) c2, .int .i64 zo, .slice B nr d] 39 (0, 0))) := by
    have := k0.trans HG.out.1
    unfold Hid
    simp [World.setCell, Array.getElem?_modify, this]
  have HY2 : Hid ((w6.setCell ⟨b0, 4, none⟩ (.slice A2 (M + 1) c2)).heap[b0 + 1 + 1]? = some (.cells #[.int .i64 0, .slice none 0 0, .int .i64 0, .int .i64 0, .slice none 0 0, .int .i64 0, .slice none 0 0] 39 (0, 0))) := (Below.heap_setCell _ _ _ _ (by simp; omega)).trans (k2.trans HG.out.2.2)
  have HVY : Hid (V4 (w6.setCell ⟨b0, 4, none⟩ (.slice A2 (M + 1) c2)) (b0 + 3) A2 c2 (withD t.L f)) := hd.out.vo.into (into_setCell w6 ⟨b0, 4, none⟩ _) (fun a ha => by
    have := (hd.out.vo.at_ a ha).1
    simp; omega)
  have HBY : Hid (Below b0 W (w6.setCell ⟨b0, 4, none⟩ (.slice A2 (M + 1) c2))) := (HB5.out.trans (hbx.mono (by omega))).setCell (Nat.le_refl _) _
  have hwl : (withD t.L f).length = M + 1 := by unfold withD; rw [List.length_append, HM2.out]; rfl
  clear q4 r0 r1 r2 r3 hcl HVX hBx HX2 hd k0 l4 m4 hbx k2 hq5 HG HB5
  generalize w6.setCell ⟨b0, 4, none⟩ (.slice A2 (M + 1) c2) = w7 at *
  obtain ⟨q0, q1, q2, q3, q4, q5, q6⟩ := box7 HY0.out
  obtain ⟨u0, u1, u2, u3, u4, u5, u6⟩ := box7 HY2.out
  have f0 := free7 HY2.out 0
  have f1 := free7 HY2.out 1
  have f2 := free7 HY2.out 2
  have f3 := free7 HY2.out 3
  have f4 := free7 HY2.out 4
  have f5 := free7 HY2.out 5
  have f6 := free7 HY2.out 6
  go_wp2_with fail
  have g7 := set7_at HY2.out (.int .i64 zm) (.slice (some ⟨h, 0, none⟩) nl hc) (.int .i64 zr) (.int .i64 zs) (.slice A2 (M + 1) c2) (.int .i64 zo) (.slice B nr d)
  have i7 := set7_into w7 (b0 + 1 + 1) (.int .i64 zm) (.slice (some ⟨h, 0, none⟩) nl hc) (.int .i64 zr) (.int .i64 zs) (.slice A2 (M + 1) c2) (.int .i64 zo) (.slice B nr d)
  unfold set7 at g7 i7
  generalize ((((((w7.setCell ⟨b0 + 1 + 1, 0, none⟩ (.int .i64 zm)).setCell ⟨b0 + 1 + 1, 1, none⟩ (.slice (some ⟨h, 0, none⟩) nl hc)).setCell ⟨b0 + 1 + 1, 2, none⟩ (.int .i64 zr)).setCell ⟨b0 + 1 + 1, 3, none⟩ (.int .i64 zs)).setCell ⟨b0 + 1 + 1, 4, none⟩ (.slice A2 (M + 1) c2)).setCell ⟨b0 + 1 + 1, 5, none⟩ (.int .i64 zo)).setCell ⟨b0 + 1 + 1, 6, none⟩ (.slice B nr d) = w8 at *
  obtain ⟨d0, d1, d2, d3, d4, d5, d6⟩ := box7 g7
  have hb8 : Below W.heap.size W w8 := by
    rw [← HB0.out]
    exact HBY.out.trans (below_in i7 (by omega) (by have := (Array.getElem?_eq_some_iff.1 HY2.out).1; omega))
  have hv8 : V4 w8 W.heap.size A2 c2 (withD t.L f) := by
    rw [← HB0.out]
    exact (HVY.out.into i7 (fun a ha => by
      have := (HVY.out.at_ a ha).1
      simp; omega)).mono (by omega)
  refine bodyPost_ret (v := .agg #[.int .i64 zm, .slice (some ⟨h, 0, none⟩) nl hc, .int .i64 zr, .int .i64 zs, .slice A2 (M + 1) c2, .int .i64 zo, .slice B nr d]) (by simp [results, Try.results74, go_sem, d0, d1, d2, d3, d4, d5, d6]) rfl ⟨⟨A2, c2, rfl, hv8⟩, hb8⟩
end Ca
end Go.Proofs.Ytjnbdmimflhhiaa

namespace Go.Proofs.Ytjnbdmimflhhiaa
open Go.RowKit
namespace Ca
open Mem Dv Cn Po

/-- the place of a block that is pinned -/
def pZ (L : List Fr) (b : Nat) : Int := match fk L b with
  | some k => if ((L[k]?).map fun f => f.2.2.2) = some 0 then -1 else (k : Int)
  | none => -1
theorem pZ_none {L : List Fr} {b : Nat} (h : fk L b = none) : pZ L b = -1 := by simp [pZ, h]
theorem pZ_zero {L : List Fr} {b k : Nat} {f : Fr} (h : fk L b = some k) (hf : L[k]? = some f) (hp : f.2.2.2 = 0) : pZ L b = -1 := by simp [pZ, h, hf, hp]
theorem pZ_some {L : List Fr} {b k : Nat} {f : Fr} (h : fk L b = some k) (hf : L[k]? = some f) (hp : f.2.2.2 ≠ 0) : pZ L b = (k : Int) := by simp [pZ, h, hf, hp]
theorem fZ_none {L : List Fr} {b : Nat} (h : fk L b = none) : fZ L b = -1 := by simp [fZ, h]
theorem fZ_some {L : List Fr} {b k : Nat} (h : fk L b = some k) : fZ L b = (k : Int) := by simp [fZ, h]
set_option maxRecDepth 100000 in
set_option maxHeartbeats 1000000 in
theorem Pinned_none {W : World} {t : Dt} {h hc c d : Nat} {A B : Option Addr} (H : DL W t h hc A c B) (b : Nat) (hk : fk t.L b = none) : Calls Try.prog 47 #[dvV t h hc A c B d, .int .u32 (b : Int)] W fun e w' => e = .returned (.int .i64 (-1)) ∧ Below W.heap.size W w' := by
  have hl0 := H.l0
  have HV := Lib.hid H.v4
  have cF := fun w (hb : Below W.heap.size W w) => Lib.hid (Find_any (H.kept hb) b (d := d))
  have hz := fZ_none hk
  obtain ⟨N, hN⟩ : ∃ N, N = t.L.length := ⟨_, rfl⟩
  unfold dvV at cF ⊢
  simp only [← hN, hz] at cF ⊢
  rw [← hN] at hl0
  clear H hN hz
  generalize t.ls.length = nl at *
  generalize t.row.length = nr at *
  generalize (t.m : Int) = zm at *
  generalize (t.r : Int) = zr at *
  generalize (t.s : Int) = zs at *
  generalize (t.most : Int) = zo at *
  go_enter Try.func47, Try.ntmps47
  go_upto_region 1 with fail
  have hx := heap_alloc_new W (.cells #[.int .i64 zm, .slice (some ⟨h, 0, none⟩) nl hc, .int .i64 zr, .int .i64 zs, .slice A N c, .int .i64 zo, .slice B nr d] 39)
  have hb0 : Below W.heap.size W (W.alloc (.cells #[.int .i64 zm, .slice (some ⟨h, 0, none⟩) nl hc, .int .i64 zr, .int .i64 zs, .slice A N c, .int .i64 zo, .slice B nr d] 39)) := (Below.refl _ _).alloc (Nat.le_refl _) _
  generalize W.alloc (.cells #[.int .i64 zm, .slice (some ⟨h, 0, none⟩) nl hc, .int .i64 zr, .int .i64 zs, .slice A N c, .int .i64 zo, .slice B nr d] 39) = w1 at *
  obtain ⟨q0, q1, q2, q3, q4, q5, q6⟩ := box7 hx
  have c1 := cF w1 hb0
  have HX := Lib.hid hx
  have HB := Lib.hid hb0
  clear cF hx hb0
  go_wp2_with fail
  refine c1.out.mono ?_
  rintro e w2 ⟨rfl, hb2⟩
  have y := (hb2.block W.heap.size (Array.getElem?_eq_some_iff.1 HX.out).1).trans HX.out
  have HBw := Lib.hid (HB.out.trans (hb2.mono HB.out.size))
  have H2 := Lib.hid (HV.out.kept HBw.out)
  clear q0 q1 q2 q3 q4 q5 q6 c1 HX HB hb2 HV
  obtain ⟨-, -, -, -, q4, -, -⟩ := box7 y
  clear y
  go_wp2_with fail
  go_ret
  exact ⟨rfl, HBw.out⟩
set_option maxRecDepth 100000 in
set_option maxHeartbeats 1000000 in
theorem Pinned_zero {W : World} {t : Dt} {h hc c d : Nat} {A B : Option Addr} (H : DL W t h hc A c B) (b : Nat) {k : Nat} {f : Fr} (hk : fk t.L b = some k) (hf : t.L[k]? = some f) (hp : f.2.2.2 = 0) : Calls Try.prog 47 #[dvV t h hc A c B d, .int .u32 (b : Int)] W fun e w' => e = .returned (.int .i64 (-1)) ∧ Below W.heap.size W w' := by
  have hl0 := H.l0
  have HV := Lib.hid H.v4
  have cF := fun w (hb : Below W.heap.size W w) => Lib.hid (Find_any (H.kept hb) b (d := d))
  have hz := fZ_some hk
  obtain ⟨N, hN⟩ : ∃ N, N = t.L.length := ⟨_, rfl⟩
  unfold dvV at cF ⊢
  simp only [← hN, hz] at cF ⊢
  rw [← hN] at hl0
  have hNl : t.L.length = N := hN.symm
  clear H hN hz
  generalize t.ls.length = nl at *
  generalize t.row.length = nr at *
  generalize (t.m : Int) = zm at *
  generalize (t.r : Int) = zr at *
  generalize (t.s : Int) = zs at *
  generalize (t.most : Int) = zo at *
  go_enter Try.func47, Try.ntmps47
  go_upto_region 1 with fail
  have hx := heap_alloc_new W (.cells #[.int .i64 zm, .slice (some ⟨h, 0, none⟩) nl hc, .int .i64 zr, .int .i64 zs, .slice A N c, .int .i64 zo, .slice B nr d] 39)
  have hb0 : Below W.heap.size W (W.alloc (.cells #[.int .i64 zm, .slice (some ⟨h, 0, none⟩) nl hc, .int .i64 zr, .int .i64 zs, .slice A N c, .int .i64 zo, .slice B nr d] 39)) := (Below.refl _ _).alloc (Nat.le_refl _) _
  generalize W.alloc (.cells #[.int .i64 zm, .slice (some ⟨h, 0, none⟩) nl hc, .int .i64 zr, .int .i64 zs, .slice A N c, .int .i64 zo, .slice B nr d] 39) = w1 at *
  obtain ⟨q0, q1, q2, q3, q4, q5, q6⟩ := box7 hx
  have c1 := cF w1 hb0
  have HX := Lib.hid hx
  have HB := Lib.hid hb0
  clear cF hx hb0
  go_wp2_with fail
  refine c1.out.mono ?_
  rintro e w2 ⟨rfl, hb2⟩
  have y := (hb2.block W.heap.size (Array.getElem?_eq_some_iff.1 HX.out).1).trans HX.out
  have HBw := Lib.hid (HB.out.trans (hb2.mono HB.out.size))
  have H2 := Lib.hid (HV.out.kept HBw.out)
  clear q0 q1 q2 q3 q4 q5 q6 c1 HX HB hb2 HV
  obtain ⟨-, -, -, -, q4, -, -⟩ := box7 y
  clear y
  obtain ⟨g, rfl, e0, e1, e2, e3⟩ := H2.out.cell hf
  have hkN : k < N := by have := lt_of_get hf; omega
  clear hf
  rw [hp] at e3
  go_wp2_with fail
  go_ret
  exact ⟨rfl, HBw.out⟩
set_option maxRecDepth 100000 in
set_option maxHeartbeats 1000000 in
theorem Pinned_some {W : World} {t : Dt} {h hc c d : Nat} {A B : Option Addr} (H : DL W t h hc A c B) (b : Nat) {k : Nat} {f : Fr} (hk : fk t.L b = some k) (hf : t.L[k]? = some f) (hp : f.2.2.2 ≠ 0) : Calls Try.prog 47 #[dvV t h hc A c B d, .int .u32 (b : Int)] W fun e w' => e = .returned (.int .i64 (k : Int)) ∧ Below W.heap.size W w' := by
  have hl0 := H.l0
  have HV := Lib.hid H.v4
  have cF := fun w (hb : Below W.heap.size W w) => Lib.hid (Find_any (H.kept hb) b (d := d))
  have hz := fZ_some hk
  obtain ⟨N, hN⟩ : ∃ N, N = t.L.length := ⟨_, rfl⟩
  unfold dvV at cF ⊢
  simp only [← hN, hz] at cF ⊢
  rw [← hN] at hl0
  have hNl : t.L.length = N := hN.symm
  clear H hN hz
  generalize t.ls.length = nl at *
  generalize t.row.length = nr at *
  generalize (t.m : Int) = zm at *
  generalize (t.r : Int) = zr at *
  generalize (t.s : Int) = zs at *
  generalize (t.most : Int) = zo at *
  go_enter Try.func47, Try.ntmps47
  go_upto_region 1 with fail
  have hx := heap_alloc_new W (.cells #[.int .i64 zm, .slice (some ⟨h, 0, none⟩) nl hc, .int .i64 zr, .int .i64 zs, .slice A N c, .int .i64 zo, .slice B nr d] 39)
  have hb0 : Below W.heap.size W (W.alloc (.cells #[.int .i64 zm, .slice (some ⟨h, 0, none⟩) nl hc, .int .i64 zr, .int .i64 zs, .slice A N c, .int .i64 zo, .slice B nr d] 39)) := (Below.refl _ _).alloc (Nat.le_refl _) _
  generalize W.alloc (.cells #[.int .i64 zm, .slice (some ⟨h, 0, none⟩) nl hc, .int .i64 zr, .int .i64 zs, .slice A N c, .int .i64 zo, .slice B nr d] 39) = w1 at *
  obtain ⟨q0, q1, q2, q3, q4, q5, q6⟩ := box7 hx
  have c1 := cF w1 hb0
  have HX := Lib.hid hx
  have HB := Lib.hid hb0
  clear cF hx hb0
  go_wp2_with fail
  refine c1.out.mono ?_
  rintro e w2 ⟨rfl, hb2⟩
  have y := (hb2.block W.heap.size (Array.getElem?_eq_some_iff.1 HX.out).1).trans HX.out
  have HBw := Lib.hid (HB.out.trans (hb2.mono HB.out.size))
  have H2 := Lib.hid (HV.out.kept HBw.out)
  clear q0 q1 q2 q3 q4 q5 q6 c1 HX HB hb2 HV
  obtain ⟨-, -, -, -, q4, -, -⟩ := box7 y
  clear y
  obtain ⟨g, rfl, e0, e1, e2, e3⟩ := H2.out.cell hf
  have hkN : k < N := by have := lt_of_get hf; omega
  clear hf
  have hq : (((f.2.2.2 : Nat) : Int) == 0) = false := by simp; omega
  go_wp2_with fail
  go_ret
  exact ⟨rfl, HBw.out⟩
theorem Pinned_any {W : World} {t : Dt} {h hc c d : Nat} {A B : Option Addr} (H : DL W t h hc A c B) (b : Nat) : Calls Try.prog 47 #[dvV t h hc A c B d, .int .u32 (b : Int)] W fun e w' => e = .returned (.int .i64 (pZ t.L b)) ∧ Below W.heap.size W w' := by
  rcases hk : fk t.L b with _ | k
  · rw [pZ_none hk]
    exact Pinned_none H b hk
  · obtain ⟨f, hf, _⟩ := fk_some hk
    by_cases hp : f.2.2.2 = 0
    · rw [pZ_zero hk hf hp]
      exact Pinned_zero H b hk hf hp
    · rw [pZ_some hk hf hp]
      exact Pinned_some H b hk hf hp
set_option maxRecDepth 100000 in
set_option maxHeartbeats 1000000 in
theorem DPins_none {W : World} {t : Dt} {h hc c d : Nat} {A B : Option Addr} (H : DL W t h hc A c B) (b : Nat) (hk : fk t.L b = none) : Calls Try.prog 18 #[dvV t h hc A c B d, .int .u32 (b : Int)] W fun e w' => e = .returned (.int .i64 0) ∧ Below W.heap.size W w' := by
  have hl0 := H.l0
  have HV := Lib.hid H.v4
  have cF := fun w (hb : Below W.heap.size W w) => Lib.hid (Find_any (H.kept hb) b (d := d))
  have hz := fZ_none hk
  obtain ⟨N, hN⟩ : ∃ N, N = t.L.length := ⟨_, rfl⟩
  unfold dvV at cF ⊢
  simp only [← hN, hz] at cF ⊢
  rw [← hN] at hl0
  clear H hN hz
  generalize t.ls.length = nl at *
  generalize t.row.length = nr at *
  generalize (t.m : Int) = zm at *
  generalize (t.r : Int) = zr at *
  generalize (t.s : Int) = zs at *
  generalize (t.most : Int) = zo at *
  go_enter Try.func18, Try.ntmps18
  go_upto_region 1 with fail
  have hx := heap_alloc_new W (.cells #[.int .i64 zm, .slice (some ⟨h, 0, none⟩) nl hc, .int .i64 zr, .int .i64 zs, .slice A N c, .int .i64 zo, .slice B nr d] 39)
  have hb0 : Below W.heap.size W (W.alloc (.cells #[.int .i64 zm, .slice (some ⟨h, 0, none⟩) nl hc, .int .i64 zr, .int .i64 zs, .slice A N c, .int .i64 zo, .slice B nr d] 39)) := (Below.refl _ _).alloc (Nat.le_refl _) _
  generalize W.alloc (.cells #[.int .i64 zm, .slice (some ⟨h, 0, none⟩) nl hc, .int .i64 zr, .int .i64 zs, .slice A N c, .int .i64 zo, .slice B nr d] 39) = w1 at *
  obtain ⟨q0, q1, q2, q3, q4, q5, q6⟩ := box7 hx
  have c1 := cF w1 hb0
  have HX := Lib.hid hx
  have HB := Lib.hid hb0
  clear cF hx hb0
  go_wp2_with fail
  refine c1.out.mono ?_
  rintro e w2 ⟨rfl, hb2⟩
  have y := (hb2.block W.heap.size (Array.getElem?_eq_some_iff.1 HX.out).1).trans HX.out
  have HBw := Lib.hid (HB.out.trans (hb2.mono HB.out.size))
  have H2 := Lib.hid (HV.out.kept HBw.out)
  clear q0 q1 q2 q3 q4 q5 q6 c1 HX HB hb2 HV
  obtain ⟨-, -, -, -, q4, -, -⟩ := box7 y
  clear y
  go_wp2_with fail
  go_ret
  exact ⟨rfl, HBw.out⟩
set_option maxRecDepth 100000 in
set_option maxHeartbeats 1000000 in
theorem DPins_some {W : World} {t : Dt} {h hc c d : Nat} {A B : Option Addr} (H : DL W t h hc A c B) (b : Nat) {k : Nat} {f : Fr} (hk : fk t.L b = some k) (hf : t.L[k]? = some f) : Calls Try.prog 18 #[dvV t h hc A c B d, .int .u32 (b : Int)] W fun e w' => e = .returned (.int .i64 (f.2.2.2 : Int)) ∧ Below W.heap.size W w' := by
  have hl0 := H.l0
  have HV := Lib.hid H.v4
  have cF := fun w (hb : Below W.heap.size W w) => Lib.hid (Find_any (H.kept hb) b (d := d))
  have hz := fZ_some hk
  obtain ⟨N, hN⟩ : ∃ N, N = t.L.length := ⟨_, rfl⟩
  unfold dvV at cF ⊢
  simp only [← hN, hz] at cF ⊢
  rw [← hN] at hl0
  have hNl : t.L.length = N := hN.symm
  clear H hN hz
  generalize t.ls.length = nl at *
  generalize t.row.length = nr at *
  generalize (t.m : Int) = zm at *
  generalize (t.r : Int) = zr at *
  generalize (t.s : Int) = zs at *
  generalize (t.most : Int) = zo at *
  go_enter Try.func18, Try.ntmps18
  go_upto_region 1 with fail
  have hx := heap_alloc_new W (.cells #[.int .i64 zm, .slice (some ⟨h, 0, none⟩) nl hc, .int .i64 zr, .int .i64 zs, .slice A N c, .int .i64 zo, .slice B nr d] 39)
  have hb0 : Below W.heap.size W (W.alloc (.cells #[.int .i64 zm, .slice (some ⟨h, 0, none⟩) nl hc, .int .i64 zr, .int .i64 zs, .slice A N c, .int .i64 zo, .slice B nr d] 39)) := (Below.refl _ _).alloc (Nat.le_refl _) _
  generalize W.alloc (.cells #[.int .i64 zm, .slice (some ⟨h, 0, none⟩) nl hc, .int .i64 zr, .int .i64 zs, .slice A N c, .int .i64 zo, .slice B nr d] 39) = w1 at *
  obtain ⟨q0, q1, q2, q3, q4, q5, q6⟩ := box7 hx
  have c1 := cF w1 hb0
  have HX := Lib.hid hx
  have HB := Lib.hid hb0
  clear cF hx hb0
  go_wp2_with fail
  refine c1.out.mono ?_
  rintro e w2 ⟨rfl, hb2⟩
  have y := (hb2.block W.heap.size (Array.getElem?_eq_some_iff.1 HX.out).1).trans HX.out
  have HBw := Lib.hid (HB.out.trans (hb2.mono HB.out.size))
  have H2 := Lib.hid (HV.out.kept HBw.out)
  clear q0 q1 q2 q3 q4 q5 q6 c1 HX HB hb2 HV
  obtain ⟨-, -, -, -, q4, -, -⟩ := box7 y
  clear y
  obtain ⟨g, rfl, e0, e1, e2, e3⟩ := H2.out.cell hf
  have hkN : k < N := by have := lt_of_get hf; omega
  clear hf
  go_wp2_with fail
  go_ret
  exact ⟨rfl, HBw.out⟩
set_option maxRecDepth 100000 in
set_option maxHeartbeats 1000000 in
theorem DRead_no {W : World} {t : Dt} {h hc c d : Nat} {A B : Option Addr} (H : DL W t h hc A c B) (b : Nat) (hz : pZ t.L b = -1) : Calls Try.prog 13 #[dvV t h hc A c B d, .int .u32 (b : Int)] W fun e w' => e = .returned (.tuple #[.string ⟨#[]⟩, .int .i64 8]) ∧ Below W.heap.size W w' := by
  have hl0 := H.l0
  have HV := Lib.hid H.v4
  have cF := fun w (hb : Below W.heap.size W w) => Lib.hid (Pinned_any (H.kept hb) b (d := d))
  obtain ⟨N, hN⟩ : ∃ N, N = t.L.length := ⟨_, rfl⟩
  unfold dvV at cF ⊢
  simp only [← hN, hz] at cF ⊢
  rw [← hN] at hl0
  clear H hN hz
  generalize t.ls.length = nl at *
  generalize t.row.length = nr at *
  generalize (t.m : Int) = zm at *
  generalize (t.r : Int) = zr at *
  generalize (t.s : Int) = zs at *
  generalize (t.most : Int) = zo at *
  go_enter Try.func13, Try.ntmps13
  go_upto_region 1 with fail
  have hx := heap_alloc_new W (.cells #[.int .i64 zm, .slice (some ⟨h, 0, none⟩) nl hc, .int .i64 zr, .int .i64 zs, .slice A N c, .int .i64 zo, .slice B nr d] 39)
  have hb0 : Below W.heap.size W (W.alloc (.cells #[.int .i64 zm, .slice (some ⟨h, 0, none⟩) nl hc, .int .i64 zr, .int .i64 zs, .slice A N c, .int .i64 zo, .slice B nr d] 39)) := (Below.refl _ _).alloc (Nat.le_refl _) _
  generalize W.alloc (.cells #[.int .i64 zm, .slice (some ⟨h, 0, none⟩) nl hc, .int .i64 zr, .int .i64 zs, .slice A N c, .int .i64 zo, .slice B nr d] 39) = w1 at *
  obtain ⟨q0, q1, q2, q3, q4, q5, q6⟩ := box7 hx
  have c1 := cF w1 hb0
  have HX := Lib.hid hx
  have HB := Lib.hid hb0
  clear cF hx hb0
  go_wp2_with fail
  refine c1.out.mono ?_
  rintro e w2 ⟨rfl, hb2⟩
  have y := (hb2.block W.heap.size (Array.getElem?_eq_some_iff.1 HX.out).1).trans HX.out
  have HBw := Lib.hid (HB.out.trans (hb2.mono HB.out.size))
  have H2 := Lib.hid (HV.out.kept HBw.out)
  clear q0 q1 q2 q3 q4 q5 q6 c1 HX HB hb2 HV
  obtain ⟨-, -, -, -, q4, -, -⟩ := box7 y
  clear y
  go_wp2_with fail
  exact bodyPost_ret (v := .tuple #[.string ⟨#[]⟩, .int .i64 8]) (by simp [results, Try.results13, go_sem]) rfl ⟨rfl, HBw.out⟩
set_option maxRecDepth 100000 in
set_option maxHeartbeats 1000000 in
theorem DRead_some {W : World} {t : Dt} {h hc c d : Nat} {A B : Option Addr} (H : DL W t h hc A c B) (b : Nat) {k : Nat} {f : Fr} (hz : pZ t.L b = (k : Int)) (hf : t.L[k]? = some f) : Calls Try.prog 13 #[dvV t h hc A c B d, .int .u32 (b : Int)] W fun e w' => e = .returned (.tuple #[.string (strOf f.2.1), .int .i64 0]) ∧ Below W.heap.size W w' := by
  have hl0 := H.l0
  have HV := Lib.hid H.v4
  have cF := fun w (hb : Below W.heap.size W w) => Lib.hid (Pinned_any (H.kept hb) b (d := d))
  obtain ⟨N, hN⟩ : ∃ N, N = t.L.length := ⟨_, rfl⟩
  unfold dvV at cF ⊢
  simp only [← hN, hz] at cF ⊢
  rw [← hN] at hl0
  have hNl : t.L.length = N := hN.symm
  clear H hN hz
  generalize t.ls.length = nl at *
  generalize t.row.length = nr at *
  generalize (t.m : Int) = zm at *
  generalize (t.r : Int) = zr at *
  generalize (t.s : Int) = zs at *
  generalize (t.most : Int) = zo at *
  go_enter Try.func13, Try.ntmps13
  go_upto_region 1 with fail
  have hx := heap_alloc_new W (.cells #[.int .i64 zm, .slice (some ⟨h, 0, none⟩) nl hc, .int .i64 zr, .int .i64 zs, .slice A N c, .int .i64 zo, .slice B nr d] 39)
  have hb0 : Below W.heap.size W (W.alloc (.cells #[.int .i64 zm, .slice (some ⟨h, 0, none⟩) nl hc, .int .i64 zr, .int .i64 zs, .slice A N c, .int .i64 zo, .slice B nr d] 39)) := (Below.refl _ _).alloc (Nat.le_refl _) _
  generalize W.alloc (.cells #[.int .i64 zm, .slice (some ⟨h, 0, none⟩) nl hc, .int .i64 zr, .int .i64 zs, .slice A N c, .int .i64 zo, .slice B nr d] 39) = w1 at *
  obtain ⟨q0, q1, q2, q3, q4, q5, q6⟩ := box7 hx
  have c1 := cF w1 hb0
  have HX := Lib.hid hx
  have HB := Lib.hid hb0
  clear cF hx hb0
  go_wp2_with fail
  refine c1.out.mono ?_
  rintro e w2 ⟨rfl, hb2⟩
  have y := (hb2.block W.heap.size (Array.getElem?_eq_some_iff.1 HX.out).1).trans HX.out
  have HBw := Lib.hid (HB.out.trans (hb2.mono HB.out.size))
  have H2 := Lib.hid (HV.out.kept HBw.out)
  clear q0 q1 q2 q3 q4 q5 q6 c1 HX HB hb2 HV
  obtain ⟨-, -, -, -, q4, -, -⟩ := box7 y
  clear y
  obtain ⟨g, rfl, e0, e1, e2, e3⟩ := H2.out.cell hf
  have hkN : k < N := by have := lt_of_get hf; omega
  clear hf
  go_wp2_with fail
  exact bodyPost_ret (v := .tuple #[.string (strOf f.2.1), .int .i64 0]) (by simp [results, Try.results13, go_sem]) rfl ⟨rfl, HBw.out⟩
end Ca
end Go.Proofs.Ytjnbdmimflhhiaa

namespace Go.Proofs.Ytjnbdmimflhhiaa
open Go.RowKit
namespace Ca
open Mem Dv Cn Po

/-- the numbers but one -/
def woD (R : List Nat) (i : Nat) : List Nat := R.filter fun x => !(x == i)
theorem woD_take (R : List Nat) (i : Nat) {k x : Nat} (hx : R[k]? = some x) : woD (R.take (k + 1)) i = woD (R.take k) i ++ (if x = i then [] else [x]) := by
  have hk := lt_of_get hx
  rw [List.getElem?_eq_getElem hk] at hx
  obtain rfl := Option.some.inj hx
  unfold woD
  rw [List.take_succ_eq_append_getElem hk, List.filter_append]
  congr 1
  by_cases h : R[k] = i <;> simp [h]
theorem woD_le (R : List Nat) (i : Nat) : (woD R i).length ≤ R.length := List.length_filter_le _ _
set_option maxRecDepth 100000 in
set_option maxHeartbeats 2000000 in
theorem without_any {W : World} {d : Nat} {B : Option Addr} {R : List Nat} (H : UT W B R) (hR : R.length ≤ 100) (b : Nat) : Calls Try.prog 73 #[.slice B R.length d, .int .u32 (b : Int)] W fun e w' => (∃ A' c', e = .returned (.slice A' (woD R b).length c') ∧ VO 23 w' W.heap.size A' c' ((woD R b).map u32V)) ∧ Below W.heap.size W w' := by
  obtain ⟨N, hN⟩ : ∃ N, N = R.length := ⟨_, rfl⟩
  have HU := Lib.hid H
  have HN := Lib.hid hN
  have hN100 : N ≤ 100 := by omega
  rw [← hN]
  clear H hN hR
  go_enter Try.func73, Try.ntmps73
  go_upto_region 2 with fail
  have HV0 : Hid (VO 23 (W.alloc (.cells #[] 23)) W.heap.size (some ⟨W.heap.size, 0, none⟩) 0 ([].map u32V)) := VO.none_ 23 W W.heap.size (Nat.le_refl _)
  have HB0 : Hid (Below W.heap.size W (W.alloc (.cells #[] 23))) := (Below.refl _ _).alloc (Nat.le_refl _) _
  generalize W.alloc (.cells #[] 23) = w1 at *
  go_wp2_with fail
  go_loopg [5, 6] N (fun gk bv iv wr => ∃ (k m c' : Nat) (A' : Option Addr), k ≤ N ∧ gk = N - k ∧ iv = .int .i64 (k : Int) ∧ bv = .slice A' m c' ∧ m ≤ k ∧ Hid ((woD (R.take k) b).length = m) ∧ Hid (VO 23 wr W.heap.size A' c' ((woD (R.take k) b).map u32V)) ∧ Hid (Below W.heap.size W wr))
  case atStart => exact ⟨0, 0, 0, _, Nat.zero_le _, rfl, rfl, rfl, Nat.le_refl _, rfl, HV0, HB0⟩
  case round =>
    obtain ⟨k, m, c', A', hk, rfl, rfl, rfl, hm, HM, HV', HB⟩ := hrel
    clear HV0 HB0
    by_cases hlt : k < N
    · have hkR : k < R.length := by rw [← HN.out]; exact hlt
      have hf : R[k]? = some R[k] := List.getElem?_eq_getElem hkR
      obtain ⟨x, hxx⟩ : ∃ x, x = R[k] := ⟨_, rfl⟩
      obtain ⟨g, rfl, -, hc⟩ := (HU.out.kept HB.out).ul (Nat.lt_of_le_of_lt (Nat.zero_le _) hkR)
      have hcell := hc k hkR
      rw [← hxx] at hf hcell
      have hwk : IntKind.i64.wrap ((k : Int) + 1) = ((k + 1 : Nat) : Int) := by rw [IntKind.wrap_i64]; omega
      have hstep := woD_take R b hf
      clear hxx hf hc hkR
      by_cases hb : x = b
      · rw [if_pos hb, List.append_nil] at hstep
        have HS := Lib.hid hstep
        have hq : ((x : Int) == (b : Int)) = true := by simp; omega
        have hq2 : ((x : Int) != (b : Int)) = false := by simp; omega
        clear hstep hb
        go_wp2_with fail
        go_roundg (N - (k + 1))
        case measure => omega
        case rel => exact ⟨k + 1, m, c', A', hlt, rfl, by go_num, rfl, by omega, by unfold Hid; rw [HS.out]; exact HM.out, by unfold Hid; rw [HS.out]; exact HV'.out, HB⟩
      · rw [if_neg hb] at hstep
        have HS := Lib.hid hstep
        have hq : ((x : Int) == (b : Int)) = false := by simp; omega
        have hq2 : ((x : Int) != (b : Int)) = true := by simp; omega
        have hX : Below wr.heap.size wr (wr.alloc (.cells #[.int .u32 (x : Int)] 23)) := (Below.refl _ _).alloc (Nat.le_refl _) _
        have hcl : Hid ((wr.alloc (.cells #[.int .u32 (x : Int)] 23)).cell? ⟨wr.heap.size, 0, none⟩ = some (.int .u32 (x : Int))) := by
          unfold Hid
          rw [World.cell?, heap_alloc_new]
          rfl
        have HVX : Hid (VO 23 (wr.alloc (.cells #[.int .u32 (x : Int)] 23)) W.heap.size A' c' ((woD (R.take k) b).map u32V)) := HV'.out.kept hX
        have HM2 : Hid (((woD (R.take k) b).map u32V).length = m) := by unfold Hid; rw [List.length_map]; exact HM.out
        have hm65 : m + 1 ≤ 1048576 := by omega
        have hBx : W.heap.size ≤ (wr.alloc (.cells #[.int .u32 (x : Int)] 23)).heap.size := Nat.le_trans HB.out.size hX.size
        have HX2 := Lib.hid (hX.mono HB.out.size)
        clear hstep hb hX
        go_wp2_with (with_reducible refine wpList_append_one rfl (.tmp 20) (.tmp 25) _ rfl 23 Try.underlying37 (.int .u32 0) 4 u32info rfl (by omega) W.heap.size A' m c' ((woD (R.take k) b).map u32V) rfl HM2.out HVX.out wr.heap.size 1 (.int .u32 (x : Int)) rfl hcl.out rfl hm65 hBx ?_; intro A2 c2' w4 hd)
        go_roundg (N - (k + 1))
        case measure => omega
        case rel =>
          refine ⟨k + 1, m + 1, c2', A2, hlt, rfl, by go_num, rfl, by omega, ?_, ?_, ?_⟩
          · unfold Hid; rw [HS.out, List.length_append, HM.out]; rfl
          · unfold Hid; rw [HS.out, List.map_append]; exact hd.out.vo
          · exact (HB.out.trans HX2.out).trans hd.out.below
    · obtain rfl : k = N := by omega
      clear hlt
      have e : R.take k = R := List.take_of_length_le (by rw [← HN.out]; exact Nat.le_refl _)
      rw [e] at HM HV'
      have hlen : (woD R b).length = m := HM.out
      have HL := Lib.hid hlen
      clear hlen
      go_wp2_with fail
      go_ret
      exact ⟨⟨A', c', by rw [HL.out]; rfl, HV'.out⟩, HB.out⟩
end Ca
end Go.Proofs.Ytjnbdmimflhhiaa

namespace Go.Proofs.Ytjnbdmimflhhiaa
open Go.RowKit
namespace Ca
open Mem Dv Cn Po

/-- what a value of the document's cache names, all of it in memory -/
def DRes (w' : World) (t' : Dt) (v : Value) : Prop := ∃ h hc A c B d, v = dvV t' h hc A c B d ∧ DL w' t' h hc A c B
theorem two_allocs (W : World) (o1 o2 : Obj) : Below W.heap.size W ((W.alloc o1).alloc o2) ∧ ((W.alloc o1).alloc o2).heap[W.heap.size]? = some o1 ∧ ((W.alloc o1).alloc o2).heap[W.heap.size + 1]? = some o2 ∧ ((W.alloc o1).alloc o2).heap.size = W.heap.size + 1 + 1 := by
  have s1 : (W.alloc o1).heap.size = W.heap.size + 1 := by simp
  refine ⟨((Below.refl _ _).alloc (Nat.le_refl _) _).alloc (by omega) _, ?_, ?_, by simp⟩
  · rw [Below.heap_alloc _ _ _ (by omega)]
    exact heap_alloc_new W o1
  · have := heap_alloc_new (W.alloc o1) o2
    rwa [s1] at this
set_option maxRecDepth 100000 in
set_option maxHeartbeats 2000000 in
theorem DDrop_no {W : World} {t : Dt} {h hc c d : Nat} {A B : Option Addr} (H : DL W t h hc A c B) (b : Nat) (hp : 0 ≤ pZ t.L b) : Calls Try.prog 40 #[dvV t h hc A c B d, .int .u32 (b : Int)] W fun e w' => e = .returned (.tuple #[dvV t h hc A c B d, .int .i64 8]) ∧ Below W.heap.size W w' := by
  have cP := fun w (hb : Below W.heap.size W w) => Lib.hid (Pinned_any (H.kept hb) b (d := d))
  have hq : decide (pZ t.L b ≥ 0) = true := by simpa using hp
  generalize pZ t.L b = zp at *
  unfold dvV at cP ⊢
  generalize t.L.length = N at *
  generalize t.row.length = nr at *
  generalize t.ls.length = nl at *
  generalize (t.m : Int) = zm at *
  generalize (t.r : Int) = zr at *
  generalize (t.s : Int) = zs at *
  generalize (t.most : Int) = zo at *
  clear H
  go_enter Try.func40, Try.ntmps40
  go_upto_region 1 with fail
  obtain ⟨hb2, hx0, hx1, hs⟩ := two_allocs W (.cells #[.int .i64 zm, .slice (some ⟨h, 0, none⟩) nl hc, .int .i64 zr, .int .i64 zs, .slice A N c, .int .i64 zo, .slice B nr d] 39) (.cells #[.int .i64 0, .slice none 0 0, .int .i64 0, .int .i64 0, .slice none 0 0, .int .i64 0, .slice none 0 0] 39)
  generalize (W.alloc (.cells #[.int .i64 zm, .slice (some ⟨h, 0, none⟩) nl hc, .int .i64 zr, .int .i64 zs, .slice A N c, .int .i64 zo, .slice B nr d] 39)).alloc (.cells #[.int .i64 0, .slice none 0 0, .int .i64 0, .int .i64 0, .slice none 0 0, .int .i64 0, .slice none 0 0] 39) = w1 at *
  obtain ⟨b0, hb0⟩ : ∃ b0, b0 = W.heap.size := ⟨_, rfl⟩
  have c1 := cP w1 hb2
  clear cP
  rw [← hb0] at hx0 hx1 hs ⊢
  obtain ⟨q0, q1, q2, q3, q4, q5, q6⟩ := box7 hx0
  have HB0 := Lib.hid hb0
  have HB1 := Lib.hid hb2
  have HX0 := Lib.hid hx0
  have HX1 := Lib.hid hx1
  have HS := Lib.hid hs
  clear hx0 hx1 hs hb2 hb0
  go_wp2_with fail
  refine c1.out.mono ?_
  rintro e w2 ⟨rfl, hb2⟩
  have y0 := (hb2.block b0 (by rw [HS.out]; omega)).trans HX0.out
  have y1 := (hb2.block (b0 + 1) (by rw [HS.out]; omega)).trans HX1.out
  have HBw : Hid (Below b0 W w2) := by
    have h1 := HB1.out
    rw [← HB0.out] at h1
    exact h1.trans (hb2.mono (by rw [HS.out]; omega))
  have HY1 := Lib.hid y1
  clear q0 q1 q2 q3 q4 q5 q6 c1 HX0 HX1 hb2 HB1
  obtain ⟨q0, q1, q2, q3, q4, q5, q6⟩ := box7 y0
  obtain ⟨u0, u1, u2, u3, u4, u5, u6⟩ := box7 y1
  have f0 := free7 y1 0
  have f1 := free7 y1 1
  have f2 := free7 y1 2
  have f3 := free7 y1 3
  have f4 := free7 y1 4
  have f5 := free7 y1 5
  have f6 := free7 y1 6
  clear y0 y1
  go_wp2_with fail
  have g7 := set7_at HY1.out (.int .i64 zm) (.slice (some ⟨h, 0, none⟩) nl hc) (.int .i64 zr) (.int .i64 zs) (.slice A N c) (.int .i64 zo) (.slice B nr d)
  have i7 := set7_into w2 (b0 + 1) (.int .i64 zm) (.slice (some ⟨h, 0, none⟩) nl hc) (.int .i64 zr) (.int .i64 zs) (.slice A N c) (.int .i64 zo) (.slice B nr d)
  unfold set7 at g7 i7
  generalize ((((((w2.setCell ⟨b0 + 1, 0, none⟩ (.int .i64 zm)).setCell ⟨b0 + 1, 1, none⟩ (.slice (some ⟨h, 0, none⟩) nl hc)).setCell ⟨b0 + 1, 2, none⟩ (.int .i64 zr)).setCell ⟨b0 + 1, 3, none⟩ (.int .i64 zs)).setCell ⟨b0 + 1, 4, none⟩ (.slice A N c)).setCell ⟨b0 + 1, 5, none⟩ (.int .i64 zo)).setCell ⟨b0 + 1, 6, none⟩ (.slice B nr d) = w3 at *
  obtain ⟨o0, o1, o2, o3, o4, o5, o6⟩ := box7 g7
  have hb7 : Below W.heap.size W w3 := by
    rw [← HB0.out]
    exact HBw.out.trans (below_in i7 (by omega) (by have := (Array.getElem?_eq_some_iff.1 HY1.out).1; omega))
  exact bodyPost_ret (v := .tuple #[.agg #[.int .i64 zm, .slice (some ⟨h, 0, none⟩) nl hc, .int .i64 zr, .int .i64 zs, .slice A N c, .int .i64 zo, .slice B nr d], .int .i64 8]) (by simp [results, Try.results40, go_sem, o0, o1, o2, o3, o4, o5, o6]) rfl ⟨rfl, hb7⟩
set_option maxRecDepth 100000 in
set_option maxHeartbeats 2000000 in
theorem DDrop_yes {W : World} {t : Dt} {h hc c d : Nat} {A B : Option Addr} (H : DL W t h hc A c B) (b : Nat) (hp : pZ t.L b < 0) : Calls Try.prog 40 #[dvV t h hc A c B d, .int .u32 (b : Int)] W fun e w' => (∃ v, e = .returned (.tuple #[v, .int .i64 0]) ∧ DRes w' { t with row := woD t.row b, L := goneD t.L b } v) ∧ Below W.heap.size W w' := by
  have cP := fun w (hb : Below W.heap.size W w) => Lib.hid (Pinned_any (H.kept hb) b (d := d))
  have cW := fun w (hb : Below W.heap.size W w) => Lib.hid (without_any (H.ul.kept hb) H.r0 b (d := d))
  have cG := fun w (hb : Below W.heap.size W w) (B2 : Option Addr) (d2 : Nat) (hU : UT w B2 (woD t.row b)) => Lib.hid (gone_any (t := { t with row := woD t.row b }) (h := h) (hc := hc) (A := A) (c := c) (B := B2) (d := d2) (W := w) ⟨H.rf.kept hb, H.v4.kept hb, hU, H.l0, Nat.le_trans (woD_le _ _) H.r0⟩ b)
  have hq : decide (pZ t.L b ≥ 0) = false := by simpa using hp
  have HD := Lib.hid H
  have HDR : ∀ (w' : World) (A' : Option Addr) (c' : Nat) (B2 : Option Addr) (d2 : Nat), Below W.heap.size W w' → V4 w' 0 A' c' (goneD t.L b) → UT w' B2 (woD t.row b) → DRes w' { t with row := woD t.row b, L := goneD t.L b } (dvV { t with row := woD t.row b, L := goneD t.L b } h hc A' c' B2 d2) := fun w' A' c' B2 d2 hb hv hu => ⟨h, hc, A', c', B2, d2, rfl, HD.out.rf.kept hb, hv, hu, Nat.le_trans (goneD_le _ _) HD.out.l0, Nat.le_trans (woD_le _ _) HD.out.r0⟩
  have HR := Lib.hid HDR
  clear HDR HD
  generalize pZ t.L b = zp at *
  unfold dvV at cP cG HR ⊢
  simp only at cP cG HR ⊢
  generalize DRes = DR at *
  generalize ({ t with row := woD t.row b, L := goneD t.L b } : Dt) = t' at *
  generalize t.L.length = N at *
  generalize t.row.length = nr at *
  generalize (woD t.row b).length = nr2 at *
  generalize (goneD t.L b).length = M at *
  generalize t.ls.length = nl at *
  generalize (t.m : Int) = zm at *
  generalize (t.r : Int) = zr at *
  generalize (t.s : Int) = zs at *
  generalize (t.most : Int) = zo at *
  clear H
  go_enter Try.func40, Try.ntmps40
  go_upto_region 1 with fail
  obtain ⟨hb2, hx0, hx1, hs⟩ := two_allocs W (.cells #[.int .i64 zm, .slice (some ⟨h, 0, none⟩) nl hc, .int .i64 zr, .int .i64 zs, .slice A N c, .int .i64 zo, .slice B nr d] 39) (.cells #[.int .i64 0, .slice none 0 0, .int .i64 0, .int .i64 0, .slice none 0 0, .int .i64 0, .slice none 0 0] 39)
  generalize (W.alloc (.cells #[.int .i64 zm, .slice (some ⟨h, 0, none⟩) nl hc, .int .i64 zr, .int .i64 zs, .slice A N c, .int .i64 zo, .slice B nr d] 39)).alloc (.cells #[.int .i64 0, .slice none 0 0, .int .i64 0, .int .i64 0, .slice none 0 0, .int .i64 0, .slice none 0 0] 39) = w1 at *
  obtain ⟨b0, hb0⟩ : ∃ b0, b0 = W.heap.size := ⟨_, rfl⟩
  have c1 := cP w1 hb2
  clear cP
  rw [← hb0] at hx0 hx1 hs ⊢
  obtain ⟨q0, q1, q2, q3, q4, q5, q6⟩ := box7 hx0
  have HB0 := Lib.hid hb0
  have HB1 := Lib.hid hb2
  have HX0 := Lib.hid hx0
  have HX1 := Lib.hid hx1
  have HS := Lib.hid hs
  clear hx0 hx1 hs hb2 hb0
  go_wp2_with fail
  refine c1.out.mono ?_
  rintro e w2 ⟨rfl, hb2⟩
  have y0 := (hb2.block b0 (by rw [HS.out]; omega)).trans HX0.out
  have y1 := (hb2.block (b0 + 1) (by rw [HS.out]; omega)).trans HX1.out
  have HBw : Hid (Below W.heap.size W w2) := HB1.out.trans (hb2.mono HB1.out.size)
  have HS2 : Hid (b0 + 2 ≤ w2.heap.size) := (Array.getElem?_eq_some_iff.1 y1).1
  have c2 := cW w2 HBw.out
  have HY0 := Lib.hid y0
  have HY1 := Lib.hid y1
  clear cW q0 q1 q2 q3 q4 q5 q6 c1 HX0 HX1 hb2 HB1 y1
  obtain ⟨q0, q1, q2, q3, q4, q5, q6⟩ := box7 y0
  clear y0
  go_wp2_with fail
  refine c2.out.mono ?_
  rintro e w3 ⟨⟨B2, d2, rfl, hv3⟩, hb3⟩
  have y0 := (hb3.block b0 (by have := HS2.out; omega)).trans HY0.out
  have y1 := (hb3.block (b0 + 1) (by have := HS2.out; omega)).trans HY1.out
  have HV3 : Hid (VO 23 w3 (b0 + 2) B2 d2 ((woD t.row b).map u32V)) := VO.mono hv3 HS2.out
  have HBw3 : Hid (Below W.heap.size W w3) := HBw.out.trans (hb3.mono HBw.out.size)
  have HZ0 := Lib.hid y0
  have HZ1 := Lib.hid y1
  clear q0 q1 q2 q3 q4 q5 q6 c2 HY0 HY1 hb3 hv3 HBw y1
  obtain ⟨q0, q1, q2, q3, q4, q5, q6⟩ := box7 y0
  have f6 := free7 y0 6
  clear y0
  go_upto_region 4 with fail
  have HG0 : Hid ((w3.setCell ⟨b0, 6, none⟩ (.slice B2 nr2 d2)).heap[b0]? = some (.cells #[.int .i64 zm, .slice (some ⟨h, 0, none⟩) nl hc, .int .i64 zr, .int .i64 zs, .slice A N c, .int .i64 zo, .slice B2 nr2 d2] 39 (0, 0))) := by
    have := HZ0.out
    unfold Hid
    simp [World.setCell, Array.getElem?_modify, this]
  have HG1 : Hid ((w3.setCell ⟨b0, 6, none⟩ (.slice B2 nr2 d2)).heap[b0 + 1]? = some (.cells #[.int .i64 0, .slice none 0 0, .int .i64 0, .int .i64 0, .slice none 0 0, .int .i64 0, .slice none 0 0] 39 (0, 0))) := (Below.heap_setCell _ _ _ _ (by simp)).trans HZ1.out
  have HV4 : Hid (VO 23 (w3.setCell ⟨b0, 6, none⟩ (.slice B2 nr2 d2)) (b0 + 2) B2 d2 ((woD t.row b).map u32V)) := HV3.out.into (into_setCell w3 ⟨b0, 6, none⟩ _) (fun a ha => by
    have := (HV3.out.at_ a ha).1
    simp; omega)
  have HBw4 : Hid (Below W.heap.size W (w3.setCell ⟨b0, 6, none⟩ (.slice B2 nr2 d2))) := HBw3.out.setCell (by rw [← HB0.out]; exact Nat.le_refl _) _
  clear q0 q1 q2 q3 q4 q5 q6 f6 HZ0 HZ1 HV3 HBw3
  generalize w3.setCell ⟨b0, 6, none⟩ (.slice B2 nr2 d2) = w4 at *
  have c3 := cG w4 HBw4.out B2 d2 (UT.of_vo HV4.out)
  clear cG
  obtain ⟨q0, q1, q2, q3, q4, q5, q6⟩ := box7 HG0.out
  go_wp2_with fail
  refine c3.out.mono ?_
  rintro e w5 ⟨⟨A2, c2', rfl, hv5⟩, hb5⟩
  have y1 := (hb5.block (b0 + 1) (Array.getElem?_eq_some_iff.1 HG1.out).1).trans HG1.out
  have hsz : b0 + 2 ≤ w4.heap.size := (Array.getElem?_eq_some_iff.1 HG1.out).1
  have HV5 : Hid (V4 w5 (b0 + 2) A2 c2' (goneD t.L b)) := hv5.mono hsz
  have HU5 : Hid (VO 23 w5 (b0 + 2) B2 d2 ((woD t.row b).map u32V)) := HV4.out.kept hb5
  have HBw5 : Hid (Below W.heap.size W w5) := HBw4.out.trans (hb5.mono HBw4.out.size)
  have HY1 := Lib.hid y1
  clear q0 q1 q2 q3 q4 q5 q6 c3 hv5 hb5 hsz HBw4 HV4 HG0 HG1
  obtain ⟨u0, u1, u2, u3, u4, u5, u6⟩ := box7 y1
  have f0 := free7 y1 0
  have f1 := free7 y1 1
  have f2 := free7 y1 2
  have f3 := free7 y1 3
  have f4 := free7 y1 4
  have f5 := free7 y1 5
  have f6 := free7 y1 6
  clear y1
  go_wp2_with fail
  have g7 := set7_at HY1.out (.int .i64 zm) (.slice (some ⟨h, 0, none⟩) nl hc) (.int .i64 zr) (.int .i64 zs) (.slice A2 M c2') (.int .i64 zo) (.slice B2 nr2 d2)
  have i7 := set7_into w5 (b0 + 1) (.int .i64 zm) (.slice (some ⟨h, 0, none⟩) nl hc) (.int .i64 zr) (.int .i64 zs) (.slice A2 M c2') (.int .i64 zo) (.slice B2 nr2 d2)
  unfold set7 at g7 i7
  generalize ((((((w5.setCell ⟨b0 + 1, 0, none⟩ (.int .i64 zm)).setCell ⟨b0 + 1, 1, none⟩ (.slice (some ⟨h, 0, none⟩) nl hc)).setCell ⟨b0 + 1, 2, none⟩ (.int .i64 zr)).setCell ⟨b0 + 1, 3, none⟩ (.int .i64 zs)).setCell ⟨b0 + 1, 4, none⟩ (.slice A2 M c2')).setCell ⟨b0 + 1, 5, none⟩ (.int .i64 zo)).setCell ⟨b0 + 1, 6, none⟩ (.slice B2 nr2 d2) = w6 at *
  obtain ⟨o0, o1, o2, o3, o4, o5, o6⟩ := box7 g7
  have hb7 : Below W.heap.size W w6 := HBw5.out.trans (below_in i7 (by have := HB0.out; omega) HBw5.out.size)
  have hv7 : V4 w6 0 A2 c2' (goneD t.L b) := (HV5.out.into i7 (fun a ha => by
    have := (HV5.out.at_ a ha).1
    simp; omega)).mono (Nat.zero_le _)
  have hu7 : UT w6 B2 (woD t.row b) := UT.of_vo (HU5.out.into i7 (fun a ha => by
    have := (HU5.out.at_ a ha).1
    simp; omega))
  exact bodyPost_ret (v := .tuple #[.agg #[.int .i64 zm, .slice (some ⟨h, 0, none⟩) nl hc, .int .i64 zr, .int .i64 zs, .slice A2 M c2', .int .i64 zo, .slice B2 nr2 d2], .int .i64 0]) (by simp [results, Try.results40, go_sem, o0, o1, o2, o3, o4, o5, o6]) rfl ⟨⟨_, rfl, HR.out w6 A2 c2' B2 d2 hb7 hv7 hu7⟩, hb7⟩
end Ca
end Go.Proofs.Ytjnbdmimflhhiaa

namespace Go.Proofs.Ytjnbdmimflhhiaa
open Go.RowKit
namespace Ca
open Mem Dv Cn Po

theorem goneD_lt {L : List Fr} {b k : Nat} {f : Fr} (hf : L[k]? = some f) (hb : f.1 = b) : (goneD L b).length < L.length := by
  unfold goneD
  have hk := lt_of_get hf
  refine List.length_filter_lt_length_iff_exists.2 ⟨f, List.mem_of_getElem? hf, by simp [hb]⟩
theorem withD_le {L : List Fr} {x : Fr} {k : Nat} {f : Fr} (hf : L[k]? = some f) (hb : f.1 = x.1) : (withD L x).length ≤ L.length := by
  have := goneD_lt hf hb
  unfold withD
  rw [List.length_append]
  simp only [List.length_cons, List.length_nil]
  omega
theorem pZ_get {L : List Fr} {b k : Nat} (h : pZ L b = (k : Int)) : ∃ f, L[k]? = some f ∧ f.1 = b ∧ f.2.2.2 ≠ 0 := by
  unfold pZ at h
  rcases hk : fk L b with _ | j
  · simp [hk] at h
  · obtain ⟨f, hf, hb⟩ := fk_some hk
    simp only [hk, hf, Option.map_some] at h
    split at h
    · omega
    · rename_i hp
      obtain rfl : j = k := by omega
      exact ⟨f, hf, hb, fun e => hp (by rw [e])⟩
/-- four cells stored -/
def set4 (w : World) (b : Nat) (v0 v1 v2 v3 : Value) : World := (((w.setCell ⟨b, 0, none⟩ v0).setCell ⟨b, 1, none⟩ v1).setCell ⟨b, 2, none⟩ v2).setCell ⟨b, 3, none⟩ v3
theorem set4_at {w : World} {b : Nat} {u0 u1 u2 u3 : Value} {U : TypeId} (h : w.heap[b]? = some (.cells #[u0, u1, u2, u3] U (0, 0))) (v0 v1 v2 v3 : Value) : (set4 w b v0 v1 v2 v3).heap[b]? = some (.cells #[v0, v1, v2, v3] U (0, 0)) := by
  unfold set4
  simp [World.setCell, Array.getElem?_modify, h]
theorem set4_into (w : World) (b : Nat) (v0 v1 v2 v3 : Value) : Flow.Into [b] w (set4 w b v0 v1 v2 v3) :=
  (((into_setCell w ⟨b, 0, none⟩ v0).trans (into_setCell _ ⟨b, 1, none⟩ v1)).trans (into_setCell _ ⟨b, 2, none⟩ v2)).trans (into_setCell _ ⟨b, 3, none⟩ v3)
set_option maxRecDepth 100000 in
set_option maxHeartbeats 2000000 in
theorem DWrite_no {W : World} {t : Dt} {h hc c d : Nat} {A B : Option Addr} (H : DL W t h hc A c B) (b : Nat) (x : List UInt8) (hp : pZ t.L b < 0) : Calls Try.prog 39 #[dvV t h hc A c B d, .int .u32 (b : Int), .string (strOf x)] W fun e w' => e = .returned (.tuple #[dvV t h hc A c B d, .int .i64 8]) ∧ Below W.heap.size W w' := by
  have cP := fun w (hb : Below W.heap.size W w) => Lib.hid (Pinned_any (H.kept hb) b (d := d))
  have hq : decide (pZ t.L b < 0) = true := by simpa using hp
  generalize pZ t.L b = zp at *
  unfold dvV at cP ⊢
  generalize t.L.length = N at *
  generalize t.row.length = nr at *
  generalize t.ls.length = nl at *
  generalize (t.m : Int) = zm at *
  generalize (t.r : Int) = zr at *
  generalize (t.s : Int) = zs at *
  generalize (t.most : Int) = zo at *
  clear H
  go_enter Try.func39, Try.ntmps39
  go_upto_region 1 with fail
  obtain ⟨hb2, hx0, hx1, hs⟩ := two_allocs W (.cells #[.int .i64 zm, .slice (some ⟨h, 0, none⟩) nl hc, .int .i64 zr, .int .i64 zs, .slice A N c, .int .i64 zo, .slice B nr d] 39) (.cells #[.int .i64 0, .slice none 0 0, .int .i64 0, .int .i64 0, .slice none 0 0, .int .i64 0, .slice none 0 0] 39)
  generalize (W.alloc (.cells #[.int .i64 zm, .slice (some ⟨h, 0, none⟩) nl hc, .int .i64 zr, .int .i64 zs, .slice A N c, .int .i64 zo, .slice B nr d] 39)).alloc (.cells #[.int .i64 0, .slice none 0 0, .int .i64 0, .int .i64 0, .slice none 0 0, .int .i64 0, .slice none 0 0] 39) = w1 at *
  obtain ⟨b0, hb0⟩ : ∃ b0, b0 = W.heap.size := ⟨_, rfl⟩
  have c1 := cP w1 hb2
  clear cP
  rw [← hb0] at hx0 hx1 hs ⊢
  obtain ⟨q0, q1, q2, q3, q4, q5, q6⟩ := box7 hx0
  have HB0 := Lib.hid hb0
  have HB1 := Lib.hid hb2
  have HX0 := Lib.hid hx0
  have HX1 := Lib.hid hx1
  have HS := Lib.hid hs
  clear hx0 hx1 hs hb2 hb0
  go_wp2_with fail
  refine c1.out.mono ?_
  rintro e w2 ⟨rfl, hb2⟩
  have y0 := (hb2.block b0 (by rw [HS.out]; omega)).trans HX0.out
  have y1 := (hb2.block (b0 + 1) (by rw [HS.out]; omega)).trans HX1.out
  have HBw : Hid (Below W.heap.size W w2) := HB1.out.trans (hb2.mono HB1.out.size)
  have HY0 := Lib.hid y0
  have HY1 := Lib.hid y1
  clear q0 q1 q2 q3 q4 q5 q6 c1 HX0 HX1 hb2 HB1
  obtain ⟨q0, q1, q2, q3, q4, q5, q6⟩ := box7 y0
  obtain ⟨u0, u1, u2, u3, u4, u5, u6⟩ := box7 y1
  have f0 := free7 y1 0
  have f1 := free7 y1 1
  have f2 := free7 y1 2
  have f3 := free7 y1 3
  have f4 := free7 y1 4
  have f5 := free7 y1 5
  have f6 := free7 y1 6
  clear y0 y1
  go_wp2_with fail
  have g7 := set7_at HY1.out (.int .i64 zm) (.slice (some ⟨h, 0, none⟩) nl hc) (.int .i64 zr) (.int .i64 zs) (.slice A N c) (.int .i64 zo) (.slice B nr d)
  have i7 := set7_into w2 (b0 + 1) (.int .i64 zm) (.slice (some ⟨h, 0, none⟩) nl hc) (.int .i64 zr) (.int .i64 zs) (.slice A N c) (.int .i64 zo) (.slice B nr d)
  unfold set7 at g7 i7
  generalize ((((((w2.setCell ⟨b0 + 1, 0, none⟩ (.int .i64 zm)).setCell ⟨b0 + 1, 1, none⟩ (.slice (some ⟨h, 0, none⟩) nl hc)).setCell ⟨b0 + 1, 2, none⟩ (.int .i64 zr)).setCell ⟨b0 + 1, 3, none⟩ (.int .i64 zs)).setCell ⟨b0 + 1, 4, none⟩ (.slice A N c)).setCell ⟨b0 + 1, 5, none⟩ (.int .i64 zo)).setCell ⟨b0 + 1, 6, none⟩ (.slice B nr d) = w3 at *
  obtain ⟨o0, o1, o2, o3, o4, o5, o6⟩ := box7 g7
  have hb7 : Below W.heap.size W w3 := HBw.out.trans (below_in i7 (by have := HB0.out; omega) HBw.out.size)
  exact bodyPost_ret (v := .tuple #[.agg #[.int .i64 zm, .slice (some ⟨h, 0, none⟩) nl hc, .int .i64 zr, .int .i64 zs, .slice A N c, .int .i64 zo, .slice B nr d], .int .i64 8]) (by simp [results, Try.results39, go_sem, o0, o1, o2, o3, o4, o5, o6]) rfl ⟨rfl, hb7⟩
set_option maxRecDepth 100000 in
set_option maxHeartbeats 2000000 in
theorem DWrite_form {W : World} {t : Dt} {h hc c d : Nat} {A B : Option Addr} (H : DL W t h hc A c B) (b : Nat) (x : List UInt8) (hp : 0 ≤ pZ t.L b) (hx : x.length ≠ t.m) : Calls Try.prog 39 #[dvV t h hc A c B d, .int .u32 (b : Int), .string (strOf x)] W fun e w' => e = .returned (.tuple #[dvV t h hc A c B d, .int .i64 3]) ∧ Below W.heap.size W w' := by
  have cP := fun w (hb : Below W.heap.size W w) => Lib.hid (Pinned_any (H.kept hb) b (d := d))
  have hq : decide (pZ t.L b < 0) = false := by simpa using hp
  have hq2 : (((strOf x).size : Int) != (t.m : Int)) = true := by rw [strOf_size]; simp; omega
  generalize pZ t.L b = zp at *
  clear hx
  unfold dvV at cP ⊢
  generalize t.L.length = N at *
  generalize t.row.length = nr at *
  generalize t.ls.length = nl at *
  generalize (t.m : Int) = zm at *
  generalize (t.r : Int) = zr at *
  generalize (t.s : Int) = zs at *
  generalize (t.most : Int) = zo at *
  clear H
  go_enter Try.func39, Try.ntmps39
  go_upto_region 1 with fail
  obtain ⟨hb2, hx0, hx1, hs⟩ := two_allocs W (.cells #[.int .i64 zm, .slice (some ⟨h, 0, none⟩) nl hc, .int .i64 zr, .int .i64 zs, .slice A N c, .int .i64 zo, .slice B nr d] 39) (.cells #[.int .i64 0, .slice none 0 0, .int .i64 0, .int .i64 0, .slice none 0 0, .int .i64 0, .slice none 0 0] 39)
  generalize (W.alloc (.cells #[.int .i64 zm, .slice (some ⟨h, 0, none⟩) nl hc, .int .i64 zr, .int .i64 zs, .slice A N c, .int .i64 zo, .slice B nr d] 39)).alloc (.cells #[.int .i64 0, .slice none 0 0, .int .i64 0, .int .i64 0, .slice none 0 0, .int .i64 0, .slice none 0 0] 39) = w1 at *
  obtain ⟨b0, hb0⟩ : ∃ b0, b0 = W.heap.size := ⟨_, rfl⟩
  have c1 := cP w1 hb2
  clear cP
  rw [← hb0] at hx0 hx1 hs ⊢
  obtain ⟨q0, q1, q2, q3, q4, q5, q6⟩ := box7 hx0
  have HB0 := Lib.hid hb0
  have HB1 := Lib.hid hb2
  have HX0 := Lib.hid hx0
  have HX1 := Lib.hid hx1
  have HS := Lib.hid hs
  clear hx0 hx1 hs hb2 hb0
  go_wp2_with fail
  refine c1.out.mono ?_
  rintro e w2 ⟨rfl, hb2⟩
  have y0 := (hb2.block b0 (by rw [HS.out]; omega)).trans HX0.out
  have y1 := (hb2.block (b0 + 1) (by rw [HS.out]; omega)).trans HX1.out
  have HBw : Hid (Below W.heap.size W w2) := HB1.out.trans (hb2.mono HB1.out.size)
  have HY0 := Lib.hid y0
  have HY1 := Lib.hid y1
  clear q0 q1 q2 q3 q4 q5 q6 c1 HX0 HX1 hb2 HB1
  obtain ⟨q0, q1, q2, q3, q4, q5, q6⟩ := box7 y0
  obtain ⟨u0, u1, u2, u3, u4, u5, u6⟩ := box7 y1
  have f0 := free7 y1 0
  have f1 := free7 y1 1
  have f2 := free7 y1 2
  have f3 := free7 y1 3
  have f4 := free7 y1 4
  have f5 := free7 y1 5
  have f6 := free7 y1 6
  clear y0 y1
  go_wp2_with fail
  have g7 := set7_at HY1.out (.int .i64 zm) (.slice (some ⟨h, 0, none⟩) nl hc) (.int .i64 zr) (.int .i64 zs) (.slice A N c) (.int .i64 zo) (.slice B nr d)
  have i7 := set7_into w2 (b0 + 1) (.int .i64 zm) (.slice (some ⟨h, 0, none⟩) nl hc) (.int .i64 zr) (.int .i64 zs) (.slice A N c) (.int .i64 zo) (.slice B nr d)
  unfold set7 at g7 i7
  generalize ((((((w2.setCell ⟨b0 + 1, 0, none⟩ (.int .i64 zm)).setCell ⟨b0 + 1, 1, none⟩ (.slice (some ⟨h, 0, none⟩) nl hc)).setCell ⟨b0 + 1, 2, none⟩ (.int .i64 zr)).setCell ⟨b0 + 1, 3, none⟩ (.int .i64 zs)).setCell ⟨b0 + 1, 4, none⟩ (.slice A N c)).setCell ⟨b0 + 1, 5, none⟩ (.int .i64 zo)).setCell ⟨b0 + 1, 6, none⟩ (.slice B nr d) = w3 at *
  obtain ⟨o0, o1, o2, o3, o4, o5, o6⟩ := box7 g7
  have hb7 : Below W.heap.size W w3 := HBw.out.trans (below_in i7 (by have := HB0.out; omega) HBw.out.size)
  exact bodyPost_ret (v := .tuple #[.agg #[.int .i64 zm, .slice (some ⟨h, 0, none⟩) nl hc, .int .i64 zr, .int .i64 zs, .slice A N c, .int .i64 zo, .slice B nr d], .int .i64 3]) (by simp [results, Try.results39, go_sem, o0, o1, o2, o3, o4, o5, o6]) rfl ⟨rfl, hb7⟩
set_option maxRecDepth 100000 in
set_option maxHeartbeats 2000000 in
theorem DWrite_yes {W : World} {t : Dt} {h hc c d : Nat} {A B : Option Addr} (H : DL W t h hc A c B) (b : Nat) (x : List UInt8) {k : Nat} {f : Fr} (hz : pZ t.L b = (k : Int)) (hf : t.L[k]? = some f) (hx : x.length = t.m) : Calls Try.prog 39 #[dvV t h hc A c B d, .int .u32 (b : Int), .string (strOf x)] W fun e w' => (∃ v, e = .returned (.tuple #[v, .int .i64 0]) ∧ DRes w' { t with L := withD t.L (f.1, x, true, f.2.2.2) } v) ∧ Below W.heap.size W w' := by
  have cP := fun w (hb : Below W.heap.size W w) => Lib.hid (Pinned_any (H.kept hb) b (d := d))
  have cX := fun w (hb : Below W.heap.size W w) => Lib.hid (with_any (H.kept hb) (f.1, x, true, f.2.2.2) (d := d))
  have hwl := withD_le (x := (f.1, x, true, f.2.2.2)) hf rfl
  have hq2 : (((strOf x).size : Int) != (t.m : Int)) = false := by rw [strOf_size]; simp; omega
  have hkN : k < t.L.length := lt_of_get hf
  have hl0 := H.l0
  have HD := Lib.hid H
  have HF := Lib.hid hf
  have HDR : ∀ (w' : World) (A' : Option Addr) (c' : Nat), Below W.heap.size W w' → V4 w' 0 A' c' (withD t.L (f.1, x, true, f.2.2.2)) → DRes w' { t with L := withD t.L (f.1, x, true, f.2.2.2) } (dvV { t with L := withD t.L (f.1, x, true, f.2.2.2) } h hc A' c' B d) := fun w' A' c' hb hv => ⟨h, hc, A', c', B, d, rfl, HD.out.rf.kept hb, hv, HD.out.ul.kept hb, Nat.le_trans hwl HD.out.l0, HD.out.r0⟩
  have HR := Lib.hid HDR
  have HV := Lib.hid H.v4
  clear HDR HD hf hx hwl H
  rw [hz] at cP
  unfold dvV frV at cX
  unfold dvV at cP HR ⊢
  simp only at cP cX HR ⊢
  generalize DRes = DR at *
  generalize ({ t with L := withD t.L (f.1, x, true, f.2.2.2) } : Dt) = t' at *
  generalize (withD t.L (f.1, x, true, f.2.2.2)).length = M at *
  have HN : Hid (t.L.length = t.L.length) := rfl
  generalize hN : t.L.length = N at *
  generalize t.row.length = nr at *
  generalize t.ls.length = nl at *
  generalize (t.m : Int) = zm at *
  generalize (t.r : Int) = zr at *
  generalize (t.s : Int) = zs at *
  generalize (t.most : Int) = zo at *
  go_enter Try.func39, Try.ntmps39
  go_upto_region 1 with fail
  obtain ⟨hb2, hx0, hx1, hs⟩ := two_allocs W (.cells #[.int .i64 zm, .slice (some ⟨h, 0, none⟩) nl hc, .int .i64 zr, .int .i64 zs, .slice A N c, .int .i64 zo, .slice B nr d] 39) (.cells #[.int .i64 0, .slice none 0 0, .int .i64 0, .int .i64 0, .slice none 0 0, .int .i64 0, .slice none 0 0] 39)
  generalize (W.alloc (.cells #[.int .i64 zm, .slice (some ⟨h, 0, none⟩) nl hc, .int .i64 zr, .int .i64 zs, .slice A N c, .int .i64 zo, .slice B nr d] 39)).alloc (.cells #[.int .i64 0, .slice none 0 0, .int .i64 0, .int .i64 0, .slice none 0 0, .int .i64 0, .slice none 0 0] 39) = w1 at *
  obtain ⟨b0, hb0⟩ : ∃ b0, b0 = W.heap.size := ⟨_, rfl⟩
  have c1 := cP w1 hb2
  clear cP
  rw [← hb0] at hx0 hx1 hs ⊢
  obtain ⟨q0, q1, q2, q3, q4, q5, q6⟩ := box7 hx0
  have HB0 := Lib.hid hb0
  have HB1 := Lib.hid hb2
  have HX0 := Lib.hid hx0
  have HX1 := Lib.hid hx1
  have HS := Lib.hid hs
  clear hx0 hx1 hs hb2 hb0
  go_wp2_with fail
  refine c1.out.mono ?_
  rintro e w2 ⟨rfl, hb2⟩
  have y0 := (hb2.block b0 (by rw [HS.out]; omega)).trans HX0.out
  have y1 := (hb2.block (b0 + 1) (by rw [HS.out]; omega)).trans HX1.out
  have HBw : Hid (Below W.heap.size W w2) := HB1.out.trans (hb2.mono HB1.out.size)
  have HY0 := Lib.hid y0
  have HY1 := Lib.hid y1
  clear q0 q1 q2 q3 q4 q5 q6 c1 HX0 HX1 hb2 HB1
  obtain ⟨q0, q1, q2, q3, q4, q5, q6⟩ := box7 y0
  have H2 := Lib.hid (HV.out.kept HBw.out)
  obtain ⟨g, rfl, e0, e1, e2, e3⟩ := H2.out.cell HF.out
  go_upto_region 7 with fail
  have HX : Hid (Below w2.heap.size w2 (w2.alloc (.cells #[.int .u32 (f.1 : Int), .string (strOf f.2.1), .bool f.2.2.1, .int .i64 (f.2.2.2 : Int)] 94))) := (Below.refl _ _).alloc (Nat.le_refl _) _
  have hx := heap_alloc_new w2 (.cells #[.int .u32 (f.1 : Int), .string (strOf f.2.1), .bool f.2.2.1, .int .i64 (f.2.2.2 : Int)] 94)
  have HE : Hid (∃ s, s = w2.heap.size) := ⟨_, rfl⟩
  generalize w2.alloc (.cells #[.int .u32 (f.1 : Int), .string (strOf f.2.1), .bool f.2.2.1, .int .i64 (f.2.2.2 : Int)] 94) = w3 at *
  obtain ⟨s, hs⟩ := HE.out
  rw [← hs] at hx ⊢
  have HS3 := Lib.hid hs
  have hsb : b0 + 2 ≤ s := by rw [hs]; exact (Array.getElem?_eq_some_iff.1 y1).1
  have HSB := Lib.hid hsb
  have HX0 := Lib.hid hx
  obtain ⟨r0, r1, r2, r3⟩ := boxf hx
  have f1 := free7 hx 1
  have f2 := free7 hx 2
  clear hs hsb hx HE q0 q1 q2 q3 q4 q5 q6 e0 e1 e2 e3 y0 y1 HV H2
  go_upto_region 8 with fail
  have i4 : Flow.Into [s] w3 ((w3.setCell ⟨s, 1, none⟩ (.string (strOf x))).setCell ⟨s, 2, none⟩ (.bool true)) := ((into_setCell w3 ⟨s, 1, none⟩ (.string (strOf x))).trans (into_setCell _ ⟨s, 2, none⟩ (.bool true)))
  have HG : Hid (((w3.setCell ⟨s, 1, none⟩ (.string (strOf x))).setCell ⟨s, 2, none⟩ (.bool true)).heap[s]? = some (.cells #[.int .u32 (f.1 : Int), .string (strOf x), .bool true, .int .i64 (f.2.2.2 : Int)] 94 (0, 0))) := by
    have := HX0.out
    unfold Hid
    simp [World.setCell, Array.getElem?_modify, this]
  clear r0 r1 r2 r3 f1 f2
  generalize (w3.setCell ⟨s, 1, none⟩ (.string (strOf x))).setCell ⟨s, 2, none⟩ (.bool true) = w4 at *
  have hw3 : Below W.heap.size W w3 := HBw.out.trans (HX.out.mono HBw.out.size)
  have hsW : W.heap.size ≤ s := by have := HSB.out; have := HB0.out; omega
  have hw4 : Below W.heap.size W w4 := hw3.trans (below_in i4 hsW hw3.size)
  have l0 := Array.getElem?_eq_some_iff.1 HY0.out
  have l1 := Array.getElem?_eq_some_iff.1 HY1.out
  have z0 := ((i4.block b0 (Nat.lt_of_lt_of_le l0.1 HX.out.size) (by have := HSB.out; simp; omega)).trans (HX.out.block b0 l0.1)).trans HY0.out
  have z1 := ((i4.block (b0 + 1) (Nat.lt_of_lt_of_le l1.1 HX.out.size) (by have := HSB.out; simp; omega)).trans (HX.out.block (b0 + 1) l1.1)).trans HY1.out
  have c2 := cX w4 hw4
  have HBw4 := Lib.hid hw4
  have HZ0 := Lib.hid z0
  have HZ1 := Lib.hid z1
  obtain ⟨q0, q1, q2, q3, q4, q5, q6⟩ := box7 z0
  obtain ⟨r0, r1, r2, r3⟩ := boxf HG.out
  clear z0 z1 l0 l1 hw4 hsW hw3 i4 cX HX0 HX HBw HY0 HY1
  go_wp2_with fail
  refine c2.out.mono ?_
  rintro e w5 ⟨⟨A2, c2', rfl, hv5⟩, hb5⟩
  have y1 := (hb5.block (b0 + 1) (Array.getElem?_eq_some_iff.1 HZ1.out).1).trans HZ1.out
  have hsz : b0 + 2 ≤ w4.heap.size := (Array.getElem?_eq_some_iff.1 HZ1.out).1
  have HV5 : Hid (V4 w5 (b0 + 2) A2 c2' (withD t.L (f.1, x, true, f.2.2.2))) := hv5.mono hsz
  have HBw5 : Hid (Below W.heap.size W w5) := HBw4.out.trans (hb5.mono HBw4.out.size)
  have HYY := Lib.hid y1
  clear q0 q1 q2 q3 q4 q5 q6 r0 r1 r2 r3 c2 hv5 hb5 hsz HBw4 HG HZ0 HZ1
  obtain ⟨u0, u1, u2, u3, u4, u5, u6⟩ := box7 y1
  have f0 := free7 y1 0
  have f1 := free7 y1 1
  have f2 := free7 y1 2
  have f3 := free7 y1 3
  have f4 := free7 y1 4
  have f5 := free7 y1 5
  have f6 := free7 y1 6
  clear y1
  go_wp2_with fail
  have g7 := set7_at HYY.out (.int .i64 zm) (.slice (some ⟨h, 0, none⟩) nl hc) (.int .i64 zr) (.int .i64 zs) (.slice A2 M c2') (.int .i64 zo) (.slice B nr d)
  have i7 := set7_into w5 (b0 + 1) (.int .i64 zm) (.slice (some ⟨h, 0, none⟩) nl hc) (.int .i64 zr) (.int .i64 zs) (.slice A2 M c2') (.int .i64 zo) (.slice B nr d)
  unfold set7 at g7 i7
  generalize ((((((w5.setCell ⟨b0 + 1, 0, none⟩ (.int .i64 zm)).setCell ⟨b0 + 1, 1, none⟩ (.slice (some ⟨h, 0, none⟩) nl hc)).setCell ⟨b0 + 1, 2, none⟩ (.int .i64 zr)).setCell ⟨b0 + 1, 3, none⟩ (.int .i64 zs)).setCell ⟨b0 + 1, 4, none⟩ (.slice A2 M c2')).setCell ⟨b0 + 1, 5, none⟩ (.int .i64 zo)).setCell ⟨b0 + 1, 6, none⟩ (.slice B nr d) = w6 at *
  obtain ⟨o0, o1, o2, o3, o4, o5, o6⟩ := box7 g7
  have hb7 : Below W.heap.size W w6 := HBw5.out.trans (below_in i7 (by have := HB0.out; omega) HBw5.out.size)
  have hv7 : V4 w6 0 A2 c2' (withD t.L (f.1, x, true, f.2.2.2)) := (HV5.out.into i7 (fun a ha => by
    have := (HV5.out.at_ a ha).1
    simp; omega)).mono (Nat.zero_le _)
  exact bodyPost_ret (v := .tuple #[.agg #[.int .i64 zm, .slice (some ⟨h, 0, none⟩) nl hc, .int .i64 zr, .int .i64 zs, .slice A2 M c2', .int .i64 zo, .slice B nr d], .int .i64 0]) (by simp [results, Try.results39, go_sem, o0, o1, o2, o3, o4, o5, o6]) rfl ⟨⟨_, rfl, HR.out w6 A2 c2' hb7 hv7⟩, hb7⟩
end Ca
end Go.Proofs.Ytjnbdmimflhhiaa

namespace Go.Proofs.Ytjnbdmimflhhiaa
open Go.RowKit
namespace Ca
open Mem Dv Cn Po

theorem wpList_append_u32s {w : World} {ops : Array Oper} {rest : List Oper} {o : Oper} {a : Act} {Q : Exit → Act → World → Prop} (hgd : o.guard = none) (s x : Operand)
    (ho : o.op = .call { callee := .builtin .append, args := #[s, x], argTypes := #[37, 37] }) (B : Nat)
    (S : Option Addr) (n0 c0 : Nat) (xs : List Nat) (hs : a.eval s = .slice S n0 c0) (hn0 : xs.length = n0) (h0 : 0 < n0) (hown : VO 23 w B S c0 (xs.map u32V)) (A : Option Addr) (m c : Nat) (l : List Nat) (hx : a.eval x = .slice A m c) (hl : l.length = m) (hb : UL w A l)
    (hsz : n0 + m ≤ 1048576) (hB : B ≤ w.heap.size)
    (h : ∀ S' c' w', Hid (VO 23 w' B S' c' ((xs ++ l).map u32V)) → Hid (Below B w w') → wpList Try.prog ops Q rest (a.put o.dst (.slice S' (n0 + m) c')) w') : wpList Try.prog ops Q (o :: rest) a w := by
  subst hl hn0
  obtain ⟨i, hi, hz, hs1, hb1⟩ := info_parts u32info
  refine wpList_plain hgd fun K hK => ?_
  have hown' : w.ownsRow B 23 1 (.slice S xs.length c0) xs.length (xs.map u32V) := by
    have := hown
    unfold VO at this
    rwa [List.length_map] at this
  obtain ⟨S', c', w', hrun, h2, h3⟩ : ∃ S' c' w', (Builtin.append_ #[37, 37] o.type #[.slice S xs.length c0, .slice A l.length c]).run Try.prog w = .ok (.slice S' (xs.length + l.length) c') w' ∧ w'.ownsRow B 23 1 (.slice S' (xs.length + l.length) c') (xs.length + l.length) (xs.map u32V ++ l.map u32V) ∧ Below B w w' := by
    cases A with
    | none =>
      have hl0 : l = [] := by
        cases l with
        | nil => rfl
        | cons y l => obtain ⟨_, e, _⟩ := hb (by simp); cases e
      subst hl0
      refine ⟨S, c0, w, ?_, by simpa using hown', Below.refl _ _⟩
      rcases hown'.2 with ⟨_, h'⟩ | ⟨g, cap, cur, h', _, _, hnc, _⟩
      · omega
      · obtain ⟨rfl, rfl⟩ : S = some ⟨g, 0, none⟩ ∧ c0 = cap := by simpa using h'
        simp [Builtin.append_, run_underlying Try.underlying37, sizeOf, typeInfo, hi, Builtin.lenOf, Builtin.firstCells, hnc, storeCells]
    | some ad =>
      obtain ⟨v', w', h1, h2, h3, _, h5⟩ := run_append_own_at (P := Try.prog) w B 37 o.type 23 i (.int .u32 0) 1 4 Try.underlying37 hi hz hs1 hb1 rfl (by decide) (.slice S xs.length c0) xs.length (xs.map u32V) hown' ad l.length c (l.map u32V) (by simp) (fun j u hj => by
        have hjl : j < l.length := by
          rcases Nat.lt_or_ge j l.length with h' | h'
          · exact h'
          · rw [List.getElem?_eq_none (by simpa using h')] at hj; cases hj
        obtain ⟨b, e, _, hc⟩ := hb (by omega)
        obtain rfl : ad = ⟨b, 0, none⟩ := by simpa using e
        have hv : u = u32V l[j] := by simpa [hjl] using hj.symm
        have := hc j hjl
        rw [hv, show u32V l[j] = .int .u32 (l[j] : Int) from rfl, ← this]
        by_cases h0 : j = 0 <;> simp [Addr.add, h0]) (fun u hu => by
          obtain ⟨y, _, rfl⟩ := List.mem_map.1 hu
          rfl) (by unfold maxLen; omega) (by omega) hB
      have hv' : ∃ S' c', v' = .slice S' (xs.length + l.length) c' := by
        rcases h2.2 with ⟨rfl, h0⟩ | ⟨g, cap, cur, rfl, _⟩
        · exact ⟨none, 0, by rw [h0]⟩
        · exact ⟨_, _, rfl⟩
      obtain ⟨S', c', rfl⟩ := hv'
      refine ⟨S', c', w', h1, h2, (Below.refl _ _).grown h3 hB fun k hk => ?_⟩
      rcases S with _ | a
      · cases hk
      · obtain rfl : a.block = k := by simpa [Value.ownBlock] using hk
        exact (hown.at_ _ rfl).1
  unfold Oper.wp execOp
  simp only [ho, resolve, invoke, builtin, Sem.run_bind, Sem.run_pure, Result.andThen_ok, List.map_toArray, List.map_cons, List.map_nil, hs, hx, hrun]
  refine hK _ _ (h S' c' w' ?_ h3)
  unfold Hid VO
  rw [List.length_map, List.length_append, List.map_append]
  exact h2
/-- a literal of one number -/
theorem lit_u32 (w : World) (x : Nat) (B : Nat) (hB : B ≤ w.heap.size) : VO 23 (w.alloc (.cells #[.int .u32 (x : Int)] 23)) B (some ⟨w.heap.size, 0, none⟩) 1 ([x].map u32V) :=
  World.ownsRow_lit (base := B) (e := 23) (size := 1) w #[.int .u32 (x : Int)] 1 hB (by unfold maxLen; omega) (by simp)
end Ca
end Go.Proofs.Ytjnbdmimflhhiaa

namespace Go.Proofs.Ytjnbdmimflhhiaa
open Go.RowKit
namespace Ca
open Mem Dv Cn Po

set_option maxRecDepth 100000 in
set_option maxHeartbeats 2000000 in
theorem DUnpin_no {W : World} {t : Dt} {h hc c d : Nat} {A B : Option Addr} (H : DL W t h hc A c B) (b : Nat) (hp : pZ t.L b < 0) : Calls Try.prog 38 #[dvV t h hc A c B d, .int .u32 (b : Int)] W fun e w' => e = .returned (.tuple #[dvV t h hc A c B d, .int .i64 8]) ∧ Below W.heap.size W w' := by
  have cP := fun w (hb : Below W.heap.size W w) => Lib.hid (Pinned_any (H.kept hb) b (d := d))
  have hq : decide (pZ t.L b < 0) = true := by simpa using hp
  generalize pZ t.L b = zp at *
  unfold dvV at cP ⊢
  generalize t.L.length = N at *
  generalize t.row.length = nr at *
  generalize t.ls.length = nl at *
  generalize (t.m : Int) = zm at *
  generalize (t.r : Int) = zr at *
  generalize (t.s : Int) = zs at *
  generalize (t.most : Int) = zo at *
  clear H
  go_enter Try.func38, Try.ntmps38
  go_upto_region 1 with fail
  obtain ⟨hb2, hx0, hx1, hs⟩ := two_allocs W (.cells #[.int .i64 zm, .slice (some ⟨h, 0, none⟩) nl hc, .int .i64 zr, .int .i64 zs, .slice A N c, .int .i64 zo, .slice B nr d] 39) (.cells #[.int .i64 0, .slice none 0 0, .int .i64 0, .int .i64 0, .slice none 0 0, .int .i64 0, .slice none 0 0] 39)
  generalize (W.alloc (.cells #[.int .i64 zm, .slice (some ⟨h, 0, none⟩) nl hc, .int .i64 zr, .int .i64 zs, .slice A N c, .int .i64 zo, .slice B nr d] 39)).alloc (.cells #[.int .i64 0, .slice none 0 0, .int .i64 0, .int .i64 0, .slice none 0 0, .int .i64 0, .slice none 0 0] 39) = w1 at *
  obtain ⟨b0, hb0⟩ : ∃ b0, b0 = W.heap.size := ⟨_, rfl⟩
  have c1 := cP w1 hb2
  clear cP
  rw [← hb0] at hx0 hx1 hs ⊢
  obtain ⟨q0, q1, q2, q3, q4, q5, q6⟩ := box7 hx0
  have HB0 := Lib.hid hb0
  have HB1 := Lib.hid hb2
  have HX0 := Lib.hid hx0
  have HX1 := Lib.hid hx1
  have HS := Lib.hid hs
  clear hx0 hx1 hs hb2 hb0
  go_wp2_with fail
  refine c1.out.mono ?_
  rintro e w2 ⟨rfl, hb2⟩
  have y0 := (hb2.block b0 (by rw [HS.out]; omega)).trans HX0.out
  have y1 := (hb2.block (b0 + 1) (by rw [HS.out]; omega)).trans HX1.out
  have HBw : Hid (Below W.heap.size W w2) := HB1.out.trans (hb2.mono HB1.out.size)
  have HY0 := Lib.hid y0
  have HY1 := Lib.hid y1
  clear q0 q1 q2 q3 q4 q5 q6 c1 HX0 HX1 hb2 HB1
  obtain ⟨q0, q1, q2, q3, q4, q5, q6⟩ := box7 y0
  obtain ⟨u0, u1, u2, u3, u4, u5, u6⟩ := box7 y1
  have f0 := free7 y1 0
  have f1 := free7 y1 1
  have f2 := free7 y1 2
  have f3 := free7 y1 3
  have f4 := free7 y1 4
  have f5 := free7 y1 5
  have f6 := free7 y1 6
  clear y0 y1
  go_wp2_with fail
  have g7 := set7_at HY1.out (.int .i64 zm) (.slice (some ⟨h, 0, none⟩) nl hc) (.int .i64 zr) (.int .i64 zs) (.slice A N c) (.int .i64 zo) (.slice B nr d)
  have i7 := set7_into w2 (b0 + 1) (.int .i64 zm) (.slice (some ⟨h, 0, none⟩) nl hc) (.int .i64 zr) (.int .i64 zs) (.slice A N c) (.int .i64 zo) (.slice B nr d)
  unfold set7 at g7 i7
  generalize ((((((w2.setCell ⟨b0 + 1, 0, none⟩ (.int .i64 zm)).setCell ⟨b0 + 1, 1, none⟩ (.slice (some ⟨h, 0, none⟩) nl hc)).setCell ⟨b0 + 1, 2, none⟩ (.int .i64 zr)).setCell ⟨b0 + 1, 3, none⟩ (.int .i64 zs)).setCell ⟨b0 + 1, 4, none⟩ (.slice A N c)).setCell ⟨b0 + 1, 5, none⟩ (.int .i64 zo)).setCell ⟨b0 + 1, 6, none⟩ (.slice B nr d) = w3 at *
  obtain ⟨o0, o1, o2, o3, o4, o5, o6⟩ := box7 g7
  have hb7 : Below W.heap.size W w3 := HBw.out.trans (below_in i7 (by have := HB0.out; omega) HBw.out.size)
  exact bodyPost_ret (v := .tuple #[.agg #[.int .i64 zm, .slice (some ⟨h, 0, none⟩) nl hc, .int .i64 zr, .int .i64 zs, .slice A N c, .int .i64 zo, .slice B nr d], .int .i64 8]) (by simp [results, Try.results38, go_sem, o0, o1, o2, o3, o4, o5, o6]) rfl ⟨rfl, hb7⟩
set_option maxRecDepth 100000 in
set_option maxHeartbeats 2000000 in
theorem DUnpin_more {W : World} {t : Dt} {h hc c d : Nat} {A B : Option Addr} (H : DL W t h hc A c B) (b : Nat) {k : Nat} {f : Fr} (hz : pZ t.L b = (k : Int)) (hf : t.L[k]? = some f) (hp : 2 ≤ f.2.2.2) (hp2 : f.2.2.2 ≤ 1000000) : Calls Try.prog 38 #[dvV t h hc A c B d, .int .u32 (b : Int)] W fun e w' => (∃ v, e = .returned (.tuple #[v, .int .i64 0]) ∧ DRes w' { t with L := withD t.L (f.1, f.2.1, f.2.2.1, f.2.2.2 - 1) } v) ∧ Below W.heap.size W w' := by
  have cP := fun w (hb : Below W.heap.size W w) => Lib.hid (Pinned_any (H.kept hb) b (d := d))
  have cX := fun w (hb : Below W.heap.size W w) => Lib.hid (with_any (H.kept hb) (f.1, f.2.1, f.2.2.1, f.2.2.2 - 1) (d := d))
  have hwl := withD_le (x := (f.1, f.2.1, f.2.2.1, f.2.2.2 - 1)) hf rfl
  have hwk : IntKind.i64.wrap ((f.2.2.2 : Int) - 1) = ((f.2.2.2 - 1 : Nat) : Int) := by rw [IntKind.wrap_i64]; omega
  have hq0 : (((f.2.2.2 - 1 : Nat) : Int) == 0) = false := by simp; omega
  have hkN : k < t.L.length := lt_of_get hf
  have hl0 := H.l0
  have HD := Lib.hid H
  have HF := Lib.hid hf
  have HDR : ∀ (w' : World) (A' : Option Addr) (c' : Nat), Below W.heap.size W w' → V4 w' 0 A' c' (withD t.L (f.1, f.2.1, f.2.2.1, f.2.2.2 - 1)) → DRes w' { t with L := withD t.L (f.1, f.2.1, f.2.2.1, f.2.2.2 - 1) } (dvV { t with L := withD t.L (f.1, f.2.1, f.2.2.1, f.2.2.2 - 1) } h hc A' c' B d) := fun w' A' c' hb hv => ⟨h, hc, A', c', B, d, rfl, HD.out.rf.kept hb, hv, HD.out.ul.kept hb, Nat.le_trans hwl HD.out.l0, HD.out.r0⟩
  have HR := Lib.hid HDR
  have HV := Lib.hid H.v4
  clear HDR HD hf hwl H
  rw [hz] at cP
  unfold dvV frV at cX
  unfold dvV at cP HR ⊢
  simp only at cP cX HR ⊢
  generalize DRes = DR at *
  generalize ({ t with L := withD t.L (f.1, f.2.1, f.2.2.1, f.2.2.2 - 1) } : Dt) = t' at *
  generalize (withD t.L (f.1, f.2.1, f.2.2.1, f.2.2.2 - 1)).length = M at *
  generalize hN : t.L.length = N at *
  generalize t.row.length = nr at *
  generalize t.ls.length = nl at *
  generalize (t.m : Int) = zm at *
  generalize (t.r : Int) = zr at *
  generalize (t.s : Int) = zs at *
  generalize (t.most : Int) = zo at *
  go_enter Try.func38, Try.ntmps38
  go_upto_region 1 with fail
  obtain ⟨hb2, hx0, hx1, hs⟩ := two_allocs W (.cells #[.int .i64 zm, .slice (some ⟨h, 0, none⟩) nl hc, .int .i64 zr, .int .i64 zs, .slice A N c, .int .i64 zo, .slice B nr d] 39) (.cells #[.int .i64 0, .slice none 0 0, .int .i64 0, .int .i64 0, .slice none 0 0, .int .i64 0, .slice none 0 0] 39)
  generalize (W.alloc (.cells #[.int .i64 zm, .slice (some ⟨h, 0, none⟩) nl hc, .int .i64 zr, .int .i64 zs, .slice A N c, .int .i64 zo, .slice B nr d] 39)).alloc (.cells #[.int .i64 0, .slice none 0 0, .int .i64 0, .int .i64 0, .slice none 0 0, .int .i64 0, .slice none 0 0] 39) = w1 at *
  obtain ⟨b0, hb0⟩ : ∃ b0, b0 = W.heap.size := ⟨_, rfl⟩
  have c1 := cP w1 hb2
  clear cP
  rw [← hb0] at hx0 hx1 hs ⊢
  obtain ⟨q0, q1, q2, q3, q4, q5, q6⟩ := box7 hx0
  have HB0 := Lib.hid hb0
  have HB1 := Lib.hid hb2
  have HX0 := Lib.hid hx0
  have HX1 := Lib.hid hx1
  have HS := Lib.hid hs
  clear hx0 hx1 hs hb2 hb0
  go_wp2_with fail
  refine c1.out.mono ?_
  rintro e w2 ⟨rfl, hb2⟩
  have y0 := (hb2.block b0 (by rw [HS.out]; omega)).trans HX0.out
  have y1 := (hb2.block (b0 + 1) (by rw [HS.out]; omega)).trans HX1.out
  have HBw : Hid (Below W.heap.size W w2) := HB1.out.trans (hb2.mono HB1.out.size)
  have HY0 := Lib.hid y0
  have HY1 := Lib.hid y1
  clear q0 q1 q2 q3 q4 q5 q6 c1 HX0 HX1 hb2 HB1
  obtain ⟨q0, q1, q2, q3, q4, q5, q6⟩ := box7 y0
  have H2 := Lib.hid (HV.out.kept HBw.out)
  obtain ⟨g, rfl, e0, e1, e2, e3⟩ := H2.out.cell HF.out
  go_upto_region 5 with fail
  have HX : Hid (Below w2.heap.size w2 (w2.alloc (.cells #[.int .u32 (f.1 : Int), .string (strOf f.2.1), .bool f.2.2.1, .int .i64 (f.2.2.2 : Int)] 94))) := (Below.refl _ _).alloc (Nat.le_refl _) _
  have hx := heap_alloc_new w2 (.cells #[.int .u32 (f.1 : Int), .string (strOf f.2.1), .bool f.2.2.1, .int .i64 (f.2.2.2 : Int)] 94)
  have HE : Hid (∃ s, s = w2.heap.size) := ⟨_, rfl⟩
  generalize w2.alloc (.cells #[.int .u32 (f.1 : Int), .string (strOf f.2.1), .bool f.2.2.1, .int .i64 (f.2.2.2 : Int)] 94) = w3 at *
  obtain ⟨s, hs⟩ := HE.out
  rw [← hs] at hx ⊢
  have HS3 := Lib.hid hs
  have hsb : b0 + 2 ≤ s := by rw [hs]; exact (Array.getElem?_eq_some_iff.1 y1).1
  have HSB := Lib.hid hsb
  have HX0 := Lib.hid hx
  obtain ⟨r0, r1, r2, r3⟩ := boxf hx
  have f3 := free7 hx 3
  clear hs hsb hx HE q0 q1 q2 q3 q4 q5 q6 e0 e1 e2 e3 y0 y1 HV H2
  go_upto_region 8 with fail
  have i4 : Flow.Into [s] w3 (w3.setCell ⟨s, 3, none⟩ (.int .i64 ((f.2.2.2 - 1 : Nat) : Int))) := (into_setCell w3 ⟨s, 3, none⟩ (.int .i64 ((f.2.2.2 - 1 : Nat) : Int)))
  have HG : Hid ((w3.setCell ⟨s, 3, none⟩ (.int .i64 ((f.2.2.2 - 1 : Nat) : Int))).heap[s]? = some (.cells #[.int .u32 (f.1 : Int), .string (strOf f.2.1), .bool f.2.2.1, .int .i64 ((f.2.2.2 - 1 : Nat) : Int)] 94 (0, 0))) := by
    have := HX0.out
    unfold Hid
    simp [World.setCell, Array.getElem?_modify, this]
  clear r0 r1 r2 r3 f3
  generalize w3.setCell ⟨s, 3, none⟩ (.int .i64 ((f.2.2.2 - 1 : Nat) : Int)) = w4 at *
  have hw3 : Below W.heap.size W w3 := HBw.out.trans (HX.out.mono HBw.out.size)
  have hsW : W.heap.size ≤ s := by have := HSB.out; have := HB0.out; omega
  have hw4 : Below W.heap.size W w4 := hw3.trans (below_in i4 hsW hw3.size)
  have l0 := Array.getElem?_eq_some_iff.1 HY0.out
  have l1 := Array.getElem?_eq_some_iff.1 HY1.out
  have z0 := ((i4.block b0 (Nat.lt_of_lt_of_le l0.1 HX.out.size) (by have := HSB.out; simp; omega)).trans (HX.out.block b0 l0.1)).trans HY0.out
  have z1 := ((i4.block (b0 + 1) (Nat.lt_of_lt_of_le l1.1 HX.out.size) (by have := HSB.out; simp; omega)).trans (HX.out.block (b0 + 1) l1.1)).trans HY1.out
  have c2 := cX w4 hw4
  have HBw4 := Lib.hid hw4
  have HZ0 := Lib.hid z0
  have HZ1 := Lib.hid z1
  obtain ⟨q0, q1, q2, q3, q4, q5, q6⟩ := box7 z0
  obtain ⟨r0, r1, r2, r3⟩ := boxf HG.out
  clear z0 z1 l0 l1 hw4 hsW hw3 i4 cX HX0 HX HBw HY0 HY1
  go_wp2_with fail
  refine c2.out.mono ?_
  rintro e w5 ⟨⟨A2, c2', rfl, hv5⟩, hb5⟩
  have y1 := (hb5.block (b0 + 1) (Array.getElem?_eq_some_iff.1 HZ1.out).1).trans HZ1.out
  have hsz : b0 + 2 ≤ w4.heap.size := (Array.getElem?_eq_some_iff.1 HZ1.out).1
  have HV5 : Hid (V4 w5 (b0 + 2) A2 c2' (withD t.L (f.1, f.2.1, f.2.2.1, f.2.2.2 - 1))) := hv5.mono hsz
  have HBw5 : Hid (Below W.heap.size W w5) := HBw4.out.trans (hb5.mono HBw4.out.size)
  have HYY := Lib.hid y1
  clear q0 q1 q2 q3 q4 q5 q6 r0 r1 r2 r3 c2 hv5 hb5 hsz HBw4 HG HZ0 HZ1
  obtain ⟨u0, u1, u2, u3, u4, u5, u6⟩ := box7 y1
  have f0 := free7 y1 0
  have f1 := free7 y1 1
  have f2 := free7 y1 2
  have f3 := free7 y1 3
  have f4 := free7 y1 4
  have f5 := free7 y1 5
  have f6 := free7 y1 6
  clear y1
  go_wp2_with fail
  have g7 := set7_at HYY.out (.int .i64 zm) (.slice (some ⟨h, 0, none⟩) nl hc) (.int .i64 zr) (.int .i64 zs) (.slice A2 M c2') (.int .i64 zo) (.slice B nr d)
  have i7 := set7_into w5 (b0 + 1) (.int .i64 zm) (.slice (some ⟨h, 0, none⟩) nl hc) (.int .i64 zr) (.int .i64 zs) (.slice A2 M c2') (.int .i64 zo) (.slice B nr d)
  unfold set7 at g7 i7
  generalize ((((((w5.setCell ⟨b0 + 1, 0, none⟩ (.int .i64 zm)).setCell ⟨b0 + 1, 1, none⟩ (.slice (some ⟨h, 0, none⟩) nl hc)).setCell ⟨b0 + 1, 2, none⟩ (.int .i64 zr)).setCell ⟨b0 + 1, 3, none⟩ (.int .i64 zs)).setCell ⟨b0 + 1, 4, none⟩ (.slice A2 M c2')).setCell ⟨b0 + 1, 5, none⟩ (.int .i64 zo)).setCell ⟨b0 + 1, 6, none⟩ (.slice B nr d) = w6 at *
  obtain ⟨o0, o1, o2, o3, o4, o5, o6⟩ := box7 g7
  have hb7 : Below W.heap.size W w6 := HBw5.out.trans (below_in i7 (by have := HB0.out; omega) HBw5.out.size)
  have hv7 : V4 w6 0 A2 c2' (withD t.L (f.1, f.2.1, f.2.2.1, f.2.2.2 - 1)) := (HV5.out.into i7 (fun a ha => by
    have := (HV5.out.at_ a ha).1
    simp; omega)).mono (Nat.zero_le _)
  exact bodyPost_ret (v := .tuple #[.agg #[.int .i64 zm, .slice (some ⟨h, 0, none⟩) nl hc, .int .i64 zr, .int .i64 zs, .slice A2 M c2', .int .i64 zo, .slice B nr d], .int .i64 0]) (by simp [results, Try.results38, go_sem, o0, o1, o2, o3, o4, o5, o6]) rfl ⟨⟨_, rfl, HR.out w6 A2 c2' hb7 hv7⟩, hb7⟩
set_option maxRecDepth 100000 in
set_option maxHeartbeats 2000000 in
theorem DUnpin_last {W : World} {t : Dt} {h hc c d : Nat} {A B : Option Addr} (H : DL W t h hc A c B) (b : Nat) {k : Nat} {f : Fr} (hz : pZ t.L b = (k : Int)) (hf : t.L[k]? = some f) (hp : f.2.2.2 = 1) (hr : t.row.length + 1 ≤ 100) : Calls Try.prog 38 #[dvV t h hc A c B d, .int .u32 (b : Int)] W fun e w' => (∃ v, e = .returned (.tuple #[v, .int .i64 0]) ∧ DRes w' { t with L := withD t.L (f.1, f.2.1, f.2.2.1, 0), row := b :: t.row } v) ∧ Below W.heap.size W w' := by
  have cP := fun w (hb : Below W.heap.size W w) => Lib.hid (Pinned_any (H.kept hb) b (d := d))
  have cX := fun w (hb : Below W.heap.size W w) (B2 : Option Addr) (d2 : Nat) (hU : UT w B2 (b :: t.row)) => Lib.hid (with_any (t := { t with row := b :: t.row }) (h := h) (hc := hc) (A := A) (c := c) (B := B2) (d := d2) (W := w) ⟨H.rf.kept hb, H.v4.kept hb, hU, H.l0, by simpa using hr⟩ (f.1, f.2.1, f.2.2.1, 0))
  have hwl := withD_le (x := (f.1, f.2.1, f.2.2.1, 0)) hf rfl
  have hkN : k < t.L.length := lt_of_get hf
  have hl0 := H.l0
  have HD := Lib.hid H
  have HF := Lib.hid hf
  have HDR : ∀ (w' : World) (A' : Option Addr) (c' : Nat) (B2 : Option Addr) (d2 : Nat), Below W.heap.size W w' → V4 w' 0 A' c' (withD t.L (f.1, f.2.1, f.2.2.1, 0)) → UT w' B2 (b :: t.row) → DRes w' { t with L := withD t.L (f.1, f.2.1, f.2.2.1, 0), row := b :: t.row } (dvV { t with L := withD t.L (f.1, f.2.1, f.2.2.1, 0), row := b :: t.row } h hc A' c' B2 d2) := fun w' A' c' B2 d2 hb hv hu => ⟨h, hc, A', c', B2, d2, rfl, HD.out.rf.kept hb, hv, hu, Nat.le_trans hwl HD.out.l0, by simpa using hr⟩
  have HR := Lib.hid HDR
  have HV := Lib.hid H.v4
  have HU := Lib.hid H.ul
  clear HDR HD hf hwl H
  rw [hz] at cP
  unfold dvV frV at cX
  unfold dvV at cP HR ⊢
  simp only [List.length_cons] at cP cX HR ⊢
  generalize DRes = DR at *
  generalize ({ t with L := withD t.L (f.1, f.2.1, f.2.2.1, 0), row := b :: t.row } : Dt) = t' at *
  generalize (withD t.L (f.1, f.2.1, f.2.2.1, 0)).length = M at *
  generalize hN : t.L.length = N at *
  have HNR : Hid (∃ nr, nr = t.row.length) := ⟨_, rfl⟩
  generalize hNR : t.row.length = nr at *
  clear HNR
  generalize t.ls.length = nl at *
  generalize (t.m : Int) = zm at *
  generalize (t.r : Int) = zr at *
  generalize (t.s : Int) = zs at *
  generalize (t.most : Int) = zo at *
  go_enter Try.func38, Try.ntmps38
  go_upto_region 1 with fail
  obtain ⟨hb2, hx0, hx1, hs⟩ := two_allocs W (.cells #[.int .i64 zm, .slice (some ⟨h, 0, none⟩) nl hc, .int .i64 zr, .int .i64 zs, .slice A N c, .int .i64 zo, .slice B nr d] 39) (.cells #[.int .i64 0, .slice none 0 0, .int .i64 0, .int .i64 0, .slice none 0 0, .int .i64 0, .slice none 0 0] 39)
  generalize (W.alloc (.cells #[.int .i64 zm, .slice (some ⟨h, 0, none⟩) nl hc, .int .i64 zr, .int .i64 zs, .slice A N c, .int .i64 zo, .slice B nr d] 39)).alloc (.cells #[.int .i64 0, .slice none 0 0, .int .i64 0, .int .i64 0, .slice none 0 0, .int .i64 0, .slice none 0 0] 39) = w1 at *
  obtain ⟨b0, hb0⟩ : ∃ b0, b0 = W.heap.size := ⟨_, rfl⟩
  have c1 := cP w1 hb2
  clear cP
  rw [← hb0] at hx0 hx1 hs ⊢
  obtain ⟨q0, q1, q2, q3, q4, q5, q6⟩ := box7 hx0
  have HB0 := Lib.hid hb0
  have HB1 := Lib.hid hb2
  have HX0 := Lib.hid hx0
  have HX1 := Lib.hid hx1
  have HS := Lib.hid hs
  clear hx0 hx1 hs hb2 hb0
  go_wp2_with fail
  refine c1.out.mono ?_
  rintro e w2 ⟨rfl, hb2⟩
  have y0 := (hb2.block b0 (by rw [HS.out]; omega)).trans HX0.out
  have y1 := (hb2.block (b0 + 1) (by rw [HS.out]; omega)).trans HX1.out
  have HBw : Hid (Below W.heap.size W w2) := HB1.out.trans (hb2.mono HB1.out.size)
  have HY0 := Lib.hid y0
  have HY1 := Lib.hid y1
  clear q0 q1 q2 q3 q4 q5 q6 c1 HX0 HX1 hb2 HB1
  obtain ⟨q0, q1, q2, q3, q4, q5, q6⟩ := box7 y0
  have H2 := Lib.hid (HV.out.kept HBw.out)
  obtain ⟨g, rfl, e0, e1, e2, e3⟩ := H2.out.cell HF.out
  rw [hp] at e3
  go_upto_region 5 with fail
  have HX : Hid (Below w2.heap.size w2 (w2.alloc (.cells #[.int .u32 (f.1 : Int), .string (strOf f.2.1), .bool f.2.2.1, .int .i64 1] 94))) := (Below.refl _ _).alloc (Nat.le_refl _) _
  have hx := heap_alloc_new w2 (.cells #[.int .u32 (f.1 : Int), .string (strOf f.2.1), .bool f.2.2.1, .int .i64 1] 94)
  have HE : Hid (∃ s, s = w2.heap.size) := ⟨_, rfl⟩
  generalize w2.alloc (.cells #[.int .u32 (f.1 : Int), .string (strOf f.2.1), .bool f.2.2.1, .int .i64 1] 94) = w3 at *
  obtain ⟨s, hs⟩ := HE.out
  rw [← hs] at hx ⊢
  have hsb : b0 + 2 ≤ s := by rw [hs]; exact (Array.getElem?_eq_some_iff.1 y1).1
  have HSB := Lib.hid hsb
  have HX0 := Lib.hid hx
  obtain ⟨r0, r1, r2, r3⟩ := boxf hx
  have f3 := free7 hx 3
  clear hs hsb hx HE q0 q1 q2 q3 q4 q5 q6 e0 e1 e2 e3 y0 y1 HV H2
  go_upto_region 6 with fail
  have i4 : Flow.Into [s] w3 (w3.setCell ⟨s, 3, none⟩ (.int .i64 0)) := into_setCell w3 ⟨s, 3, none⟩ (.int .i64 0)
  have hg : (w3.setCell ⟨s, 3, none⟩ (.int .i64 0)).heap[s]? = some (.cells #[.int .u32 (f.1 : Int), .string (strOf f.2.1), .bool f.2.2.1, .int .i64 0] 94 (0, 0)) := by
    have := HX0.out
    simp [World.setCell, Array.getElem?_modify, this]
  clear r0 r1 r2 r3 f3
  generalize w3.setCell ⟨s, 3, none⟩ (.int .i64 0) = w4 at *
  have hw3 : Below W.heap.size W w3 := HBw.out.trans (HX.out.mono HBw.out.size)
  have hsW : W.heap.size ≤ s := by have := HSB.out; have := HB0.out; omega
  have hw4 : Below W.heap.size W w4 := hw3.trans (below_in i4 hsW hw3.size)
  have l0 := Array.getElem?_eq_some_iff.1 HY0.out
  have l1 := Array.getElem?_eq_some_iff.1 HY1.out
  have z0 := ((i4.block b0 (Nat.lt_of_lt_of_le l0.1 HX.out.size) (by have := HSB.out; simp; omega)).trans (HX.out.block b0 l0.1)).trans HY0.out
  have z1 := ((i4.block (b0 + 1) (Nat.lt_of_lt_of_le l1.1 HX.out.size) (by have := HSB.out; simp; omega)).trans (HX.out.block (b0 + 1) l1.1)).trans HY1.out
  have HBw4 := Lib.hid hw4
  have HZ0 := Lib.hid z0
  have HZ1 := Lib.hid z1
  have HG := Lib.hid hg
  obtain ⟨r0, r1, r2, r3⟩ := boxf hg
  clear z0 l0 l1 hsW hw3 i4 HX0 HX HBw HY0 HY1 hg
  go_upto_region 7 with fail
  have hX : Below w4.heap.size w4 (w4.alloc (.cells #[.int .u32 (b : Int)] 23)) := (Below.refl _ _).alloc (Nat.le_refl _) _
  have hs4 : s < w4.heap.size := (Array.getElem?_eq_some_iff.1 HG.out).1
  have hv0 : Hid (VO 23 (w4.alloc (.cells #[.int .u32 (b : Int)] 23)) w4.heap.size (some ⟨w4.heap.size, 0, none⟩) 1 ([b].map u32V)) := lit_u32 w4 b w4.heap.size (Nat.le_refl _)
  have hux : Hid (UL (w4.alloc (.cells #[.int .u32 (b : Int)] 23)) B t.row) := ((HU.out.kept hw4).kept hX).ul
  have hn1 : 1 + nr ≤ 1048576 := by omega
  have hlB : w4.heap.size ≤ (w4.alloc (.cells #[.int .u32 (b : Int)] 23)).heap.size := hX.size
  have hbs : b0 < w4.heap.size := by have := HSB.out; omega
  have HXX := Lib.hid hX
  obtain ⟨-, -, -, -, -, -, q6⟩ := box7 HZ0.out
  clear r0 r1 r2 r3 z1 hw4 hX
  go_upto_region 8 with (with_reducible refine wpList_append_u32s rfl (.tmp 27) (.tmp 29) rfl w4.heap.size (some ⟨w4.heap.size, 0, none⟩) 1 1 [b] rfl rfl (by omega) hv0.out B nr d t.row rfl hNR hux.out hn1 hlB ?_; intro B2 d2 w5 hvo hbl; have hbx := HXX.out.trans hbl.out; have k0 := (hbx.block b0 hbs).trans HZ0.out; have l6 := (box7 k0).2.2.2.2.2.2; have m6 := free7 k0 6)
  rw [Nat.add_comm 1 nr]
  have p0 : Hid ((w5.setCell ⟨b0, 6, none⟩ (.slice B2 (nr + 1) d2)).heap[b0]? = some (.cells #[.int .i64 zm, .slice (some ⟨h, 0, none⟩) nl hc, .int .i64 zr, .int .i64 zs, .slice (some ⟨g, 0, none⟩) N c, .int .i64 zo, .slice B2 (nr + 1) d2] 39 (0, 0))) := by
    unfold Hid
    simp [World.setCell, Array.getElem?_modify, k0]
  have p1 : Hid ((w5.setCell ⟨b0, 6, none⟩ (.slice B2 (nr + 1) d2)).heap[b0 + 1]? = some (.cells #[.int .i64 0, .slice none 0 0, .int .i64 0, .int .i64 0, .slice none 0 0, .int .i64 0, .slice none 0 0] 39 (0, 0))) := (Below.heap_setCell _ _ _ _ (by simp)).trans ((hbx.block (b0 + 1) (by have := HSB.out; omega)).trans HZ1.out)
  have p2 : Hid ((w5.setCell ⟨b0, 6, none⟩ (.slice B2 (nr + 1) d2)).heap[s]? = some (.cells #[.int .u32 (f.1 : Int), .string (strOf f.2.1), .bool f.2.2.1, .int .i64 0] 94 (0, 0))) := (Below.heap_setCell _ _ _ _ (by have := HSB.out; simp; omega)).trans ((hbx.block s hs4).trans HG.out)
  have hb6 : Hid (Below W.heap.size W (w5.setCell ⟨b0, 6, none⟩ (.slice B2 (nr + 1) d2))) := (HBw4.out.trans (hbx.mono HBw4.out.size)).setCell (by have := HB0.out; show W.heap.size ≤ b0; omega) _
  have hu6 : Hid (VO 23 (w5.setCell ⟨b0, 6, none⟩ (.slice B2 (nr + 1) d2)) (b0 + 2) B2 d2 ((b :: t.row).map u32V)) := (hvo.out.into (into_setCell w5 ⟨b0, 6, none⟩ _) (fun a ha => by
    have := (hvo.out.at_ a ha).1
    simp; omega)).mono (by have := HSB.out; omega)
  clear hvo hbl hbx k0 l6 m6 HZ0 HZ1 HG hs4 hv0 hux hn1 hlB hbs HXX q6 HBw4
  generalize w5.setCell ⟨b0, 6, none⟩ (.slice B2 (nr + 1) d2) = w6 at *
  have c2 := cX w6 hb6.out B2 d2 (UT.of_vo hu6.out)
  obtain ⟨q0, q1, q2, q3, q4, q5, q6⟩ := box7 p0.out
  obtain ⟨r0, r1, r2, r3⟩ := boxf p2.out
  clear cX
  go_wp2_with fail
  refine c2.out.mono ?_
  rintro e w7 ⟨⟨A2, c2', rfl, hv5⟩, hb5⟩
  have y1 := (hb5.block (b0 + 1) (Array.getElem?_eq_some_iff.1 p1.out).1).trans p1.out
  have hsz : b0 + 2 ≤ w6.heap.size := (Array.getElem?_eq_some_iff.1 p1.out).1
  have HV5 : Hid (V4 w7 (b0 + 2) A2 c2' (withD t.L (f.1, f.2.1, f.2.2.1, 0))) := hv5.mono hsz
  have HU5 : Hid (VO 23 w7 (b0 + 2) B2 d2 ((b :: t.row).map u32V)) := hu6.out.kept hb5
  have HBw5 : Hid (Below W.heap.size W w7) := hb6.out.trans (hb5.mono hb6.out.size)
  have HYY := Lib.hid y1
  clear q0 q1 q2 q3 q4 q5 q6 r0 r1 r2 r3 c2 hv5 hb5 hsz hb6 hu6 p0 p1 p2
  obtain ⟨u0, u1, u2, u3, u4, u5, u6⟩ := box7 y1
  have f0 := free7 y1 0
  have f1 := free7 y1 1
  have f2 := free7 y1 2
  have f3 := free7 y1 3
  have f4 := free7 y1 4
  have f5 := free7 y1 5
  have f6 := free7 y1 6
  clear y1
  go_wp2_with fail
  have g7 := set7_at HYY.out (.int .i64 zm) (.slice (some ⟨h, 0, none⟩) nl hc) (.int .i64 zr) (.int .i64 zs) (.slice A2 M c2') (.int .i64 zo) (.slice B2 (nr + 1) d2)
  have i7 := set7_into w7 (b0 + 1) (.int .i64 zm) (.slice (some ⟨h, 0, none⟩) nl hc) (.int .i64 zr) (.int .i64 zs) (.slice A2 M c2') (.int .i64 zo) (.slice B2 (nr + 1) d2)
  unfold set7 at g7 i7
  generalize ((((((w7.setCell ⟨b0 + 1, 0, none⟩ (.int .i64 zm)).setCell ⟨b0 + 1, 1, none⟩ (.slice (some ⟨h, 0, none⟩) nl hc)).setCell ⟨b0 + 1, 2, none⟩ (.int .i64 zr)).setCell ⟨b0 + 1, 3, none⟩ (.int .i64 zs)).setCell ⟨b0 + 1, 4, none⟩ (.slice A2 M c2')).setCell ⟨b0 + 1, 5, none⟩ (.int .i64 zo)).setCell ⟨b0 + 1, 6, none⟩ (.slice B2 (nr + 1) d2) = w8 at *
  obtain ⟨o0, o1, o2, o3, o4, o5, o6⟩ := box7 g7
  have hb7 : Below W.heap.size W w8 := HBw5.out.trans (below_in i7 (by have := HB0.out; omega) HBw5.out.size)
  have hv7 : V4 w8 0 A2 c2' (withD t.L (f.1, f.2.1, f.2.2.1, 0)) := (HV5.out.into i7 (fun a ha => by
    have := (HV5.out.at_ a ha).1
    simp; omega)).mono (Nat.zero_le _)
  have hu7 : UT w8 B2 (b :: t.row) := UT.of_vo (HU5.out.into i7 (fun a ha => by
    have := (HU5.out.at_ a ha).1
    simp; omega))
  exact bodyPost_ret (v := .tuple #[.agg #[.int .i64 zm, .slice (some ⟨h, 0, none⟩) nl hc, .int .i64 zr, .int .i64 zs, .slice A2 M c2', .int .i64 zo, .slice B2 (nr + 1) d2], .int .i64 0]) (by simp [results, Try.results38, go_sem, o0, o1, o2, o3, o4, o5, o6]) rfl ⟨⟨_, rfl, HR.out w8 A2 c2' B2 d2 hb7 hv7 hu7⟩, hb7⟩
end Ca
end Go.Proofs.Ytjnbdmimflhhiaa

namespace Go.Proofs.Ytjnbdmimflhhiaa
open Go.RowKit
namespace Ca
open Mem Dv Cn Po

set_option maxRecDepth 100000 in
set_option maxHeartbeats 2000000 in
theorem Room_free {W : World} {t : Dt} {h hc c d : Nat} {A B : Option Addr} (_ : DL W t h hc A c B) (hp : t.L.length < t.most) : Calls Try.prog 75 #[dvV t h hc A c B d] W fun e w' => e = .returned (.tuple #[dvV t h hc A c B d, .bool true]) ∧ Below W.heap.size W w' := by
  have hq : decide ((t.L.length : Int) < (t.most : Int)) = true := by simpa using hp
  clear hp
  unfold dvV
  generalize t.L.length = N at *
  generalize t.row.length = nr at *
  generalize t.ls.length = nl at *
  generalize (t.m : Int) = zm at *
  generalize (t.r : Int) = zr at *
  generalize (t.s : Int) = zs at *
  generalize (t.most : Int) = zo at *
  go_enter Try.func75, Try.ntmps75
  go_upto_region 1 with fail
  obtain ⟨hb2, hx0, hx1, hs⟩ := two_allocs W (.cells #[.int .i64 zm, .slice (some ⟨h, 0, none⟩) nl hc, .int .i64 zr, .int .i64 zs, .slice A N c, .int .i64 zo, .slice B nr d] 39) (.cells #[.int .i64 0, .slice none 0 0, .int .i64 0, .int .i64 0, .slice none 0 0, .int .i64 0, .slice none 0 0] 39)
  generalize (W.alloc (.cells #[.int .i64 zm, .slice (some ⟨h, 0, none⟩) nl hc, .int .i64 zr, .int .i64 zs, .slice A N c, .int .i64 zo, .slice B nr d] 39)).alloc (.cells #[.int .i64 0, .slice none 0 0, .int .i64 0, .int .i64 0, .slice none 0 0, .int .i64 0, .slice none 0 0] 39) = w2 at *
  obtain ⟨b0, hb0⟩ : ∃ b0, b0 = W.heap.size := ⟨_, rfl⟩
  rw [← hb0] at hx0 hx1 hs ⊢
  obtain ⟨q0, q1, q2, q3, q4, q5, q6⟩ := box7 hx0
  have HB0 := Lib.hid hb0
  have HBw := Lib.hid hb2
  have HY0 := Lib.hid hx0
  have HY1 := Lib.hid hx1
  have HS := Lib.hid hs
  have y0 := hx0
  have y1 := hx1
  clear hx0 hx1 hs hb2 hb0
  obtain ⟨u0, u1, u2, u3, u4, u5, u6⟩ := box7 y1
  have f0 := free7 y1 0
  have f1 := free7 y1 1
  have f2 := free7 y1 2
  have f3 := free7 y1 3
  have f4 := free7 y1 4
  have f5 := free7 y1 5
  have f6 := free7 y1 6
  clear y0 y1
  go_wp2_with fail
  have g7 := set7_at HY1.out (.int .i64 zm) (.slice (some ⟨h, 0, none⟩) nl hc) (.int .i64 zr) (.int .i64 zs) (.slice A N c) (.int .i64 zo) (.slice B nr d)
  have i7 := set7_into w2 (b0 + 1) (.int .i64 zm) (.slice (some ⟨h, 0, none⟩) nl hc) (.int .i64 zr) (.int .i64 zs) (.slice A N c) (.int .i64 zo) (.slice B nr d)
  unfold set7 at g7 i7
  generalize ((((((w2.setCell ⟨b0 + 1, 0, none⟩ (.int .i64 zm)).setCell ⟨b0 + 1, 1, none⟩ (.slice (some ⟨h, 0, none⟩) nl hc)).setCell ⟨b0 + 1, 2, none⟩ (.int .i64 zr)).setCell ⟨b0 + 1, 3, none⟩ (.int .i64 zs)).setCell ⟨b0 + 1, 4, none⟩ (.slice A N c)).setCell ⟨b0 + 1, 5, none⟩ (.int .i64 zo)).setCell ⟨b0 + 1, 6, none⟩ (.slice B nr d) = w3 at *
  obtain ⟨o0, o1, o2, o3, o4, o5, o6⟩ := box7 g7
  have hb7 : Below W.heap.size W w3 := HBw.out.trans (below_in i7 (by have := HB0.out; omega) HBw.out.size)
  exact bodyPost_ret (v := .tuple #[.agg #[.int .i64 zm, .slice (some ⟨h, 0, none⟩) nl hc, .int .i64 zr, .int .i64 zs, .slice A N c, .int .i64 zo, .slice B nr d], .bool true]) (by simp [results, Try.results75, go_sem, o0, o1, o2, o3, o4, o5, o6]) rfl ⟨rfl, hb7⟩
set_option maxRecDepth 100000 in
set_option maxHeartbeats 2000000 in
theorem Room_no {W : World} {t : Dt} {h hc c d : Nat} {A B : Option Addr} (_ : DL W t h hc A c B) (hp : t.most ≤ t.L.length) (hr : t.row = []) : Calls Try.prog 75 #[dvV t h hc A c B d] W fun e w' => e = .returned (.tuple #[dvV t h hc A c B d, .bool false]) ∧ Below W.heap.size W w' := by
  have hq : decide ((t.L.length : Int) < (t.most : Int)) = false := by simpa using hp
  have hq2 : ((t.row.length : Int) == 0) = true := by rw [hr]; rfl
  clear hp hr
  unfold dvV
  generalize t.row.length = nr at *
  generalize t.L.length = N at *
  generalize t.ls.length = nl at *
  generalize (t.m : Int) = zm at *
  generalize (t.r : Int) = zr at *
  generalize (t.s : Int) = zs at *
  generalize (t.most : Int) = zo at *
  go_enter Try.func75, Try.ntmps75
  go_upto_region 1 with fail
  obtain ⟨hb2, hx0, hx1, hs⟩ := two_allocs W (.cells #[.int .i64 zm, .slice (some ⟨h, 0, none⟩) nl hc, .int .i64 zr, .int .i64 zs, .slice A N c, .int .i64 zo, .slice B nr d] 39) (.cells #[.int .i64 0, .slice none 0 0, .int .i64 0, .int .i64 0, .slice none 0 0, .int .i64 0, .slice none 0 0] 39)
  generalize (W.alloc (.cells #[.int .i64 zm, .slice (some ⟨h, 0, none⟩) nl hc, .int .i64 zr, .int .i64 zs, .slice A N c, .int .i64 zo, .slice B nr d] 39)).alloc (.cells #[.int .i64 0, .slice none 0 0, .int .i64 0, .int .i64 0, .slice none 0 0, .int .i64 0, .slice none 0 0] 39) = w2 at *
  obtain ⟨b0, hb0⟩ : ∃ b0, b0 = W.heap.size := ⟨_, rfl⟩
  rw [← hb0] at hx0 hx1 hs ⊢
  obtain ⟨q0, q1, q2, q3, q4, q5, q6⟩ := box7 hx0
  have HB0 := Lib.hid hb0
  have HBw := Lib.hid hb2
  have HY0 := Lib.hid hx0
  have HY1 := Lib.hid hx1
  have HS := Lib.hid hs
  have y0 := hx0
  have y1 := hx1
  clear hx0 hx1 hs hb2 hb0
  obtain ⟨u0, u1, u2, u3, u4, u5, u6⟩ := box7 y1
  have f0 := free7 y1 0
  have f1 := free7 y1 1
  have f2 := free7 y1 2
  have f3 := free7 y1 3
  have f4 := free7 y1 4
  have f5 := free7 y1 5
  have f6 := free7 y1 6
  clear y0 y1
  go_wp2_with fail
  have g7 := set7_at HY1.out (.int .i64 zm) (.slice (some ⟨h, 0, none⟩) nl hc) (.int .i64 zr) (.int .i64 zs) (.slice A N c) (.int .i64 zo) (.slice B nr d)
  have i7 := set7_into w2 (b0 + 1) (.int .i64 zm) (.slice (some ⟨h, 0, none⟩) nl hc) (.int .i64 zr) (.int .i64 zs) (.slice A N c) (.int .i64 zo) (.slice B nr d)
  unfold set7 at g7 i7
  generalize ((((((w2.setCell ⟨b0 + 1, 0, none⟩ (.int .i64 zm)).setCell ⟨b0 + 1, 1, none⟩ (.slice (some ⟨h, 0, none⟩) nl hc)).setCell ⟨b0 + 1, 2, none⟩ (.int .i64 zr)).setCell ⟨b0 + 1, 3, none⟩ (.int .i64 zs)).setCell ⟨b0 + 1, 4, none⟩ (.slice A N c)).setCell ⟨b0 + 1, 5, none⟩ (.int .i64 zo)).setCell ⟨b0 + 1, 6, none⟩ (.slice B nr d) = w3 at *
  obtain ⟨o0, o1, o2, o3, o4, o5, o6⟩ := box7 g7
  have hb7 : Below W.heap.size W w3 := HBw.out.trans (below_in i7 (by have := HB0.out; omega) HBw.out.size)
  exact bodyPost_ret (v := .tuple #[.agg #[.int .i64 zm, .slice (some ⟨h, 0, none⟩) nl hc, .int .i64 zr, .int .i64 zs, .slice A N c, .int .i64 zo, .slice B nr d], .bool false]) (by simp [results, Try.results75, go_sem, o0, o1, o2, o3, o4, o5, o6]) rfl ⟨rfl, hb7⟩
set_option maxRecDepth 100000 in
set_option maxHeartbeats 2000000 in
theorem Room_clean {W : World} {t : Dt} {h hc c d : Nat} {A B : Option Addr} (H : DL W t h hc A c B) {b : Nat} {k : Nat} {f : Fr} (hp : t.most ≤ t.L.length) (hr : 0 < t.row.length) (hb : t.row[t.row.length - 1]? = some b) (hk : fk t.L b = some k) (hf : t.L[k]? = some f) (hd : f.2.2.1 = false) : Calls Try.prog 75 #[dvV t h hc A c B d] W fun e w' => (∃ v, e = .returned (.tuple #[v, .bool true]) ∧ DRes w' { t with row := woD t.row b, L := goneD t.L b } v) ∧ Below W.heap.size W w' := by
  have hq : decide ((t.L.length : Int) < (t.most : Int)) = false := by simpa using hp
  have hq2 : ((t.row.length : Int) == 0) = false := beq_false_of_ne (by omega)
  have cF := fun w (hb : Below W.heap.size W w) => Lib.hid (Find_any (H.kept hb) b (d := d))
  have cW := fun w (hb : Below W.heap.size W w) => Lib.hid (without_any (H.ul.kept hb) H.r0 b (d := d))
  have cG := fun w (hb : Below W.heap.size W w) (B2 : Option Addr) (d2 : Nat) (hU : UT w B2 (woD t.row b)) => Lib.hid (gone_any (t := { t with row := woD t.row b }) (h := h) (hc := hc) (A := A) (c := c) (B := B2) (d := d2) (W := w) ⟨H.rf.kept hb, H.v4.kept hb, hU, H.l0, Nat.le_trans (woD_le _ _) H.r0⟩ b)
  have HD := Lib.hid H
  have HDR : ∀ (w' : World) (A' : Option Addr) (c' : Nat) (B2 : Option Addr) (d2 : Nat), Below W.heap.size W w' → V4 w' 0 A' c' (goneD t.L b) → UT w' B2 (woD t.row b) → DRes w' { t with row := woD t.row b, L := goneD t.L b } (dvV { t with row := woD t.row b, L := goneD t.L b } h hc A' c' B2 d2) := fun w' A' c' B2 d2 hb hv hu => ⟨h, hc, A', c', B2, d2, rfl, HD.out.rf.kept hb, hv, hu, Nat.le_trans (goneD_le _ _) HD.out.l0, Nat.le_trans (woD_le _ _) HD.out.r0⟩
  have HR := Lib.hid HDR
  have HV := Lib.hid H.v4
  have HU := Lib.hid H.ul
  have HF := Lib.hid hf
  have HBB := Lib.hid hb
  have hkN : k < t.L.length := lt_of_get hf
  have hl0 := H.l0
  have hr0 := H.r0
  have hz := fZ_some hk
  clear HDR HD H hp hf hk hb
  unfold dvV at cF cG HR ⊢
  simp only [hz] at cF cG HR ⊢
  clear hz
  generalize DRes = DR at *
  generalize ({ t with row := woD t.row b, L := goneD t.L b } : Dt) = t' at *
  generalize (woD t.row b).length = nr2 at *
  generalize (goneD t.L b).length = M at *
  generalize hN : t.L.length = N at *
  generalize hNR : t.row.length = nr at *
  have hwn : IntKind.i64.wrap ((nr : Int) - 1) = ((nr - 1 : Nat) : Int) := by rw [IntKind.wrap_i64]; omega
  generalize t.ls.length = nl at *
  generalize (t.m : Int) = zm at *
  generalize (t.r : Int) = zr at *
  generalize (t.s : Int) = zs at *
  generalize (t.most : Int) = zo at *
  go_enter Try.func75, Try.ntmps75
  go_upto_region 1 with fail
  obtain ⟨hb2, hx0, hx1, hs⟩ := two_allocs W (.cells #[.int .i64 zm, .slice (some ⟨h, 0, none⟩) nl hc, .int .i64 zr, .int .i64 zs, .slice A N c, .int .i64 zo, .slice B nr d] 39) (.cells #[.int .i64 0, .slice none 0 0, .int .i64 0, .int .i64 0, .slice none 0 0, .int .i64 0, .slice none 0 0] 39)
  generalize (W.alloc (.cells #[.int .i64 zm, .slice (some ⟨h, 0, none⟩) nl hc, .int .i64 zr, .int .i64 zs, .slice A N c, .int .i64 zo, .slice B nr d] 39)).alloc (.cells #[.int .i64 0, .slice none 0 0, .int .i64 0, .int .i64 0, .slice none 0 0, .int .i64 0, .slice none 0 0] 39) = w2 at *
  obtain ⟨b0, hb0⟩ : ∃ b0, b0 = W.heap.size := ⟨_, rfl⟩
  rw [← hb0] at hx0 hx1 hs ⊢
  obtain ⟨q0, q1, q2, q3, q4, q5, q6⟩ := box7 hx0
  have HB0 := Lib.hid hb0
  have HBw := Lib.hid hb2
  have HY0 := Lib.hid hx0
  have HY1 := Lib.hid hx1
  have HS := Lib.hid hs
  have y0 := hx0
  have y1 := hx1
  clear hx0 hx1 hs hb2 hb0
  obtain ⟨gr, hgr, -, hcr⟩ := (HU.out.kept HBw.out).ul (by omega)
  have hcell : w2.cell? ⟨gr, nr - 1, none⟩ = some (.int .u32 (b : Int)) := by
    have h1 := HBB.out
    rw [List.getElem?_eq_some_iff] at h1
    obtain ⟨h2, h3⟩ := h1
    rw [hcr (nr - 1) h2, h3]
  subst hgr
  clear y0 y1
  go_upto_region 6 with fail
  have H2 := Lib.hid (HV.out.kept HBw.out)
  obtain ⟨g, rfl, e0, e1, e2, e3⟩ := H2.out.cell HF.out
  rw [hd] at e2
  have z0 := fun q : Drift.Tide [] w2 [] => Drift.Tide.cell q0 (by simp) q
  have z1 := fun q : Drift.Tide [] w2 [] => Drift.Tide.cell q1 (by simp) q
  have z2 := fun q : Drift.Tide [] w2 [] => Drift.Tide.cell q2 (by simp) q
  have z3 := fun q : Drift.Tide [] w2 [] => Drift.Tide.cell q3 (by simp) q
  have z4 := fun q : Drift.Tide [] w2 [] => Drift.Tide.cell q4 (by simp) q
  have z5 := fun q : Drift.Tide [] w2 [] => Drift.Tide.cell q5 (by simp) q
  have z6 := fun q : Drift.Tide [] w2 [] => Drift.Tide.cell q6 (by simp) q
  have x0 := fun q : Drift.Tide [] w2 [] => Drift.Tide.cell e0 (by simp) q
  have x1 := fun q : Drift.Tide [] w2 [] => Drift.Tide.cell e1 (by simp) q
  have x2 := fun q : Drift.Tide [] w2 [] => Drift.Tide.cell e2 (by simp) q
  have x3 := fun q : Drift.Tide [] w2 [] => Drift.Tide.cell e3 (by simp) q
  have cFF := fun q : Drift.Tide [] w2 [] => Lib.hid (cF q.sea (HBw.out.trans (q.into.below.mono HBw.out.size))).out
  clear q0 q1 q2 q3 q4 q5 q6 e0 e1 e2 e3 cF hcr hcell
  refine Drift.wp_region_drift [] [(0,[]),(1,[]),(2,[]),(3,[]),(4,[]),(5,[]),(6,[]),(7,[])] [] [7] (by kernel_rfl) (by kernel_rfl) (by simp) ?_
  simp only [Drift.pick, Drift.opsAt, List.getElem?_toArray, List.getElem?_cons_zero, List.getElem?_cons_succ, List.cons_append, List.nil_append, List.filterMap_nil]
  repeat (refine Drift.walk_step (fun K hK => ?_); go_simp; first | (refine hK _ ?_; clear hK K) | (apply Exists.intro; refine ⟨fun q => ?_, hK _ ?_⟩; (go_at_call 50; exact (cFF q).out); clear hK K))
  refine Drift.walk_make rfl Drift.mkwalk_nil (fun b => .pointer (some ⟨b, 0, none⟩)) (.cells #[.int .u32 0, .string ⟨#[]⟩, .bool false, .int .i64 0] 94) (fun W => by go_simp) (fun s hs _ => ?_)
  refine Drift.walk_nil ?_
  intro w3 hb3 hl3
  have hsx : w3.heap[s]? = some (.cells #[.int .u32 0, .string ⟨#[]⟩, .bool false, .int .i64 0] 94 (0, 0)) := hl3 (s, .cells #[.int .u32 0, .string ⟨#[]⟩, .bool false, .int .i64 0] 94) (by simp)
  obtain ⟨r0, r1, r2, r3⟩ := boxf hsx
  have f0 := free7 hsx 0
  have f1 := free7 hsx 1
  have f2 := free7 hsx 2
  have f3 := free7 hsx 3
  have HSX := Lib.hid hsx
  have hl0' := Array.getElem?_eq_some_iff.1 HY0.out
  have hl1' := Array.getElem?_eq_some_iff.1 HY1.out
  have y0 := (hb3.block b0 hl0'.1).trans HY0.out
  have y1 := (hb3.block (b0 + 1) hl1'.1).trans HY1.out
  have hsb : b0 + 2 ≤ s := Nat.le_trans hl1'.1 hs
  have HSB := Lib.hid hsb
  have HY0' := Lib.hid y0
  have HY1' := Lib.hid y1
  have HBw3 : Hid (Below W.heap.size W w3) := HBw.out.trans (Below.mono hb3 HBw.out.size)
  clear y0 y1 hl0' hl1' hsx hl3 hb3 hsb hs cFF z0 z1 z2 z3 z4 z5 z6 x0 x1 x2 x3 H2 HBw HY0 HY1 HV
  simp only [List.length_cons, List.length_nil, List.drop_succ_cons, List.drop_zero, Nat.zero_add, Nat.reduceAdd]
  go_upto_region 7 with fail
  have i4 := set4_into w3 s (.int .u32 (f.1 : Int)) (.string (strOf f.2.1)) (.bool false) (.int .i64 (f.2.2.2 : Int))
  have g4 := set4_at HSX.out (.int .u32 (f.1 : Int)) (.string (strOf f.2.1)) (.bool false) (.int .i64 (f.2.2.2 : Int))
  unfold set4 at i4 g4
  clear r0 r1 r2 r3 f0 f1 f2 f3 HSX
  generalize (((w3.setCell ⟨s, 0, none⟩ (.int .u32 (f.1 : Int))).setCell ⟨s, 1, none⟩ (.string (strOf f.2.1))).setCell ⟨s, 2, none⟩ (.bool false)).setCell ⟨s, 3, none⟩ (.int .i64 (f.2.2.2 : Int)) = v2 at *
  have y0 := (i4.block b0 (Array.getElem?_eq_some_iff.1 HY0'.out).1 (by have := HSB.out; simp; omega)).trans HY0'.out
  have y1 := (i4.block (b0 + 1) (Array.getElem?_eq_some_iff.1 HY1'.out).1 (by have := HSB.out; simp; omega)).trans HY1'.out
  have HBw : Hid (Below W.heap.size W v2) := HBw3.out.trans (below_in i4 (by have := HSB.out; have := HB0.out; omega) HBw3.out.size)
  obtain ⟨r0, r1, r2, r3⟩ := boxf g4
  clear i4 g4 HY0' HY1' HBw3 HSB
  go_upto_region 9 with fail
  clear r0 r1 r2 r3
  have HS2 : Hid (b0 + 2 ≤ v2.heap.size) := (Array.getElem?_eq_some_iff.1 y1).1
  have c2 := cW v2 HBw.out
  have HY0 := Lib.hid y0
  have HY1 := Lib.hid y1
  clear cW y1
  obtain ⟨q0, q1, q2, q3, q4, q5, q6⟩ := box7 y0
  clear y0
  go_wp2_with fail
  refine c2.out.mono ?_
  rintro e v3 ⟨⟨B2, d2, rfl, hv3⟩, hb3⟩
  have y0 := (hb3.block b0 (by have := HS2.out; omega)).trans HY0.out
  have y1 := (hb3.block (b0 + 1) (by have := HS2.out; omega)).trans HY1.out
  have HV3 : Hid (VO 23 v3 (b0 + 2) B2 d2 ((woD t.row b).map u32V)) := VO.mono hv3 HS2.out
  have HBw3 : Hid (Below W.heap.size W v3) := HBw.out.trans (hb3.mono HBw.out.size)
  have HZ0 := Lib.hid y0
  have HZ1 := Lib.hid y1
  clear q0 q1 q2 q3 q4 q5 q6 c2 HY0 HY1 hb3 hv3 HBw y1
  obtain ⟨q0, q1, q2, q3, q4, q5, q6⟩ := box7 y0
  have f6 := free7 y0 6
  clear y0
  go_upto_region 10 with fail
  have HG0 : Hid ((v3.setCell ⟨b0, 6, none⟩ (.slice B2 nr2 d2)).heap[b0]? = some (.cells #[.int .i64 zm, .slice (some ⟨h, 0, none⟩) nl hc, .int .i64 zr, .int .i64 zs, .slice (some ⟨g, 0, none⟩) N c, .int .i64 zo, .slice B2 nr2 d2] 39 (0, 0))) := by
    have := HZ0.out
    unfold Hid
    simp [World.setCell, Array.getElem?_modify, this]
  have HG1 : Hid ((v3.setCell ⟨b0, 6, none⟩ (.slice B2 nr2 d2)).heap[b0 + 1]? = some (.cells #[.int .i64 0, .slice none 0 0, .int .i64 0, .int .i64 0, .slice none 0 0, .int .i64 0, .slice none 0 0] 39 (0, 0))) := (Below.heap_setCell _ _ _ _ (by simp)).trans HZ1.out
  have HV4 : Hid (VO 23 (v3.setCell ⟨b0, 6, none⟩ (.slice B2 nr2 d2)) (b0 + 2) B2 d2 ((woD t.row b).map u32V)) := HV3.out.into (into_setCell v3 ⟨b0, 6, none⟩ _) (fun a ha => by
    have := (HV3.out.at_ a ha).1
    simp; omega)
  have HBw4 : Hid (Below W.heap.size W (v3.setCell ⟨b0, 6, none⟩ (.slice B2 nr2 d2))) := HBw3.out.setCell (by rw [← HB0.out]; exact Nat.le_refl _) _
  clear q0 q1 q2 q3 q4 q5 q6 f6 HZ0 HZ1 HV3 HBw3
  generalize v3.setCell ⟨b0, 6, none⟩ (.slice B2 nr2 d2) = v4 at *
  have c3 := cG v4 HBw4.out B2 d2 (UT.of_vo HV4.out)
  clear cG
  obtain ⟨q0, q1, q2, q3, q4, q5, q6⟩ := box7 HG0.out
  go_wp2_with fail
  refine c3.out.mono ?_
  rintro e v5 ⟨⟨A2, c2', rfl, hv5⟩, hb5⟩
  have y1 := (hb5.block (b0 + 1) (Array.getElem?_eq_some_iff.1 HG1.out).1).trans HG1.out
  have hsz : b0 + 2 ≤ v4.heap.size := (Array.getElem?_eq_some_iff.1 HG1.out).1
  have HV5 : Hid (V4 v5 (b0 + 2) A2 c2' (goneD t.L b)) := hv5.mono hsz
  have HU5 : Hid (VO 23 v5 (b0 + 2) B2 d2 ((woD t.row b).map u32V)) := HV4.out.kept hb5
  have HBw5 : Hid (Below W.heap.size W v5) := HBw4.out.trans (hb5.mono HBw4.out.size)
  have HY1 := Lib.hid y1
  clear q0 q1 q2 q3 q4 q5 q6 c3 hv5 hb5 hsz HBw4 HV4 HG0 HG1
  obtain ⟨u0, u1, u2, u3, u4, u5, u6⟩ := box7 y1
  have f0 := free7 y1 0
  have f1 := free7 y1 1
  have f2 := free7 y1 2
  have f3 := free7 y1 3
  have f4 := free7 y1 4
  have f5 := free7 y1 5
  have f6 := free7 y1 6
  clear y1
  go_wp2_with fail
  have g7 := set7_at HY1.out (.int .i64 zm) (.slice (some ⟨h, 0, none⟩) nl hc) (.int .i64 zr) (.int .i64 zs) (.slice A2 M c2') (.int .i64 zo) (.slice B2 nr2 d2)
  have i7 := set7_into v5 (b0 + 1) (.int .i64 zm) (.slice (some ⟨h, 0, none⟩) nl hc) (.int .i64 zr) (.int .i64 zs) (.slice A2 M c2') (.int .i64 zo) (.slice B2 nr2 d2)
  unfold set7 at g7 i7
  generalize ((((((v5.setCell ⟨b0 + 1, 0, none⟩ (.int .i64 zm)).setCell ⟨b0 + 1, 1, none⟩ (.slice (some ⟨h, 0, none⟩) nl hc)).setCell ⟨b0 + 1, 2, none⟩ (.int .i64 zr)).setCell ⟨b0 + 1, 3, none⟩ (.int .i64 zs)).setCell ⟨b0 + 1, 4, none⟩ (.slice A2 M c2')).setCell ⟨b0 + 1, 5, none⟩ (.int .i64 zo)).setCell ⟨b0 + 1, 6, none⟩ (.slice B2 nr2 d2) = v6 at *
  obtain ⟨o0, o1, o2, o3, o4, o5, o6⟩ := box7 g7
  have hb7 : Below W.heap.size W v6 := HBw5.out.trans (below_in i7 (by have := HB0.out; omega) HBw5.out.size)
  have hv7 : V4 v6 0 A2 c2' (goneD t.L b) := (HV5.out.into i7 (fun a ha => by
    have := (HV5.out.at_ a ha).1
    simp; omega)).mono (Nat.zero_le _)
  have hu7 : UT v6 B2 (woD t.row b) := UT.of_vo (HU5.out.into i7 (fun a ha => by
    have := (HU5.out.at_ a ha).1
    simp; omega))
  exact bodyPost_ret (v := .tuple #[.agg #[.int .i64 zm, .slice (some ⟨h, 0, none⟩) nl hc, .int .i64 zr, .int .i64 zs, .slice A2 M c2', .int .i64 zo, .slice B2 nr2 d2], .bool true]) (by simp [results, Try.results75, go_sem, o0, o1, o2, o3, o4, o5, o6]) rfl ⟨⟨_, rfl, HR.out v6 A2 c2' B2 d2 hb7 hv7 hu7⟩, hb7⟩
set_option maxRecDepth 100000 in
set_option maxHeartbeats 2000000 in
theorem Room_dirty {W : World} {t : Dt} {h hc c d : Nat} {A B : Option Addr} (H : DL W t h hc A c B) {b : Nat} {k : Nat} {f : Fr} (hp : t.most ≤ t.L.length) (hr : 0 < t.row.length) (hb : t.row[t.row.length - 1]? = some b) (hk : fk t.L b = some k) (hf : t.L[k]? = some f) (hd : f.2.2.1 = true) (hbn : b < t.ls.length) (hfl : f.2.1.length = t.m) (hts : t.s ≤ 1000000) : Calls Try.prog 75 #[dvV t h hc A c B d] W fun e w' => (∃ v, e = .returned (.tuple #[v, .bool true]) ∧ DRes w' { t with ls := t.ls.set b f.2.1, s := t.s + 1, row := woD t.row b, L := goneD t.L b } v) ∧ Below W.heap.size W w' := by
  have hq : decide ((t.L.length : Int) < (t.most : Int)) = false := by simpa using hp
  have hq2 : ((t.row.length : Int) == 0) = false := beq_false_of_ne (by omega)
  have cF := fun w (hb : Below W.heap.size W w) => Lib.hid (Find_any (H.kept hb) b (d := d))
  have cW := fun w (hb : Below W.heap.size W w) => Lib.hid (without_any (H.ul.kept hb) H.r0 b (d := d))
  have cR := fun w (hb : Below W.heap.size W w) => Lib.hid (RWrite_in t.m t.ls.length hc b h t.r t.s t.ls f.2.1 w (H.rf.kept hb) hbn hfl hts)
  have cG := fun w (hb : Below W.heap.size W w) (h1 h2 : Nat) (hrf : Rf w h1 h2 t.ls.length (t.ls.set b f.2.1)) (B2 : Option Addr) (d2 : Nat) (hU : UT w B2 (woD t.row b)) => Lib.hid (gone_any (t := { t with ls := t.ls.set b f.2.1, s := t.s + 1, row := woD t.row b }) (h := h1) (hc := h2) (A := A) (c := c) (B := B2) (d := d2) (W := w) ⟨by simpa using hrf, H.v4.kept hb, hU, H.l0, Nat.le_trans (woD_le _ _) H.r0⟩ b)
  have HD := Lib.hid H
  have HDR : ∀ (w' : World) (h1 h2 : Nat) (A' : Option Addr) (c' : Nat) (B2 : Option Addr) (d2 : Nat), Rf w' h1 h2 t.ls.length (t.ls.set b f.2.1) → V4 w' 0 A' c' (goneD t.L b) → UT w' B2 (woD t.row b) → DRes w' { t with ls := t.ls.set b f.2.1, s := t.s + 1, row := woD t.row b, L := goneD t.L b } (dvV { t with ls := t.ls.set b f.2.1, s := t.s + 1, row := woD t.row b, L := goneD t.L b } h1 h2 A' c' B2 d2) := fun w' h1 h2 A' c' B2 d2 hrf hv hu => ⟨h1, h2, A', c', B2, d2, rfl, by simpa using hrf, hv, hu, Nat.le_trans (goneD_le _ _) HD.out.l0, Nat.le_trans (woD_le _ _) HD.out.r0⟩
  have HR := Lib.hid HDR
  have HV := Lib.hid H.v4
  have HU := Lib.hid H.ul
  have HF := Lib.hid hf
  have HBB := Lib.hid hb
  have hkN : k < t.L.length := lt_of_get hf
  have hl0 := H.l0
  have hr0 := H.r0
  have hz := fZ_some hk
  clear HDR HD H hp hf hk hb hbn hfl hts
  unfold dvV at cF cG HR ⊢
  simp only [hz, List.length_set, Int.natCast_add, Int.natCast_one] at cF cG HR ⊢
  simp only [RWrote] at cR
  clear hz
  generalize DRes = DR at *
  generalize ({ t with ls := t.ls.set b f.2.1, s := t.s + 1, row := woD t.row b, L := goneD t.L b } : Dt) = t' at *
  generalize (woD t.row b).length = nr2 at *
  generalize (goneD t.L b).length = M at *
  generalize hN : t.L.length = N at *
  generalize hNR : t.row.length = nr at *
  have hwn : IntKind.i64.wrap ((nr : Int) - 1) = ((nr - 1 : Nat) : Int) := by rw [IntKind.wrap_i64]; omega
  generalize t.ls.length = nl at *
  generalize (t.m : Int) = zm at *
  generalize (t.r : Int) = zr at *
  generalize (t.s : Int) = zs at *
  generalize (t.most : Int) = zo at *
  go_enter Try.func75, Try.ntmps75
  go_upto_region 1 with fail
  obtain ⟨hb2, hx0, hx1, hs⟩ := two_allocs W (.cells #[.int .i64 zm, .slice (some ⟨h, 0, none⟩) nl hc, .int .i64 zr, .int .i64 zs, .slice A N c, .int .i64 zo, .slice B nr d] 39) (.cells #[.int .i64 0, .slice none 0 0, .int .i64 0, .int .i64 0, .slice none 0 0, .int .i64 0, .slice none 0 0] 39)
  generalize (W.alloc (.cells #[.int .i64 zm, .slice (some ⟨h, 0, none⟩) nl hc, .int .i64 zr, .int .i64 zs, .slice A N c, .int .i64 zo, .slice B nr d] 39)).alloc (.cells #[.int .i64 0, .slice none 0 0, .int .i64 0, .int .i64 0, .slice none 0 0, .int .i64 0, .slice none 0 0] 39) = w2 at *
  obtain ⟨b0, hb0⟩ : ∃ b0, b0 = W.heap.size := ⟨_, rfl⟩
  rw [← hb0] at hx0 hx1 hs ⊢
  obtain ⟨q0, q1, q2, q3, q4, q5, q6⟩ := box7 hx0
  have HB0 := Lib.hid hb0
  have HBw := Lib.hid hb2
  have HY0 := Lib.hid hx0
  have HY1 := Lib.hid hx1
  have HS := Lib.hid hs
  have y0 := hx0
  have y1 := hx1
  clear hx0 hx1 hs hb2 hb0
  obtain ⟨gr, hgr, -, hcr⟩ := (HU.out.kept HBw.out).ul (by omega)
  have hcell : w2.cell? ⟨gr, nr - 1, none⟩ = some (.int .u32 (b : Int)) := by
    have h1 := HBB.out
    rw [List.getElem?_eq_some_iff] at h1
    obtain ⟨h2, h3⟩ := h1
    rw [hcr (nr - 1) h2, h3]
  subst hgr
  clear y0 y1
  go_upto_region 6 with fail
  have H2 := Lib.hid (HV.out.kept HBw.out)
  obtain ⟨g, rfl, e0, e1, e2, e3⟩ := H2.out.cell HF.out
  rw [hd] at e2
  have z0 := fun q : Drift.Tide [] w2 [] => Drift.Tide.cell q0 (by simp) q
  have z1 := fun q : Drift.Tide [] w2 [] => Drift.Tide.cell q1 (by simp) q
  have z2 := fun q : Drift.Tide [] w2 [] => Drift.Tide.cell q2 (by simp) q
  have z3 := fun q : Drift.Tide [] w2 [] => Drift.Tide.cell q3 (by simp) q
  have z4 := fun q : Drift.Tide [] w2 [] => Drift.Tide.cell q4 (by simp) q
  have z5 := fun q : Drift.Tide [] w2 [] => Drift.Tide.cell q5 (by simp) q
  have z6 := fun q : Drift.Tide [] w2 [] => Drift.Tide.cell q6 (by simp) q
  have x0 := fun q : Drift.Tide [] w2 [] => Drift.Tide.cell e0 (by simp) q
  have x1 := fun q : Drift.Tide [] w2 [] => Drift.Tide.cell e1 (by simp) q
  have x2 := fun q : Drift.Tide [] w2 [] => Drift.Tide.cell e2 (by simp) q
  have x3 := fun q : Drift.Tide [] w2 [] => Drift.Tide.cell e3 (by simp) q
  have cFF := fun q : Drift.Tide [] w2 [] => Lib.hid (cF q.sea (HBw.out.trans (q.into.below.mono HBw.out.size))).out
  clear q0 q1 q2 q3 q4 q5 q6 e0 e1 e2 e3 cF hcr hcell
  refine Drift.wp_region_drift [] [(0,[]),(1,[]),(2,[]),(3,[]),(4,[]),(5,[]),(6,[]),(7,[])] [] [7] (by kernel_rfl) (by kernel_rfl) (by simp) ?_
  simp only [Drift.pick, Drift.opsAt, List.getElem?_toArray, List.getElem?_cons_zero, List.getElem?_cons_succ, List.cons_append, List.nil_append, List.filterMap_nil]
  repeat (refine Drift.walk_step (fun K hK => ?_); go_simp; first | (refine hK _ ?_; clear hK K) | (apply Exists.intro; refine ⟨fun q => ?_, hK _ ?_⟩; (go_at_call 50; exact (cFF q).out); clear hK K))
  refine Drift.walk_make rfl Drift.mkwalk_nil (fun b => .pointer (some ⟨b, 0, none⟩)) (.cells #[.int .u32 0, .string ⟨#[]⟩, .bool false, .int .i64 0] 94) (fun W => by go_simp) (fun s hs _ => ?_)
  refine Drift.walk_nil ?_
  intro w3 hb3 hl3
  have hsx : w3.heap[s]? = some (.cells #[.int .u32 0, .string ⟨#[]⟩, .bool false, .int .i64 0] 94 (0, 0)) := hl3 (s, .cells #[.int .u32 0, .string ⟨#[]⟩, .bool false, .int .i64 0] 94) (by simp)
  obtain ⟨r0, r1, r2, r3⟩ := boxf hsx
  have f0 := free7 hsx 0
  have f1 := free7 hsx 1
  have f2 := free7 hsx 2
  have f3 := free7 hsx 3
  have HSX := Lib.hid hsx
  have hl0' := Array.getElem?_eq_some_iff.1 HY0.out
  have hl1' := Array.getElem?_eq_some_iff.1 HY1.out
  have y0 := (hb3.block b0 hl0'.1).trans HY0.out
  have y1 := (hb3.block (b0 + 1) hl1'.1).trans HY1.out
  have hsb : b0 + 2 ≤ s := Nat.le_trans hl1'.1 hs
  have HSB := Lib.hid hsb
  have HY0' := Lib.hid y0
  have HY1' := Lib.hid y1
  have HBw3 : Hid (Below W.heap.size W w3) := HBw.out.trans (Below.mono hb3 HBw.out.size)
  clear y0 y1 hl0' hl1' hsx hl3 hb3 hsb hs cFF z0 z1 z2 z3 z4 z5 z6 x0 x1 x2 x3 H2 HBw HY0 HY1 HV
  simp only [List.length_cons, List.length_nil, List.drop_succ_cons, List.drop_zero, Nat.zero_add, Nat.reduceAdd]
  go_upto_region 7 with fail
  have i4 := set4_into w3 s (.int .u32 (f.1 : Int)) (.string (strOf f.2.1)) (.bool true) (.int .i64 (f.2.2.2 : Int))
  have g4 := set4_at HSX.out (.int .u32 (f.1 : Int)) (.string (strOf f.2.1)) (.bool true) (.int .i64 (f.2.2.2 : Int))
  unfold set4 at i4 g4
  clear r0 r1 r2 r3 f0 f1 f2 f3 HSX
  generalize (((w3.setCell ⟨s, 0, none⟩ (.int .u32 (f.1 : Int))).setCell ⟨s, 1, none⟩ (.string (strOf f.2.1))).setCell ⟨s, 2, none⟩ (.bool true)).setCell ⟨s, 3, none⟩ (.int .i64 (f.2.2.2 : Int)) = v2 at *
  have y0 := (i4.block b0 (Array.getElem?_eq_some_iff.1 HY0'.out).1 (by have := HSB.out; simp; omega)).trans HY0'.out
  have y1 := (i4.block (b0 + 1) (Array.getElem?_eq_some_iff.1 HY1'.out).1 (by have := HSB.out; simp; omega)).trans HY1'.out
  have HBw : Hid (Below W.heap.size W v2) := HBw3.out.trans (below_in i4 (by have := HSB.out; have := HB0.out; omega) HBw3.out.size)
  obtain ⟨r0, r1, r2, r3⟩ := boxf g4
  clear i4 g4 HY0' HY1' HBw3 HSB
  go_upto_region 8 with fail
  have c8 := cR v2 HBw.out
  have HY0 := Lib.hid y0
  have HY1 := Lib.hid y1
  obtain ⟨q0, q1, q2, q3, q4, q5, q6⟩ := box7 y0
  have hv2 : b0 + 2 ≤ v2.heap.size := (Array.getElem?_eq_some_iff.1 y1).1
  have HV2 := Lib.hid hv2
  clear y0 y1 hv2 cR
  go_wp2_with fail
  refine c8.out.mono ?_
  rintro e v8 ⟨⟨h1, h2, rfl, hrf, hh1⟩, hb8⟩
  have HH1 : Hid (b0 + 2 ≤ h1) := Nat.le_trans HV2.out hh1
  have w0 := (hb8.block b0 (Array.getElem?_eq_some_iff.1 HY0.out).1).trans HY0.out
  have w1' := (hb8.block (b0 + 1) (Array.getElem?_eq_some_iff.1 HY1.out).1).trans HY1.out
  have HB8 : Hid (Below W.heap.size W v8) := HBw.out.trans (hb8.mono HBw.out.size)
  have HRF8 := Lib.hid hrf
  clear q0 q1 q2 q3 q4 q5 q6 r0 r1 r2 r3 c8 HY0 HY1 HV2 hrf hh1 hb8 HBw
  obtain ⟨q0, q1, q2, q3, -, -, -⟩ := box7 w0
  have f0 := free7 w0 0
  have f1 := free7 w0 1
  have f2 := free7 w0 2
  have f3 := free7 w0 3
  have HW0 := Lib.hid w0
  have HW1 := Lib.hid w1'
  clear w0 w1'
  go_upto_region 9 with fail
  have i9 := set4_into v8 b0 (.int .i64 zm) (.slice (some ⟨h1, 0, none⟩) nl h2) (.int .i64 zr) (.int .i64 (zs + 1))
  have y0 : (set4 v8 b0 (.int .i64 zm) (.slice (some ⟨h1, 0, none⟩) nl h2) (.int .i64 zr) (.int .i64 (zs + 1))).heap[b0]? = some (.cells #[.int .i64 zm, .slice (some ⟨h1, 0, none⟩) nl h2, .int .i64 zr, .int .i64 (zs + 1), .slice (some ⟨g, 0, none⟩) N c, .int .i64 zo, .slice (some ⟨gr, 0, none⟩) nr d] 39 (0, 0)) := by
    have := HW0.out
    unfold set4
    simp [World.setCell, Array.getElem?_modify, this]
  unfold set4 at i9 y0
  clear q0 q1 q2 q3 f0 f1 f2 f3
  generalize (((v8.setCell ⟨b0, 0, none⟩ (.int .i64 zm)).setCell ⟨b0, 1, none⟩ (.slice (some ⟨h1, 0, none⟩) nl h2)).setCell ⟨b0, 2, none⟩ (.int .i64 zr)).setCell ⟨b0, 3, none⟩ (.int .i64 (zs + 1)) = v9 at *
  have y1 := (i9.block (b0 + 1) (Array.getElem?_eq_some_iff.1 HW1.out).1 (by simp)).trans HW1.out
  have HBw : Hid (Below W.heap.size W v9) := HB8.out.trans (below_in i9 (by have := HB0.out; omega) HB8.out.size)
  have HRF := Lib.hid (HRF8.out.into i9 (by have := HH1.out; simp; omega))
  clear i9 HW0 HW1 HB8 HRF8
  have HS2 : Hid (b0 + 2 ≤ v9.heap.size) := (Array.getElem?_eq_some_iff.1 y1).1
  have c2 := cW v9 HBw.out
  have HY0 := Lib.hid y0
  have HY1 := Lib.hid y1
  clear cW y1
  obtain ⟨q0, q1, q2, q3, q4, q5, q6⟩ := box7 y0
  clear y0
  go_wp2_with fail
  refine c2.out.mono ?_
  rintro e v3 ⟨⟨B2, d2, rfl, hv3⟩, hb3⟩
  have y0 := (hb3.block b0 (by have := HS2.out; omega)).trans HY0.out
  have y1 := (hb3.block (b0 + 1) (by have := HS2.out; omega)).trans HY1.out
  have HV3 : Hid (VO 23 v3 (b0 + 2) B2 d2 ((woD t.row b).map u32V)) := VO.mono hv3 HS2.out
  have HBw3 : Hid (Below W.heap.size W v3) := HBw.out.trans (hb3.mono HBw.out.size)
  have HRF3 := Lib.hid (HRF.out.kept hb3)
  have HZ0 := Lib.hid y0
  have HZ1 := Lib.hid y1
  clear q0 q1 q2 q3 q4 q5 q6 c2 HY0 HY1 hb3 hv3 HBw y1
  obtain ⟨q0, q1, q2, q3, q4, q5, q6⟩ := box7 y0
  have f6 := free7 y0 6
  clear y0
  go_upto_region 10 with fail
  have HG0 : Hid ((v3.setCell ⟨b0, 6, none⟩ (.slice B2 nr2 d2)).heap[b0]? = some (.cells #[.int .i64 zm, .slice (some ⟨h1, 0, none⟩) nl h2, .int .i64 zr, .int .i64 (zs + 1), .slice (some ⟨g, 0, none⟩) N c, .int .i64 zo, .slice B2 nr2 d2] 39 (0, 0))) := by
    have := HZ0.out
    unfold Hid
    simp [World.setCell, Array.getElem?_modify, this]
  have HG1 : Hid ((v3.setCell ⟨b0, 6, none⟩ (.slice B2 nr2 d2)).heap[b0 + 1]? = some (.cells #[.int .i64 0, .slice none 0 0, .int .i64 0, .int .i64 0, .slice none 0 0, .int .i64 0, .slice none 0 0] 39 (0, 0))) := (Below.heap_setCell _ _ _ _ (by simp)).trans HZ1.out
  have HV4 : Hid (VO 23 (v3.setCell ⟨b0, 6, none⟩ (.slice B2 nr2 d2)) (b0 + 2) B2 d2 ((woD t.row b).map u32V)) := HV3.out.into (into_setCell v3 ⟨b0, 6, none⟩ _) (fun a ha => by
    have := (HV3.out.at_ a ha).1
    simp; omega)
  have HBw4 : Hid (Below W.heap.size W (v3.setCell ⟨b0, 6, none⟩ (.slice B2 nr2 d2))) := HBw3.out.setCell (by rw [← HB0.out]; exact Nat.le_refl _) _
  have HRF4 := Lib.hid (HRF3.out.into (into_setCell v3 ⟨b0, 6, none⟩ (.slice B2 nr2 d2)) (by have := HH1.out; simp; omega))
  clear q0 q1 q2 q3 q4 q5 q6 f6 HZ0 HZ1 HV3 HBw3 HRF3 HRF
  generalize v3.setCell ⟨b0, 6, none⟩ (.slice B2 nr2 d2) = v4 at *
  have c3 := cG v4 HBw4.out h1 h2 HRF4.out B2 d2 (UT.of_vo HV4.out)
  clear cG
  obtain ⟨q0, q1, q2, q3, q4, q5, q6⟩ := box7 HG0.out
  go_wp2_with fail
  refine c3.out.mono ?_
  rintro e v5 ⟨⟨A2, c2', rfl, hv5⟩, hb5⟩
  have y1 := (hb5.block (b0 + 1) (Array.getElem?_eq_some_iff.1 HG1.out).1).trans HG1.out
  have hsz : b0 + 2 ≤ v4.heap.size := (Array.getElem?_eq_some_iff.1 HG1.out).1
  have HV5 : Hid (V4 v5 (b0 + 2) A2 c2' (goneD t.L b)) := hv5.mono hsz
  have HU5 : Hid (VO 23 v5 (b0 + 2) B2 d2 ((woD t.row b).map u32V)) := HV4.out.kept hb5
  have HRF5 := Lib.hid (HRF4.out.kept hb5)
  have HBw5 : Hid (Below W.heap.size W v5) := HBw4.out.trans (hb5.mono HBw4.out.size)
  have HY1 := Lib.hid y1
  clear q0 q1 q2 q3 q4 q5 q6 c3 hv5 hb5 hsz HBw4 HV4 HG0 HG1 HRF4
  obtain ⟨u0, u1, u2, u3, u4, u5, u6⟩ := box7 y1
  have f0 := free7 y1 0
  have f1 := free7 y1 1
  have f2 := free7 y1 2
  have f3 := free7 y1 3
  have f4 := free7 y1 4
  have f5 := free7 y1 5
  have f6 := free7 y1 6
  clear y1
  go_wp2_with fail
  have g7 := set7_at HY1.out (.int .i64 zm) (.slice (some ⟨h1, 0, none⟩) nl h2) (.int .i64 zr) (.int .i64 (zs + 1)) (.slice A2 M c2') (.int .i64 zo) (.slice B2 nr2 d2)
  have i7 := set7_into v5 (b0 + 1) (.int .i64 zm) (.slice (some ⟨h1, 0, none⟩) nl h2) (.int .i64 zr) (.int .i64 (zs + 1)) (.slice A2 M c2') (.int .i64 zo) (.slice B2 nr2 d2)
  unfold set7 at g7 i7
  generalize ((((((v5.setCell ⟨b0 + 1, 0, none⟩ (.int .i64 zm)).setCell ⟨b0 + 1, 1, none⟩ (.slice (some ⟨h1, 0, none⟩) nl h2)).setCell ⟨b0 + 1, 2, none⟩ (.int .i64 zr)).setCell ⟨b0 + 1, 3, none⟩ (.int .i64 (zs + 1))).setCell ⟨b0 + 1, 4, none⟩ (.slice A2 M c2')).setCell ⟨b0 + 1, 5, none⟩ (.int .i64 zo)).setCell ⟨b0 + 1, 6, none⟩ (.slice B2 nr2 d2) = v6 at *
  obtain ⟨o0, o1, o2, o3, o4, o5, o6⟩ := box7 g7
  have hb7 : Below W.heap.size W v6 := HBw5.out.trans (below_in i7 (by have := HB0.out; omega) HBw5.out.size)
  have hrf7 := HRF5.out.into i7 (by have := HH1.out; simp; omega)
  have hv7 : V4 v6 0 A2 c2' (goneD t.L b) := (HV5.out.into i7 (fun a ha => by
    have := (HV5.out.at_ a ha).1
    simp; omega)).mono (Nat.zero_le _)
  have hu7 : UT v6 B2 (woD t.row b) := UT.of_vo (HU5.out.into i7 (fun a ha => by
    have := (HU5.out.at_ a ha).1
    simp; omega))
  exact bodyPost_ret (v := .tuple #[.agg #[.int .i64 zm, .slice (some ⟨h1, 0, none⟩) nl h2, .int .i64 zr, .int .i64 (zs + 1), .slice A2 M c2', .int .i64 zo, .slice B2 nr2 d2], .bool true]) (by simp [results, Try.results75, go_sem, o0, o1, o2, o3, o4, o5, o6]) rfl ⟨⟨_, rfl, HR.out v6 h1 h2 A2 c2' B2 d2 hrf7 hv7 hu7⟩, hb7⟩
end Ca
end Go.Proofs.Ytjnbdmimflhhiaa
