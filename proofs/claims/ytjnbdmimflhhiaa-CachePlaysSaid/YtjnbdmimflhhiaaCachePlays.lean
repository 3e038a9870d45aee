/-
  CachePlays, walked. Written by scripts/cacheplays.py.
-/
import Derived.Test.YtjnbdmimflhhiaaCacheDocB
namespace Go.Proofs.Ytjnbdmimflhhiaa
open Go.RowKit
namespace Ca
open Mem Dv Cn Po

theorem same_like {A A' : Option Addr} {m m' c c' : Nat} {l : List Nat} {w : World} (h : UL w A l) (h' : UL w A' l) (hl : l.length = m) (hl' : l.length = m') (hm : m ≤ 1048576) :
    Calls Try.prog 19 #[.slice A m c, .slice A' m' c'] w fun e w' => e = .returned (.bool true) ∧ Below w.heap.size w w' := by
  have := Same_any A A' m m' c c' l l w h h' hl hl' hm (by omega)
  simpa using this
section
variable {W w w' : World} {F : List Nat} {p g : Nat} {st : St} {dt : Dt} {zm zr zs zo : Int} {h nl hc N2 c nr d : Nat} {A B : Option Addr}
theorem RcImage (H : Raw w dt zm zr zs zo h nl hc N2 c nr d A B) (hs : dt.ls.flatten.length ≤ 1048576) : Calls Try.prog 16 #[.agg #[.int .i64 zm, .slice (some ⟨h, 0, none⟩) nl hc, .int .i64 zr, .int .i64 zs]] w fun e w' => e = .returned (.string (strOf dt.ls.flatten)) ∧ Below w.heap.size w w' := by
  rw [← H.em]
  exact RImage_any dt.m nl hc h _ _ dt.ls w (by rw [← H.en]; exact H.dl.rf) hs
/-- a box of another kind is stored into -/
theorem Cl.box' {b : Nat} {C : Array Value} {U : TypeId} {z : Nat × Nat} (H : Cl W w F p g st) (hi : Flow.Into [b] w w') (hb : w.heap[b]? = some (.cells C U z)) (hU : U ∉ kinds) (hW : W.heap.size ≤ b) : ∃ F0, Cl W w' F0 p g st := by
  obtain ⟨F0, h1, _, h3⟩ := H.shrink
  exact ⟨F0, h1.box hi hb h3 hU hW⟩
/-- between two rounds -/
structure Pd (W wr : World) (F : List Nat) (p g b0 m k : Nat) (st : St) (dt : Dt) (zm zr zs zo : Int) (h nl hc N2 c nr d : Nat) (A B : Option Addr) : Prop where
  cl : Cl W wr F p g st
  sm : Sm st (12 * k)
  ll : st.ls.length = 9
  mm : st.m = m
  rl : Rl st dt
  raw : Raw wr dt zm zr zs zo h nl hc N2 c nr d A B
  bx : wr.heap[b0]? = some (.cells #[.int .i64 zm, .slice (some ⟨h, 0, none⟩) nl hc, .int .i64 zr, .int .i64 zs, .slice A N2 c, .int .i64 zo, .slice B nr d] 39 (0, 0))
  lo : W.heap.size ≤ b0
theorem Pd.kept {b0 m k : Nat} (H : Pd W w F p g b0 m k st dt zm zr zs zo h nl hc N2 c nr d A B) (hb : Below w.heap.size w w') : Pd W w' F p g b0 m k st dt zm zr zs zo h nl hc N2 c nr d A B := ⟨H.cl.kept hb, H.sm, H.ll, H.mm, H.rl, H.raw.kept hb, box_kept H.bx hb, H.lo⟩
/-- what the document's call answers -/
def EvAns (st' : St) (z : Int) (v : Value) (w : World) : Prop := ∃ (dt' : Dt) (zm zr zs zo : Int) (h nl hc N2 c nr d : Nat) (A B : Option Addr), v = .tuple #[.agg #[.int .i64 zm, .slice (some ⟨h, 0, none⟩) nl hc, .int .i64 zr, .int .i64 zs, .slice A N2 c, .int .i64 zo, .slice B nr d], .int .i64 z] ∧ Raw w dt' zm zr zs zo h nl hc N2 c nr d A B ∧ Rl st' dt'
theorem EvAns.of {z : Int} {e : Ending} (h : Ans w st z e) : ∃ v, e = .returned v ∧ EvAns st z v w := by
  obtain ⟨v, dt', rfl, hd, hr⟩ := h
  obtain ⟨zm2, zr2, zs2, zo2, h2, nl2, hc2, N3, k2, nr2, d2, A2, B2, rfl, hw⟩ := Raw.res hd
  exact ⟨_, rfl, dt', _, _, _, _, _, _, _, _, _, _, _, _, _, rfl, hw, hr⟩
def EvUL (l : List Nat) (n : Nat) (v : Value) (w : World) : Prop := ∃ (A : Option Addr) (c : Nat), v = .slice A n c ∧ UL w A l
def EvPic (N : Nat) (l : List UInt8) (v : Value) (w : World) : Prop := ∃ q, v = .slice (some ⟨q, 0, none⟩) N N ∧ Row 5 w q l
end
theorem step_kept (st : St) (k : Int) (b : Nat) (y : List UInt8) : (stepT st k b y).2.m = st.m ∧ (stepT st k b y).2.ls.length = st.ls.length := by
  unfold stepT
  split
  · exact ⟨(cost_pin st b).m, (cost_pin st b).ll⟩
  split
  · exact ⟨(cost_fresh st b).m, (cost_fresh st b).ll⟩
  split
  · exact ⟨(cost_unpin st b).m, (cost_unpin st b).ll⟩
  split
  · exact ⟨(cost_write st b y).m, (cost_write st b y).ll⟩
  split
  · exact ⟨(cost_drop st b).m, (cost_drop st b).ll⟩
  split
  · exact ⟨(cost_flush st).m, (cost_flush st).ll⟩
  split <;> exact ⟨rfl, rfl⟩
theorem flat_nine {m : Nat} : ∀ {ls : List (List UInt8)}, (∀ l, l ∈ ls → l.length = m) → ls.flatten.length = ls.length * m := by
  intro ls
  induction ls with
  | nil => intro _; simp
  | cons a r ih =>
    intro h
    rw [List.flatten_cons, List.length_append, h a (by simp), ih fun l hl => h l (by simp [hl]), List.length_cons, Nat.succ_mul]
    omega
theorem box_two' {w : World} {b : Nat} {v0 v1 : Value} {U : TypeId} (h : w.heap[b]? = some (.cells #[v0, v1] U (0, 0))) : w.cell? ⟨b, 0, none⟩ = some v0 ∧ w.cell? ⟨b, 1, none⟩ = some v1 := by
  simp [World.cell?, h]
theorem rl_new (m n : Nat) (ls : List (List UInt8)) : Rl (st0 m n ls 0 0) ⟨m, ls, 0, 0, [], n, []⟩ := by
  have e1 : (List.replicate n (none : Option Fr)).filterMap id = [] := by
    rw [List.filterMap_eq_nil_iff]
    intro a ha
    rw [List.eq_of_mem_replicate ha]
    rfl
  refine ⟨rfl, rfl, rfl, rfl, ?_, ?_, ?_⟩
  · show List.Perm [] ((List.replicate n (none : Option Fr)).filterMap id)
    rw [e1]
  · show n = (List.replicate n (none : Option Fr)).length
    simp
  · rw [rowL_eq]
    symm
    rw [List.filterMap_eq_nil_iff]
    intro a ha
    cases hb : blkAt (st0 m n ls 0 0).fr a with
    | none => rfl
    | some b =>
      obtain ⟨f, hf, _⟩ := blkAt_inv hb
      exact (repl_none hf).elim
set_option maxHeartbeats 4000000 in
set_option maxRecDepth 100000 in
theorem CachePlays_out (n : Int) (y : Nat) (v u : Value) (w : World) (hy : y < 256) (hn : ¬ (1 ≤ n ∧ n ≤ 64)) :
    Calls Try.prog 3 #[.int .i64 n, .int .u8 (y : Int), v, u] w fun e w' => e = .returned (.bool true) ∧ Below w.heap.size w w' := by
  have cA := fun w => Lib.hid (awake_any w)
  obtain ⟨r, hr, hr2⟩ : ∃ r : Nat, r = y % 4 ∧ r < 4 := ⟨y % 4, rfl, Nat.mod_lt _ (by omega)⟩
  have hmod : ((y : Int)).tmod 4 = (r : Int) := by rw [hr]; rfl
  have hw1 : IntKind.i64.wrap (1 + (r : Int)) = ((1 + r : Nat) : Int) := by rw [IntKind.wrap_i64]; omega
  have cD : Hid (Calls Try.prog 6 #[.int .i64 9, .int .i64 (1 + (r : Int))] w fun e w' => Made w w' (1 + r) (List.replicate 9 (List.replicate (1 + r) 0)) 0 0 e ∧ Below w.heap.size w w') := by
    have := Dv.New_in 9 (1 + r) w (by omega) (by omega) (by omega) (by omega)
    rw [Int.natCast_add] at this
    exact this
  have cN : ∀ (w : World) (S : List Nat) (g : Nat) (h : Dev w S g (1 + r) (List.replicate 9 (List.replicate (1 + r) 0)) 0 0), Hid (Calls Try.prog 7 #[.pointer (some ⟨g, 0, none⟩), .int .i64 n] w fun e w' => e = .returned (.tuple #[.pointer none, .int .i64 2]) ∧ w = w') := fun w S g h => New_no h n hn
  clear hr
  by_cases h0 : n < 1
  · clear hn
    go_enter Try.func3, Try.ntmps3
    go_wp2_with (first
      | (go_at_call 6; refine cD.out.mono ?_; rintro e w1 ⟨⟨g, S, rfl, hd, hg⟩, hb⟩; have H1 := Lib.hid (And.intro hd (And.intro hg hb)); clear hd hg hb)
      | (go_at_call 7; refine (cN _ _ _ H1.out.1).out.mono ?_; rintro e w' ⟨rfl, rfl⟩)
      | (go_at_call 8; refine (cA _).out.mono ?_; rintro e w' ⟨rfl, hb⟩; have HB := Lib.hid hb; clear hb))
    go_ret
    exact ⟨rfl, below_all H1.out.2.2 HB.out (Nat.le_refl _)⟩
  · have h1 : 64 < n := by omega
    clear hn
    go_enter Try.func3, Try.ntmps3
    go_wp2_with (first
      | (go_at_call 6; refine cD.out.mono ?_; rintro e w1 ⟨⟨g, S, rfl, hd, hg⟩, hb⟩; have H1 := Lib.hid (And.intro hd (And.intro hg hb)); clear hd hg hb)
      | (go_at_call 7; refine (cN _ _ _ H1.out.1).out.mono ?_; rintro e w' ⟨rfl, rfl⟩)
      | (go_at_call 8; refine (cA _).out.mono ?_; rintro e w' ⟨rfl, hb⟩; have HB := Lib.hid hb; clear hb))
    go_ret
    exact ⟨rfl, below_all H1.out.2.2 HB.out (Nat.le_refl _)⟩
set_option maxHeartbeats 8000000 in
set_option maxRecDepth 100000 in
theorem CachePlays_in (n y : Nat) (q0 : Option Addr) (d0 : Nat) (ac : List (Int × Nat × List UInt8)) (ask : Nat) (w : World) (hy : y < 256) (n1 : 1 ≤ n) (n2 : n ≤ 64) (ha : ActL w q0 ac) (hda : ac.length ≤ maxLen) (hask : ask < 4294967296) :
    Calls Try.prog 3 #[.int .i64 (n : Int), .int .u8 (y : Int), .slice q0 ac.length d0, .int .u32 (ask : Int)] w fun e w' => e = .returned (.bool true) ∧ Below w.heap.size w w' := by
  have cA := fun w => Lib.hid (awake_any w)
  obtain ⟨r, hr, hr2⟩ : ∃ r : Nat, r = y % 4 ∧ r < 4 := ⟨y % 4, rfl, Nat.mod_lt _ (by omega)⟩
  have hmod : ((y : Int)).tmod 4 = (r : Int) := by rw [hr]; rfl
  have hw1 : IntKind.i64.wrap (1 + (r : Int)) = ((1 + r : Nat) : Int) := by rw [IntKind.wrap_i64]; omega
  obtain ⟨m, hm⟩ : ∃ m, m = 1 + r := ⟨_, rfl⟩
  rw [← hm] at hw1
  have m1 : 1 ≤ m := by omega
  have m2 : m ≤ 4 := by omega
  obtain ⟨ls0, hls⟩ : ∃ ls0 : List (List UInt8), ls0 = List.replicate 9 (List.replicate m 0) := ⟨_, rfl⟩
  have cD : Hid (Calls Try.prog 6 #[.int .i64 9, .int .i64 (m : Int)] w fun e w' => Made w w' m ls0 0 0 e ∧ Below w.heap.size w w') := by rw [hls]; exact Dv.New_in 9 m w (by omega) (by omega) (by omega) (by omega)
  have cR : ∀ w, Hid (Calls Try.prog 9 #[.int .i64 9, .int .i64 (m : Int)] w fun e w' => RMade w w' m 9 ls0 e ∧ Below w.heap.size w w') := fun w => by rw [hls]; exact RNew_any 9 m w (by omega) (by omega) (by omega)
  have cN : ∀ (w : World) (S : List Nat) (g : Nat) (h : Dev w S g m ls0 0 0), Hid (Calls Try.prog 7 #[.pointer (some ⟨g, 0, none⟩), .int .i64 (n : Int)] w fun e w' => NewC w w' S g (st0 m n ls0 0 0) e) := fun w S g h => New_in h n n1 n2
  have HL0 : Hid (ls0.length = 9) := by unfold Hid; rw [hls]; simp
  obtain ⟨N, hN⟩ : ∃ N, N = ac.length := ⟨_, rfl⟩
  have HN := Lib.hid hN
  have HA := Lib.hid ha
  rw [← hN] at hda ⊢
  have hda' : N ≤ 9223372036854775807 := by unfold maxLen at hda; omega
  clear ha hN hr hda hls hm
  go_enter Try.func3, Try.ntmps3
  go_upto_region 3 with (go_at_call 6; refine cD.out.mono ?_; rintro e w1 ⟨⟨g, S, rfl, hd, hg⟩, hb⟩; have H1 := Lib.hid (And.intro hd (And.intro hg hb)); clear hd hg hb)
  clear cD
  go_upto_region 10 with (go_at_call 7; refine (cN _ _ _ H1.out.1).out.mono ?_; rintro e w2 ⟨p, F2, rfl, hc, hg, hb⟩; have H2 : Hid (Cl w w2 F2 p g (st0 m n ls0 0 0)) := ⟨hc, fun x hx => (by rcases hg x hx with h' | h'; exact H1.out.2.1 x h'; exact Nat.le_trans H1.out.2.2.size h'), below_all H1.out.2.2 hb (Nat.le_refl _)⟩; clear hc hg hb)
  clear cN H1 hmod hw1
  go_upto_region 11 with (go_at_call 9; refine (cR _).out.mono ?_; rintro e w3 ⟨⟨h, hc, rfl, hrf, -⟩, hb⟩; have HRF := Lib.hid hrf; have H3 := Lib.hid (H2.out.kept hb); clear hrf hb H2 cR)
  have hx4 := heap_alloc_new w3 (.cells #[.int .i64 (m : Int), .slice (some ⟨h, 0, none⟩) 9 hc, .int .i64 0, .int .i64 0, .slice none 0 0, .int .i64 (n : Int), .slice none 0 0] 39)
  have hb4 : Below w3.heap.size w3 (w3.alloc (.cells #[.int .i64 (m : Int), .slice (some ⟨h, 0, none⟩) 9 hc, .int .i64 0, .int .i64 0, .slice none 0 0, .int .i64 (n : Int), .slice none 0 0] 39)) := (Below.refl _ _).alloc (Nat.le_refl _) _
  obtain ⟨b0, hb0⟩ : ∃ b0, b0 = w3.heap.size := ⟨_, rfl⟩
  generalize w3.alloc (.cells #[.int .i64 (m : Int), .slice (some ⟨h, 0, none⟩) 9 hc, .int .i64 0, .int .i64 0, .slice none 0 0, .int .i64 (n : Int), .slice none 0 0] 39) = w4 at *
  rw [← hb0] at hx4 ⊢
  have HP4 : Hid (Pd w w4 F2 p g b0 m 0 (st0 m n ls0 0 0) ⟨m, ls0, 0, 0, [], n, []⟩ (m : Int) 0 0 (n : Int) h 9 hc 0 0 0 0 none none) :=
    ⟨H3.out.kept hb4, ⟨Nat.le_refl _, Nat.le_refl _, fun j f h => (repl_none h).elim⟩, HL0.out, rfl, rl_new m n ls0, ⟨⟨by show Rf _ h hc ls0.length ls0; rw [HL0.out]; exact HRF.out.kept hb4, V4.nil _ _, UT.nil _, Nat.zero_le _, Nat.zero_le _⟩, rfl, rfl, rfl, rfl, HL0.out, rfl, rfl⟩, hx4, by rw [hb0]; exact H3.out.bl.size⟩
  clear hx4 hb4 hb0 H3 HRF HL0
  go_wp2_with fail
  go_loopg [15] N (fun gk iv wr => ∃ (k : Nat) (F : List Nat) (st : St) (dt : Dt) (zm zr zs zo : Int) (h nl hc N2 c nr d : Nat) (A B : Option Addr), k ≤ N ∧ k ≤ 60 ∧ gk = N - k ∧ iv = .int .i64 (k : Int) ∧ Hid (Pd w wr F p g b0 m k st dt zm zr zs zo h nl hc N2 c nr d A B))
  case atStart => exact ⟨0, F2, _, _, (m : Int), 0, 0, (n : Int), h, 9, hc, 0, 0, 0, 0, none, none, Nat.zero_le _, Nat.zero_le _, rfl, rfl, HP4⟩
  case round =>
    obtain ⟨k, F, st, dt, zm, zr, zs, zo, h, nl, hc, N2, c, nr, d, A, B, hk, hk60, rfl, rfl, HP⟩ := hrel
    clear HP4
    by_cases hlt : k < N ∧ k < 60
    · obtain ⟨hkN, hk6⟩ := hlt
      obtain ⟨ab, ao, ⟨kd, I, bs⟩, rfl, hact⟩ := HA.out.at_ (i := k) (by rw [← HN.out]; exact hkN)
      obtain ⟨e0w, e1w, ⟨Ab, cb, e2w, hblw, -⟩, hI, -⟩ := hact
      simp only at e0w e1w e2w hblw hI
      have e0 := cell_after HP.out.cl.bl e0w
      have e1 := cell_after HP.out.cl.bl e1w
      have e2 := cell_after HP.out.cl.bl e2w
      have HACT := Lib.hid (And.intro e0w (And.intro e1w e2w))
      obtain ⟨q0', q1, q2, q3, q4, q5, q6⟩ := box7 HP.out.bx
      obtain ⟨bn, hbn⟩ : ∃ bn, bn = bs.length := ⟨_, rfl⟩
      rw [← hbn] at e2 HACT
      have hsm := HP.out.sm.mono (K' := 900000) (by omega)
      have cW : ∀ W1, Below wr.heap.size wr W1 → Hid (Calls Try.prog 10 #[.agg #[.int .i64 zm, .slice (some ⟨h, 0, none⟩) nl hc, .int .i64 zr, .int .i64 zs, .slice A N2 c, .int .i64 zo, .slice B nr d], .agg #[.int .i64 kd, .int .u32 (I : Int), .slice Ab bn cb]] W1 fun e w' => Ans w' (stepT st kd I bs).2 (stepT st kd I bs).1 e ∧ Below W1.heap.size W1 w') := fun W1 hb => want_any (k := cb) (HP.out.raw.kept hb) HP.out.rl HP.out.cl.cw.good hsm (by rw [HP.out.ll]; omega) (by rw [HP.out.mm]; omega) hI (hblw.below (bel_call HP.out.cl.bl hb)) hbn.symm kd
      have cT : ∀ W1 F1, Cl w W1 F1 p g st → Hid (Calls Try.prog 11 #[.pointer (some ⟨p, 0, none⟩), .agg #[.int .i64 kd, .int .u32 (I : Int), .slice Ab bn cb]] W1 fun e w' => Did w W1 w' F1 p g (stepT st kd I bs).1 (stepT st kd I bs).2 e) := fun W1 F1 hc => step_any (c := cb) hc hsm (by rw [HP.out.ll]; omega) kd hI (hblw.below hc.bl) hbn.symm
      have HSM : Hid (Sm (stepT st kd I bs).2 (12 * (k + 1))) := (HP.out.sm.step (by rw [HP.out.ll]; omega) kd I bs).mono (by omega)
      have HKP : Hid ((stepT st kd I bs).2.m = m ∧ (stepT st kd I bs).2.ls.length = 9) := by
        have := step_kept st kd I bs
        rw [HP.out.mm, HP.out.ll] at this
        exact this
      generalize stepT st kd I bs = res at *
      obtain ⟨z, st'⟩ := res
      simp only at cW cT HSM HKP
      clear hbn hsm hblw e0w e1w e2w
      go_upto_region 14 with fail
      have z0 := fun q : Drift.Tide [] wr [] => Drift.Tide.cell q0' (by simp) q
      have z1 := fun q : Drift.Tide [] wr [] => Drift.Tide.cell q1 (by simp) q
      have z2 := fun q : Drift.Tide [] wr [] => Drift.Tide.cell q2 (by simp) q
      have z3 := fun q : Drift.Tide [] wr [] => Drift.Tide.cell q3 (by simp) q
      have z4 := fun q : Drift.Tide [] wr [] => Drift.Tide.cell q4 (by simp) q
      have z5 := fun q : Drift.Tide [] wr [] => Drift.Tide.cell q5 (by simp) q
      have z6 := fun q : Drift.Tide [] wr [] => Drift.Tide.cell q6 (by simp) q
      have x0 := fun q : Drift.Tide [] wr [] => Drift.Tide.cell e0 (by simp) q
      have x1 := fun q : Drift.Tide [] wr [] => Drift.Tide.cell e1 (by simp) q
      have x2 := fun q : Drift.Tide [] wr [] => Drift.Tide.cell e2 (by simp) q
      clear q0' q1 q2 q3 q4 q5 q6 e0 e1 e2
      refine Drift.wp_region_drift_late [] [(0,[]),(1,[]),(2,[]),(3,[]),(4,[]),(5,[9]),(6,[]),(7,[]),(8,[]),(9,[])] [5] [9] [8] (by kernel_rfl) (by kernel_rfl) (by simp) ?_
      simp only [Drift.pick, Drift.opsAt, List.getElem?_toArray, List.getElem?_cons_zero, List.getElem?_cons_succ, List.cons_append, List.nil_append, List.filterMap_cons, List.filterMap_nil]
      repeat (refine Drift.walk_step (fun K hK => ?_); go_simp; (refine hK _ ?_; clear hK K))
      refine Drift.walk_event rfl (Drift.mkwalk_one rfl (fun b => .pointer (some ⟨b, 0, none⟩)) (.cells #[.int .i64 0, .slice none 0 0, .int .i64 0, .int .i64 0, .slice none 0 0, .int .i64 0, .slice none 0 0] 39) (fun W => by go_simp) fun b hb => Drift.mkwalk_nil) (EvAns st' z) (fun W hk _ => ?_) (fun v w5 hv hI _ hTd => ?_)
      · go_simp
        go_at_call 10
        refine (cW W hk).out.mono ?_
        rintro e w' ⟨ha, hb⟩
        obtain ⟨v, rfl, hv⟩ := EvAns.of ha
        exact ⟨_, rfl, hv, Flow.Into.of_below hb⟩
      obtain ⟨dt2, zm2, zr2, zs2, zo2, h2, nl2, hc2, N3, k2, nr2, d2, A2, B2, rfl, hv5, hr5⟩ := hv
      have HI5 := Lib.hid hI
      have HV5 := Lib.hid hv5
      have HR5 := Lib.hid hr5
      clear hI hv5 hr5 z0 z1 z2 z3 z4 z5 z6 x0 x1 x2 cW
      repeat (refine Drift.walk_step (fun K hK => ?_); go_simp; (refine hK _ ?_; clear hK K))
      refine Drift.walk_clear rfl (.int .i64 z) (fun W => by go_simp) ?_
      refine Drift.walk_make rfl Drift.mkwalk_nil (fun b => .pointer (some ⟨b, 0, none⟩)) (.cells #[.int .i64 0, .slice none 0 0, .int .i64 0, .int .i64 0, .slice none 0 0, .int .i64 0, .slice none 0 0] 39) (fun W => by go_simp) (fun s hs _ => ?_)
      refine Drift.walk_nil ?_
      intro w6 hb6 hl6
      have hsx : w6.heap[s]? = some (.cells #[.int .i64 0, .slice none 0 0, .int .i64 0, .int .i64 0, .slice none 0 0, .int .i64 0, .slice none 0 0] 39 (0, 0)) := hl6 (s, .cells #[.int .i64 0, .slice none 0 0, .int .i64 0, .int .i64 0, .slice none 0 0, .int .i64 0, .slice none 0 0] 39) (by simp)
      have hb56 : Below wr.heap.size wr w6 := HI5.out.below.trans (hb6.mono HI5.out.size)
      have HV6 := Lib.hid (Raw.kept HV5.out hb6)
      have HX6 := Lib.hid (box_kept HP.out.bx hb56)
      have HS6 := Lib.hid hsx
      have HC6 := Lib.hid (HP.out.cl.kept hb56)
      have HLO := Lib.hid HP.out.lo
      have HSB : Hid (b0 < s) := Nat.lt_of_lt_of_le (box_lt HP.out.bx) hs
      obtain ⟨r0, r1, r2, r3, r4, r5, r6⟩ := box7 hsx
      have f0 := free7 hsx 0
      have f1 := free7 hsx 1
      have f2 := free7 hsx 2
      have f3 := free7 hsx 3
      have f4 := free7 hsx 4
      have f5 := free7 hsx 5
      have f6 := free7 hsx 6
      clear hTd hl6 hb6 hb56 hs HV5 HI5 hsx HP
      simp only [List.length_cons, List.length_nil, List.drop_succ_cons, List.drop_zero, Nat.zero_add, Nat.reduceAdd]
      go_upto_region 15 with fail
      rw [Flow.Nrm_normal]
      have i7 := set7_into w6 s (.int .i64 zm2) (.slice (some ⟨h2, 0, none⟩) nl2 hc2) (.int .i64 zr2) (.int .i64 zs2) (.slice A2 N3 k2) (.int .i64 zo2) (.slice B2 nr2 d2)
      have g7 := set7_at HS6.out (.int .i64 zm2) (.slice (some ⟨h2, 0, none⟩) nl2 hc2) (.int .i64 zr2) (.int .i64 zs2) (.slice A2 N3 k2) (.int .i64 zo2) (.slice B2 nr2 d2)
      unfold set7 at i7 g7
      generalize ((((((w6.setCell ⟨s, 0, none⟩ (.int .i64 zm2)).setCell ⟨s, 1, none⟩ (.slice (some ⟨h2, 0, none⟩) nl2 hc2)).setCell ⟨s, 2, none⟩ (.int .i64 zr2)).setCell ⟨s, 3, none⟩ (.int .i64 zs2)).setCell ⟨s, 4, none⟩ (.slice A2 N3 k2)).setCell ⟨s, 5, none⟩ (.int .i64 zo2)).setCell ⟨s, 6, none⟩ (.slice B2 nr2 d2) = w7 at *
      have HV7 := Lib.hid (Raw.box HV6.out i7 HS6.out rfl)
      have HX7 := Lib.hid (box_into HX6.out i7 (by have := HSB.out; simp; omega))
      have HS7 := Lib.hid g7
      obtain ⟨F7, hc7⟩ := HC6.out.box' i7 HS6.out (by decide) (by have := HSB.out; have := HLO.out; omega)
      have HC7 := Lib.hid hc7
      clear i7 g7 hc7 r0 r1 r2 r3 r4 r5 r6 f0 f1 f2 f3 f4 f5 f6 HV6 HX6 HS6 HC6
      obtain ⟨r0, r1, r2, r3, r4, r5, r6⟩ := box7 HS7.out
      obtain ⟨q0', q1, q2, q3, q4, q5, q6⟩ := box7 HX7.out
      have f0 := free7 HX7.out 0
      have f1 := free7 HX7.out 1
      have f2 := free7 HX7.out 2
      have f3 := free7 HX7.out 3
      have f4 := free7 HX7.out 4
      have f5 := free7 HX7.out 5
      have f6 := free7 HX7.out 6
      go_upto_region 16 with fail
      have i8 := set7_into w7 b0 (.int .i64 zm2) (.slice (some ⟨h2, 0, none⟩) nl2 hc2) (.int .i64 zr2) (.int .i64 zs2) (.slice A2 N3 k2) (.int .i64 zo2) (.slice B2 nr2 d2)
      have g8 := set7_at HX7.out (.int .i64 zm2) (.slice (some ⟨h2, 0, none⟩) nl2 hc2) (.int .i64 zr2) (.int .i64 zs2) (.slice A2 N3 k2) (.int .i64 zo2) (.slice B2 nr2 d2)
      unfold set7 at i8 g8
      generalize ((((((w7.setCell ⟨b0, 0, none⟩ (.int .i64 zm2)).setCell ⟨b0, 1, none⟩ (.slice (some ⟨h2, 0, none⟩) nl2 hc2)).setCell ⟨b0, 2, none⟩ (.int .i64 zr2)).setCell ⟨b0, 3, none⟩ (.int .i64 zs2)).setCell ⟨b0, 4, none⟩ (.slice A2 N3 k2)).setCell ⟨b0, 5, none⟩ (.int .i64 zo2)).setCell ⟨b0, 6, none⟩ (.slice B2 nr2 d2) = w8 at *
      have HV8 := Lib.hid (Raw.box HV7.out i8 HX7.out rfl)
      have HX8 := Lib.hid g8
      obtain ⟨F8, hc8⟩ := HC7.out.box' i8 HX7.out (by decide) HLO.out
      obtain ⟨F9, hc9, -, hF9⟩ := hc8.shrink
      have HC9 := Lib.hid hc9
      have HF9 := Lib.hid hF9
      have e0 := cell_after hc9.bl HACT.out.1
      have e1 := cell_after hc9.bl HACT.out.2.1
      have e2 := cell_after hc9.bl HACT.out.2.2
      clear i8 g8 hc8 hc9 hF9 r0 r1 r2 r3 r4 r5 r6 q0' q1 q2 q3 q4 q5 q6 f0 f1 f2 f3 f4 f5 f6 HV7 HX7 HS7 HC7
      go_upto_region 18 with (go_at_call 11; refine (cT _ _ HC9.out).out.mono ?_; rintro e w9 ⟨rfl, ⟨F10, hc10, -⟩, hi9⟩)
      have HC := Lib.hid hc10
      have HV := Lib.hid (Raw.step HV8.out hi9 HF9.out)
      have HX := Lib.hid (box_step HX8.out hi9 HF9.out (by decide))
      clear hc10 hi9 e0 e1 e2 HV8 HX8 HC9 HF9 cT
      obtain rfl : zr2 = (st'.r : Int) := by rw [← HV.out.er, HR5.out.r]
      obtain rfl : zs2 = (st'.s : Int) := by rw [← HV.out.es, HR5.out.s]
      have cR1 := Lib.hid (CRead HC.out.cw hask)
      have cR2 : ∀ W1, Below w9.heap.size w9 W1 → Hid (Calls Try.prog 13 #[.agg #[.int .i64 zm2, .slice (some ⟨h2, 0, none⟩) nl2 hc2, .int .i64 (st'.r : Int), .int .i64 (st'.s : Int), .slice A2 N3 k2, .int .i64 zo2, .slice B2 nr2 d2], .int .u32 (ask : Int)] W1 fun e w' => e = .returned (.tuple #[.string (strOf (readP st' ask).1), .int .i64 (readP st' ask).2]) ∧ Below W1.heap.size W1 w') := fun W1 hb => WRead (HV.out.kept hb) HR5.out HC.out.cw.good ask
      obtain ⟨S9, hd9⟩ := HC.out.dev
      have cS : ∀ W1, Below w9.heap.size w9 W1 → Hid (Calls Try.prog 14 #[.pointer (some ⟨g, 0, none⟩)] W1 fun e w' => e = .returned (.agg #[.int .u64 (st'.r : Int), .int .u64 (st'.s : Int)]) ∧ Below W1.heap.size W1 w') := fun W1 hb => Stats_any (hd9.kept hb)
      generalize readP st' ask = rp at *
      obtain ⟨x, xz⟩ := rp
      simp only at cR1 cR2
      obtain ⟨xl, hxl⟩ : ∃ xl, xl = x.length := ⟨_, rfl⟩
      unfold Told at cR1
      rw [← hxl] at cR1
      have HXL := Lib.hid hxl
      obtain ⟨q0', q1, q2, q3, q4, q5, q6⟩ := box7 HX.out
      clear hxl hd9
      go_upto_region 19 with (go_at_call 12; refine cR1.out.mono ?_; rintro e w10 ⟨⟨A5, k5, rfl, hb5⟩, hb10⟩)
      have HBL := Lib.hid hb5
      have HB10 := Lib.hid hb10
      obtain ⟨q0', q1, q2, q3, q4, q5, q6⟩ := box7 (box_kept HX.out hb10)
      clear hb5 hb10 cR1
      go_upto_region 20 with (go_at_call 13; refine (cR2 _ HB10.out).out.mono ?_; rintro e w11 ⟨rfl, hb11⟩)
      have HBL11 := Lib.hid (HBL.out.below hb11)
      have HB11 := Lib.hid (below_all HB10.out hb11 (Nat.le_refl _))
      clear hb11 cR2 HBL HB10
      clear q0' q1 q2 q3 q4 q5 q6
      go_upto_region 21 with (go_at_call 14; refine (cS _ HB11.out).out.mono ?_; rintro e w12 ⟨rfl, hb12⟩)
      have hb13 : Below w12.heap.size w12 (w12.alloc (.cells #[.int .u64 (st'.r : Int), .int .u64 (st'.s : Int)] 52)) := (Below.refl _ _).alloc (Nat.le_refl _) _
      have hst := heap_alloc_new w12 (.cells #[.int .u64 (st'.r : Int), .int .u64 (st'.s : Int)] 52)
      obtain ⟨bt, hbt⟩ : ∃ bt, bt = w12.heap.size := ⟨_, rfl⟩
      generalize w12.alloc (.cells #[.int .u64 (st'.r : Int), .int .u64 (st'.s : Int)] 52) = w13 at *
      rw [← hbt] at hst ⊢
      have HST := Lib.hid hst
      have hbb := below_all hb12 hb13 (Nat.le_refl _)
      have HBL13 := Lib.hid (HBL11.out.below hbb)
      have HB13 := Lib.hid (below_all HB11.out hbb (Nat.le_refl _))
      obtain ⟨S13, hd13⟩ := (HC.out.kept HB13.out).dev
      obtain ⟨M, hM⟩ : ∃ M, M = 9 * m := ⟨_, rfl⟩
      have HFL : Hid (st'.ls.flatten.length = M) := by
        unfold Hid
        rw [hM, flat_nine (m := m) (fun l hl => by rw [← HKP.out.1]; exact HC.out.cw.good.lm l hl), HKP.out.2]
      have cI : ∀ W1, Below w13.heap.size w13 W1 → Hid (Calls Try.prog 15 #[.pointer (some ⟨g, 0, none⟩)] W1 fun e w' => Pictured W1 w' M st'.ls.flatten e ∧ Below W1.heap.size W1 w') := fun W1 hb => Image_n (hd13.kept hb) 9 M HKP.out.2.symm (by rw [HKP.out.1]; exact hM) (by omega)
      have cJ : ∀ W1, Below w9.heap.size w9 W1 → Hid (Calls Try.prog 16 #[.agg #[.int .i64 zm2, .slice (some ⟨h2, 0, none⟩) nl2 hc2, .int .i64 (st'.r : Int), .int .i64 (st'.s : Int)]] W1 fun e w' => e = .returned (.string (strOf st'.ls.flatten)) ∧ Below W1.heap.size W1 w') := fun W1 hb => by
        have := RcImage (HV.out.kept hb) (by rw [HR5.out.ls, HFL.out]; omega)
        rw [HR5.out.ls] at this
        exact this
      have cv1 : ∀ q : Drift.Tide [] w13 [], (convert 42 9 (.slice A5 xl k5)).run Try.prog q.sea = .ok (.string (strOf x)) q.sea := fun q => run_text_n Try.underlying42 Try.underlying5 Try.underlying9 (HBL13.out.below q.into.below) HXL.out.symm k5
      have hsr := HSM.out.r
      have hss := HSM.out.s
      have hwr : IntKind.u64.wrap (st'.r : Int) = (st'.r : Int) := by rw [IntKind.wrap_u64]; omega
      have hws : IntKind.u64.wrap (st'.s : Int) = (st'.s : Int) := by rw [IntKind.wrap_u64]; omega
      obtain ⟨y0, y1, y2, y3, -, -, -⟩ := box7 (box_kept HX.out HB13.out)
      have z0 := fun q : Drift.Tide [] w13 [] => Drift.Tide.cell y0 (by simp) q
      have z1 := fun q : Drift.Tide [] w13 [] => Drift.Tide.cell y1 (by simp) q
      have z2 := fun q : Drift.Tide [] w13 [] => Drift.Tide.cell y2 (by simp) q
      have z3 := fun q : Drift.Tide [] w13 [] => Drift.Tide.cell y3 (by simp) q
      clear y0 y1 y2 y3 q0' q1 q2 q3 q4 q5 q6 hst hb12 hb13 hbb hbt hd13 hM cS HB11 HBL11
      refine Drift.wp_region_drift [] [(0,[]),(1,[]),(2,[]),(3,[]),(4,[]),(5,[]),(6,[]),(7,[]),(8,[]),(9,[]),(10,[]),(13,[]),(14,[]),(11,[]),(12,[]),(15,[]),(16,[]),(17,[]),(18,[]),(19,[]),(20,[]),(21,[]),(22,[]),(23,[]),(24,[]),(25,[]),(26,[]),(27,[]),(28,[]),(29,[]),(30,[])] [11] [] (by kernel_rfl) (by kernel_rfl) (by simp) ?_
      simp only [Drift.pick, Drift.opsAt, List.getElem?_toArray, List.getElem?_cons_zero, List.getElem?_cons_succ, List.cons_append, List.nil_append, List.filterMap_nil]
      repeat (refine Drift.walk_step (fun K hK => ?_); go_simp; (refine hK _ ?_; clear hK K))
      refine Drift.walk_event rfl Drift.mkwalk_nil (EvPic M st'.ls.flatten) (fun W hk _ => ?_) (fun v w14 hv hI _ hTd => ?_)
      · go_simp
        go_at_call 15
        exact (cI W hk).out.mono fun e w' ⟨⟨q, he, hr, _⟩, hb⟩ => ⟨_, he, ⟨q, rfl, hr⟩, Flow.Into.of_below hb⟩
      obtain ⟨q6', rfl, hrow⟩ := hv
      have HR6 := Lib.hid hrow
      have HB14 := Lib.hid (below_all HB13.out hI.below (Nat.le_refl _))
      obtain ⟨t0, t1⟩ := box_two' (box_kept HST.out hI.below)
      obtain ⟨-, -, y2, y3, -, -, -⟩ := box7 (box_kept HX.out HB14.out)
      have cv3 : ∀ q : Drift.Tide [] w14 [], (convert 42 9 (.slice (some ⟨q6', 0, none⟩) M M)).run Try.prog q.sea = .ok (.string (strOf st'.ls.flatten)) q.sea := fun q => run_text_n Try.underlying42 Try.underlying5 Try.underlying9 (HR6.out.bl.below q.into.below) HFL.out M
      have x0 := fun q : Drift.Tide [] w14 [] => Drift.Tide.cell t0 (by simp) q
      have x1 := fun q : Drift.Tide [] w14 [] => Drift.Tide.cell t1 (by simp) q
      have x2 := fun q : Drift.Tide [] w14 [] => Drift.Tide.cell y2 (by simp) q
      have x3 := fun q : Drift.Tide [] w14 [] => Drift.Tide.cell y3 (by simp) q
      clear z0 z1 z2 z3 hrow hI t0 t1 y2 y3 cv1 cI HB13 HBL13 HST
      repeat (refine Drift.walk_step (fun K hK => ?_); go_simp; first | (refine hK _ ?_; clear hK K) | (apply Exists.intro; refine ⟨fun q => ?_, hK _ ?_⟩; (go_at_call 16; exact (cJ _ (below_all HB14.out q.into.below (Nat.le_refl _))).out); clear hK K))
      refine Drift.walk_nil ?_
      intro w15 hb15 _
      have HB15 := Lib.hid (below_all HB14.out hb15 (Nat.le_refl _))
      clear hb15 cv3 x0 x1 x2 x3 HB14 HR6 cJ HFL hTd hwr hws
      simp only [List.length_cons, List.length_nil, List.drop_succ_cons, List.drop_nil, Nat.zero_add, Nat.reduceAdd]
      go_upto_region 23 with fail
      obtain rfl : N3 = occ st'.fr := by rw [← HV.out.eN, HR5.out.len]
      obtain rfl : nr2 = (rowL st').length := by rw [← HV.out.enr, HR5.out.row]
      have hll := HKP.out.2
      have cP1 : ∀ W1, Below w9.heap.size w9 W1 → Hid (Calls Try.prog 17 #[.pointer (some ⟨p, 0, none⟩), .int .u32 (ask : Int)] W1 fun e w' => e = .returned (.int .i64 (pinsP st' ask : Int)) ∧ Below W1.heap.size W1 w') := fun W1 hb => (CPins (HC.out.kept hb).cw hask).mono fun e w' he => ⟨he.1, he.2 ▸ Below.refl _ _⟩
      have cP2 : ∀ W1, Below w9.heap.size w9 W1 → Hid (Calls Try.prog 18 #[.agg #[.int .i64 zm2, .slice (some ⟨h2, 0, none⟩) nl2 hc2, .int .i64 (st'.r : Int), .int .i64 (st'.s : Int), .slice A2 (occ st'.fr) k2, .int .i64 zo2, .slice B2 (rowL st').length d2], .int .u32 (ask : Int)] W1 fun e w' => e = .returned (.int .i64 (pinsP st' ask : Int)) ∧ Below W1.heap.size W1 w') := fun W1 hb => WPins (HV.out.kept hb) HR5.out HC.out.cw.good ask
      have cD1 : ∀ W1, Below w9.heap.size w9 W1 → Hid (Calls Try.prog 20 #[.pointer (some ⟨p, 0, none⟩)] W1 fun e w' => (∃ A c, e = .returned (.slice A (dirtyL st').length c) ∧ UL w' A (dirtyL st')) ∧ Below W1.heap.size W1 w') := fun W1 hb => (CDirty (HC.out.kept hb).cw (by omega)).mono fun e w' ⟨⟨A, c, he, hu, _⟩, hb'⟩ => ⟨⟨A, c, he, hu⟩, hb'⟩
      have cD2 : ∀ W1, Below w9.heap.size w9 W1 → Hid (Calls Try.prog 21 #[.agg #[.int .i64 zm2, .slice (some ⟨h2, 0, none⟩) nl2 hc2, .int .i64 (st'.r : Int), .int .i64 (st'.s : Int), .slice A2 (occ st'.fr) k2, .int .i64 zo2, .slice B2 (rowL st').length d2]] W1 fun e w' => (∃ A c, e = .returned (.slice A (dirtyL st').length c) ∧ UL w' A (dirtyL st')) ∧ Below W1.heap.size W1 w') := fun W1 hb => (WDirty (HV.out.kept hb) HR5.out HC.out.cw.good).mono fun e w' ⟨⟨A, n, c, he, hn, hu⟩, hb'⟩ => ⟨⟨A, c, by rw [hn]; exact he, hu⟩, hb'⟩
      have cRw : ∀ W1, Below w9.heap.size w9 W1 → Hid (Calls Try.prog 22 #[.pointer (some ⟨p, 0, none⟩)] W1 fun e w' => (∃ A c, e = .returned (.slice A (rowL st').length c) ∧ UL w' A (rowL st')) ∧ Below W1.heap.size W1 w') := fun W1 hb => CRow (HC.out.kept hb).cw
      have cU : ∀ W1, Below w9.heap.size w9 W1 → Hid (Calls Try.prog 23 #[.pointer (some ⟨p, 0, none⟩)] W1 fun e w' => e = .returned (.int .i64 (occ st'.fr : Int)) ∧ Below W1.heap.size W1 w') := fun W1 hb => (CUsed (HC.out.kept hb).cw).mono fun e w' he => ⟨he.1, he.2 ▸ Below.refl _ _⟩
      have HUL : Hid (UL w9 B2 (rowL st')) := by
        have := HV.out.dl.ul.ul
        rw [HR5.out.row] at this
        exact this
      have hD1 : (dirtyL st').length ≤ 12 := by
        have := dirty_le st'
        omega
      have hR1 : (rowL st').length ≤ 64 := Nat.le_trans (List.length_filterMap_le _ _) HC.out.cw.good.row64
      have HPE : Hid (∀ W1, Below w9.heap.size w9 W1 → Pd w W1 F10 p g b0 m (k + 1) st' dt2 zm2 (st'.r : Int) (st'.s : Int) zo2 h2 nl2 hc2 (occ st'.fr) k2 (rowL st').length d2 A2 B2) := fun W1 hb => ⟨HC.out.kept hb, HSM.out, HKP.out.2, HKP.out.1, HR5.out, HV.out.kept hb, box_kept HX.out hb, HLO.out⟩
      clear hll HC HV HR5 HKP HSM hsr hss HXL
      generalize pinsP st' ask = pv at *
      generalize dirtyL st' = D at *
      obtain ⟨nD, hnD⟩ : ∃ nD, nD = D.length := ⟨_, rfl⟩
      obtain ⟨nR, hnR⟩ : ∃ nR, nR = (rowL st').length := ⟨_, rfl⟩
      rw [← hnD] at hD1
      rw [← hnR] at hR1
      simp only [← hnD, ← hnR] at cP1 cP2 cD1 cD2 cRw cU HPE HX
      have HND := Lib.hid hnD
      have HNR := Lib.hid hnR
      clear hnD hnR
      generalize rowL st' = R at *
      generalize occ st'.fr = N3 at *
      generalize (st'.r : Int) = zr2 at *
      generalize (st'.s : Int) = zs2 at *
      obtain ⟨y0, y1, y2, y3, y4, y5, y6⟩ := box7 (box_kept HX.out HB15.out)
      have z0 := fun q : Drift.Tide [] w15 [] => Drift.Tide.cell y0 (by simp) q
      have z1 := fun q : Drift.Tide [] w15 [] => Drift.Tide.cell y1 (by simp) q
      have z2 := fun q : Drift.Tide [] w15 [] => Drift.Tide.cell y2 (by simp) q
      have z3 := fun q : Drift.Tide [] w15 [] => Drift.Tide.cell y3 (by simp) q
      have z4 := fun q : Drift.Tide [] w15 [] => Drift.Tide.cell y4 (by simp) q
      have z5 := fun q : Drift.Tide [] w15 [] => Drift.Tide.cell y5 (by simp) q
      have z6 := fun q : Drift.Tide [] w15 [] => Drift.Tide.cell y6 (by simp) q
      clear y0 y1 y2 y3 y4 y5 y6
      refine Drift.wp_region_drift [] [(0,[]),(1,[]),(2,[]),(3,[]),(4,[]),(5,[]),(6,[]),(7,[]),(8,[]),(10,[]),(9,[]),(11,[]),(12,[]),(13,[]),(14,[]),(15,[]),(16,[]),(18,[]),(19,[]),(17,[]),(20,[]),(21,[]),(22,[]),(23,[]),(24,[]),(25,[]),(26,[]),(27,[]),(28,[]),(29,[]),(30,[])] [9, 11, 17] [] (by kernel_rfl) (by kernel_rfl) (by simp) ?_
      simp only [Drift.pick, Drift.opsAt, List.getElem?_toArray, List.getElem?_cons_zero, List.getElem?_cons_succ, List.cons_append, List.nil_append, List.filterMap_nil]
      repeat (refine Drift.walk_step (fun K hK => ?_); go_simp; first | (refine hK _ ?_; clear hK K) | (apply Exists.intro; refine ⟨fun q => ?_, hK _ ?_⟩; (first | (go_at_call 17; exact (cP1 _ (below_all HB15.out q.into.below (Nat.le_refl _))).out) | (go_at_call 18; exact (cP2 _ (below_all HB15.out q.into.below (Nat.le_refl _))).out)); clear hK K))
      clear cP1 cP2
      refine Drift.walk_event rfl Drift.mkwalk_nil (EvUL D nD) (fun W hk _ => ?_) (fun v w16 hv hI _ hTd => ?_)
      · go_simp
        go_at_call 20
        exact (cD1 W (below_all HB15.out hk (Nat.le_refl _))).out.mono fun e w' ⟨⟨A, c, he, hu⟩, hb⟩ => ⟨_, he, ⟨A, c, rfl, hu⟩, Flow.Into.of_below hb⟩
      obtain ⟨A6, k6, rfl, hu6⟩ := hv
      have HU6 := Lib.hid hu6
      have HB16 := Lib.hid (below_all HB15.out hI.below (Nat.le_refl _))
      clear z0 z1 z2 z3 z4 z5 z6 hI hu6 HB15 cD1
      refine Drift.walk_event rfl Drift.mkwalk_nil (EvUL D nD) (fun W hk _ => ?_) (fun v w17 hv hI _ hTd2 => ?_)
      · go_simp
        go_at_call 21
        exact (cD2 W (below_all HB16.out hk (Nat.le_refl _))).out.mono fun e w' ⟨⟨A, c, he, hu⟩, hb⟩ => ⟨_, he, ⟨A, c, rfl, hu⟩, Flow.Into.of_below hb⟩
      obtain ⟨A7, k7, rfl, hu7⟩ := hv
      have HU7 := Lib.hid hu7
      have HU67 := Lib.hid (HU6.out.kept hI.below)
      have HB17 := Lib.hid (below_all HB16.out hI.below (Nat.le_refl _))
      clear hI hu7 HB16 HU6 cD2 hTd
      obtain ⟨y0, y1, y2, y3, y4, y5, y6⟩ := box7 (box_kept HX.out HB17.out)
      have z0 := fun q : Drift.Tide [] w17 [] => Drift.Tide.cell y0 (by simp) q
      have z1 := fun q : Drift.Tide [] w17 [] => Drift.Tide.cell y1 (by simp) q
      have z2 := fun q : Drift.Tide [] w17 [] => Drift.Tide.cell y2 (by simp) q
      have z3 := fun q : Drift.Tide [] w17 [] => Drift.Tide.cell y3 (by simp) q
      have z4 := fun q : Drift.Tide [] w17 [] => Drift.Tide.cell y4 (by simp) q
      have z5 := fun q : Drift.Tide [] w17 [] => Drift.Tide.cell y5 (by simp) q
      have z6 := fun q : Drift.Tide [] w17 [] => Drift.Tide.cell y6 (by simp) q
      clear y0 y1 y2 y3 y4 y5 y6
      repeat (refine Drift.walk_step (fun K hK => ?_); go_simp; first | (refine hK _ ?_; clear hK K) | (apply Exists.intro; refine ⟨fun q => ?_, hK _ ?_⟩; (go_at_call 19; exact same_like (HU67.out.kept q.into.below) (HU7.out.kept q.into.below) HND.out.symm HND.out.symm (by omega)); clear hK K))
      refine Drift.walk_event rfl Drift.mkwalk_nil (EvUL R nR) (fun W hk _ => ?_) (fun v w18 hv hI _ hTd => ?_)
      · go_simp
        go_at_call 22
        exact (cRw W (below_all HB17.out hk (Nat.le_refl _))).out.mono fun e w' ⟨⟨A, c, he, hu⟩, hb⟩ => ⟨_, he, ⟨A, c, rfl, hu⟩, Flow.Into.of_below hb⟩
      obtain ⟨A8, k8, rfl, hu8⟩ := hv
      have HU8 := Lib.hid hu8
      have HB18 := Lib.hid (below_all HB17.out hI.below (Nat.le_refl _))
      have HU9 := Lib.hid (HUL.out.kept HB18.out)
      clear z0 z1 z2 z3 z4 z5 z6 hI hu8 HB17 HU67 HU7 cRw hTd2
      obtain ⟨y0, y1, y2, y3, y4, y5, y6⟩ := box7 (box_kept HX.out HB18.out)
      have z4 := fun q : Drift.Tide [] w18 [] => Drift.Tide.cell y4 (by simp) q
      clear y0 y1 y2 y3 y4 y5 y6
      repeat (refine Drift.walk_step (fun K hK => ?_); go_simp; first | (refine hK _ ?_; clear hK K) | (apply Exists.intro; refine ⟨fun q => ?_, hK _ ?_⟩; (first | (go_at_call 19; exact same_like (HU8.out.kept q.into.below) (HU9.out.kept q.into.below) HNR.out.symm HNR.out.symm (by omega)) | (go_at_call 23; exact (cU _ (below_all HB18.out q.into.below (Nat.le_refl _))).out)); clear hK K))
      refine Drift.walk_nil ?_
      intro w19 hb19 _
      have HPN := Lib.hid (HPE.out w19 (below_all HB18.out hb19 (Nat.le_refl _)))
      clear hb19 z4 HB18 HU8 HU9 cU hTd HPE HX HUL HND HNR
      have hwk : IntKind.i64.wrap ((k : Int) + 1) = ((k + 1 : Nat) : Int) := by rw [IntKind.wrap_i64]; omega
      simp only [List.length_cons, List.length_nil, List.drop_succ_cons, List.drop_nil, Nat.zero_add, Nat.reduceAdd]
      go_wp2_with fail
      go_roundg (N - (k + 1))
      case measure => omega
      case rel => exact ⟨k + 1, F10, st', dt2, zm2, zr2, zs2, zo2, h2, nl2, hc2, N3, k2, nR, d2, A2, B2, by omega, by omega, rfl, by go_num, HPN⟩
    · have HB := Lib.hid HP.out.cl.bl
      clear HP
      by_cases hkN : k < N
      · have hk60' : 60 ≤ k := by omega
        clear hlt
        go_wp2_with (go_at_call 8; refine (cA _).out.mono ?_; rintro e w' ⟨rfl, hb⟩; have HB9 := Lib.hid hb; clear hb)
        go_ret
        exact ⟨rfl, below_all HB.out HB9.out (Nat.le_refl _)⟩
      · obtain rfl : k = N := by omega
        clear hlt
        go_wp2_with (go_at_call 8; refine (cA _).out.mono ?_; rintro e w' ⟨rfl, hb⟩; have HB9 := Lib.hid hb; clear hb)
        go_ret
        exact ⟨rfl, below_all HB.out HB9.out (Nat.le_refl _)⟩
theorem CachePlays_walk (n : Int) (y : Nat) (q0 : Option Addr) (d0 : Nat) (ac : List (Int × Nat × List UInt8)) (ask : Nat) (w : World) (hy : y < 256) (ha : ActL w q0 ac) (hda : ac.length ≤ maxLen) (hask : ask < 4294967296) :
    Calls Try.prog 3 #[.int .i64 n, .int .u8 (y : Int), .slice q0 ac.length d0, .int .u32 (ask : Int)] w fun e w' => e = .returned (.bool true) ∧ Below w.heap.size w w' := by
  by_cases h : 1 ≤ n ∧ n ≤ 64
  · obtain ⟨n', rfl⟩ : ∃ n' : Nat, n = n' := ⟨n.toNat, by omega⟩
    exact CachePlays_in n' y q0 d0 ac ask w hy (by omega) (by omega) ha hda hask
  · exact CachePlays_out n y _ _ w hy h
end Ca
end Go.Proofs.Ytjnbdmimflhhiaa
