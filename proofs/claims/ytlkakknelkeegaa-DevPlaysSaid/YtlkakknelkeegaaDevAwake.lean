/-
  Devices made behind a base; the law's awake.
-/
import Derived.Test.YtlkakknelkeegaaDevRef2
namespace Go.Proofs.Ytlkakknelkeegaa
open Go.RowKit
namespace Dv
open Mem

/-- a device that was made behind W, in blocks S; of what was there nothing has turned -/
structure Dw (W w : World) (S : List Nat) (g m : Nat) (ls : List (List UInt8)) (r s : Nat) : Prop where
  dv : Dev w S g m ls r s
  bel : Below W.heap.size W w
  lo : ∀ k, k ∈ S → W.heap.size ≤ k
theorem below_more {B : Nat} {W w w' : World} {S : List Nat} (h : Below B W w) (hi : Flow.Into S w w') (hS : ∀ k, k ∈ S → B ≤ k) (hB : B ≤ w.heap.size) : Below B W w' :=
  h.trans (below_of_into hi hS hB)
section
variable {W w w' : World} {S : List Nat} {g m : Nat} {ls : List (List UInt8)} {r s : Nat}
theorem Dw.kept (h : Dw W w S g m ls r s) (hb : Below w.heap.size w w') : Dw W w' S g m ls r s := ⟨h.dv.kept hb, h.bel.trans (hb.mono h.bel.size), h.lo⟩
theorem Dw.size (h : Dw W w S g m ls r s) : W.heap.size ≤ w.heap.size := h.bel.size
/-- what a Read in range leaves -/
def Rd (W w w' : World) (S : List Nat) (g m : Nat) (ls : List (List UInt8)) (r s : Nat) (x : List UInt8) (e : Ending) : Prop := ∃ q k, e = .returned (.tuple #[.slice (some ⟨q, 0, none⟩) m k, .int .i64 0]) ∧ Row 5 w' q x ∧ w.heap.size ≤ q ∧ Dw W w' S g m ls r s ∧ Flow.Into [g] w w'
theorem Dw.Read (h : Dw W w S g m ls r s) (i : Nat) (x : List UInt8) (hx : ls[i]? = some x) (hr : r ≤ 1000000) : Calls Try.prog 15 #[.pointer (some ⟨g, 0, none⟩), .int .u32 (i : Int)] w fun e w' => Rd W w w' S g m ls (r + 1) s x e :=
  (Read_in h.dv i x hx hr).mono fun e w' ⟨⟨q, k, he, hq, hqs⟩, hd, hi⟩ => ⟨q, k, he, hq, hqs, ⟨hd, below_more h.bel hi (fun k hk => by
    obtain rfl : k = g := by simpa using hk
    exact h.lo _ h.dv.g_in) h.bel.size, h.lo⟩, hi⟩
/-- what a Write of a right block leaves -/
def Wr (W w w' : World) (S : List Nat) (g m : Nat) (ls : List (List UInt8)) (r s : Nat) (e : Ending) : Prop := ∃ S', e = .returned (.int .i64 0) ∧ Dw W w' S' g m ls r s ∧ Grew w S S' ∧ Flow.Into S w w'
theorem Dw.Write (h : Dw W w S g m ls r s) (i : Nat) (hi : i < ls.length) (hs : s ≤ 1000000) (A : Option Addr) (k : Nat) (l : List UInt8) (hl : l.length = m) (hA : BL w A l) (hn : ∀ a, A = some a → a.block ∉ S) :
    Calls Try.prog 13 #[.pointer (some ⟨g, 0, none⟩), .int .u32 (i : Int), .slice A m k] w fun e w' => Wr W w w' S g m (ls.set i l) r (s + 1) e :=
  (Write_in h.dv i hi hs A k l hl hA hn).mono fun e w' ⟨he, ⟨S', hd, hg⟩, hi⟩ => ⟨S', he, ⟨hd, below_more h.bel hi h.lo h.bel.size, fun k hk => by
    rcases hg k hk with h' | h'
    · exact h.lo k h'
    · exact Nat.le_trans h.bel.size h'⟩, hg, hi⟩
end
/-- what New, or From, leaves -/
def Mk (W w w' : World) (m : Nat) (ls : List (List UInt8)) (r s : Nat) (e : Ending) : Prop := ∃ g S, e = .returned (.tuple #[.pointer (some ⟨g, 0, none⟩), .int .i64 0]) ∧ Dw W w' S g m ls r s ∧ (∀ k, k ∈ S → w.heap.size ≤ k) ∧ Below w.heap.size w w'
theorem Made.mk {W w w' : World} {m : Nat} {ls : List (List UInt8)} {r s : Nat} {e : Ending} (h : Made w w' m ls r s e) (hb : Below w.heap.size w w') (hw : Below W.heap.size W w) : Mk W w w' m ls r s e := by
  obtain ⟨g, S, he, hd, hS⟩ := h
  exact ⟨g, S, he, ⟨hd, hw.trans (hb.mono hw.size), fun k hk => Nat.le_trans hw.size (hS k hk)⟩, hS, hb⟩
theorem New_mk {W w : World} (hw : Below W.heap.size W w) (n m : Nat) (n1 : 5 ≤ n) (n2 : n ≤ 65536) (m1 : 1 ≤ m) (m2 : m ≤ 65536) : Calls Try.prog 10 #[.int .i64 (n : Int), .int .i64 (m : Int)] w fun e w' => Mk W w w' m (List.replicate n (List.replicate m 0)) 0 0 e :=
  (New_in n m w n1 n2 m1 m2).mono fun _ _ ⟨h, hb⟩ => h.mk hb hw
theorem From_mk {W w : World} (hw : Below W.heap.size W w) (m n c : Nat) (A : Option Addr) (l : List UInt8) (m1 : 1 ≤ m) (m2 : m ≤ 65536) (n1 : 5 ≤ n) (n2 : n ≤ 65536) (hl : l.length = n * m) (hA : BL w A l) (hm : n * m ≤ 1048576) :
    Calls Try.prog 16 #[.int .i64 (m : Int), .slice A l.length c] w fun e w' => Mk W w w' m (chunks l m n) 0 0 e :=
  (From_in m n c A l w m1 m2 n1 n2 hl hA hm).mono fun _ _ ⟨h, hb⟩ => h.mk hb hw

def aw0 : List (List UInt8) := List.replicate 5 (List.replicate 4 0)
def aw1 : List (List UInt8) := aw0.set 1 [1, 2, 3, 4]
theorem aw1_at : aw1[1]? = some [1, 2, 3, 4] := by decide +kernel
set_option maxHeartbeats 2000000 in
theorem awake_any (w : World) : Calls Try.prog 9 #[] w fun e w' => e = .returned (.bool true) ∧ Below w.heap.size w w' := by
  have cN : Hid (Calls Try.prog 10 #[.int .i64 5, .int .i64 4] w fun e w' => Mk w w w' 4 aw0 0 0 e) := New_mk (Below.refl _ _) 5 4 (by omega) (by omega) (by omega) (by omega)
  have cW : ∀ w1 S g A, Dw w w1 S g 4 aw0 0 0 → BL w1 A [1, 2, 3, 4] → (∀ a, A = some a → a.block ∉ S) → Hid (Calls Try.prog 13 #[.pointer (some ⟨g, 0, none⟩), .int .u32 1, .slice A 4 4] w1 fun e w' => Wr w w1 w' S g 4 aw1 0 1 e) :=
    fun w1 S g A h hA hn => h.Write 1 (by decide) (by omega) A 4 [1, 2, 3, 4] rfl hA hn
  have cR : ∀ w1 S g, Dw w w1 S g 4 aw1 0 1 → Hid (Calls Try.prog 15 #[.pointer (some ⟨g, 0, none⟩), .int .u32 1] w1 fun e w' => Rd w w1 w' S g 4 aw1 1 1 [1, 2, 3, 4] e) :=
    fun w1 S g h => h.Read 1 _ aw1_at (by omega)
  have cS : ∀ w1 S g, Dw w w1 S g 4 aw1 1 1 → Hid (Calls Try.prog 18 #[.pointer (some ⟨g, 0, none⟩)] w1 fun e w' => e = .returned (.agg #[.int .u64 1, .int .u64 1]) ∧ Below w1.heap.size w1 w') :=
    fun w1 S g h => Stats_any h.dv
  have cO : ∀ w1 S g v, Dw w w1 S g 4 aw1 1 1 → Hid (Calls Try.prog 13 #[.pointer (some ⟨g, 0, none⟩), .int .u32 5, v] w1 fun e w' => e = .returned (.int .i64 4) ∧ w1 = w') :=
    fun w1 S g v h => Write_out h.dv 5 v (by decide)
  have hcv : ∀ w1 q k, Row 5 w1 q [1, 2, 3, 4] → (convert 34 9 (.slice (some ⟨q, 0, none⟩) 4 k)).run Try.prog w1 = .ok (.string ⟨#[1, 2, 3, 4]⟩) w1 := fun w1 q k h =>
    run_text_n Try.underlying34 Try.underlying5 Try.underlying9 h.bl rfl k
  have HCV := Lib.hid hcv
  have hlit : ∀ w1 : World, Hid (BL (w1.alloc (.cells #[.int .u8 1, .int .u8 2, .int .u8 3, .int .u8 4] 5)) (some ⟨w1.heap.size, 0, none⟩) [1, 2, 3, 4] ∧ Below w1.heap.size w1 (w1.alloc (.cells #[.int .u8 1, .int .u8 2, .int .u8 3, .int .u8 4] 5))) := fun w1 => by
    refine ⟨?_, (Below.refl _ _).alloc (Nat.le_refl _) _⟩
    have := (Row.new 5 w1 [1, 2, 3, 4]).bl
    simpa [bytesV, byteV] using this
  clear hcv
  generalize aw0 = ls0 at *
  generalize aw1 = ls1 at *
  go_enter Try.func9, Try.ntmps9
  go_wp2_with (first
    | (go_at_call 10; refine cN.out.mono ?_; rintro e w1 ⟨g, S, rfl, hd, -, -⟩; have HD1 := Lib.hid hd; clear hd)
    | (go_at_call 13; refine (cW _ _ _ _ (HD1.out.kept (hlit _).out.2) (hlit _).out.1 (fun a ha hk => by (obtain rfl := Option.some.inj ha); exact Nat.lt_irrefl _ (HD1.out.dv.lt _ hk))).out.mono ?_; rintro e w2 ⟨S2, rfl, hd, -, -⟩; have HD2 := Lib.hid hd; clear hd cW)
    | (go_at_call 15; refine (cR _ _ _ HD2.out).out.mono ?_; rintro e w3 ⟨q, k, rfl, hr, -, hd, -⟩; have HD3 := Lib.hid hd; have hcv := HCV.out _ q k hr; clear hd hr)
    | (go_at_call 18; refine (cS _ _ _ HD3.out).out.mono ?_; rintro e w4 ⟨rfl, hb⟩; have HD4 := Lib.hid (HD3.out.kept hb); clear hb)
    | (go_at_call 13; refine (cO _ _ _ _ HD4.out).out.mono ?_; rintro e w5 ⟨rfl, rfl⟩))
  go_ret
  exact ⟨rfl, HD4.out.bel⟩
end Dv
end Go.Proofs.Ytlkakknelkeegaa
