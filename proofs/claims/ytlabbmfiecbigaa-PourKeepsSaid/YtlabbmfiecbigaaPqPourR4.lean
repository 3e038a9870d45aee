/-
  PourR4. Put together by pack.py.
-/
import Derived.Test.YtlabbmfiecbigaaPqPourR3

namespace Go.Proofs.Ytlabbmfiecbigaa
open Go.RowKit
namespace No
open Mem Lx Bu Lf Fa
theorem wrap_in (n : Int) (h : -9223372036854775808 ≤ n ∧ n ≤ 9223372036854775807) : wrap64 n = n ∧ IntKind.i64.wrap n = n := by
  have h1 : IntKind.i64.wrap n = n := by
    rw [IntKind.wrap_i64]
    omega
  exact ⟨by unfold wrap64; omega, h1⟩
theorem RightN.lv_in {c : Cfg} {lo hi : ByteArray} {top : Bool} {n : Nd} (h : RightN c lo hi top n) : 0 ≤ n.lv ∧ n.lv ≤ 40 := by
  by_cases e : n.lv = 0
  · omega
  · obtain ⟨h0, h1⟩ := h.2 e
    have := h1.lv
    omega
theorem RPour_any {W : World} (c : Cfg) {p k : Nd} {a b : At} (ha : NdIn W p a) (hb : NdIn W k b) (hsp : Sz p) (hsk : Sz k) (i most : Int) (hp : RightN c ⟨#[]⟩ ⟨#[]⟩ true p) (hl : 1 ≤ p.lv) (hk : ∀ s, kidS p i = (s, true) → RightIn c s k) (hc : 0 ≤ c.buffer ∧ c.buffer ≤ 1000000) : Calls Try.prog 8 #[.agg (cfCs c), .agg (ndCs p a), .int .i64 i, .agg (ndCs k b), .int .i64 most] W fun e w' => (∃ v, e = .returned v ∧ EvPour (pourN c p i k most) v w') ∧ Below W.heap.size W w' := by
  have hin := hp.inner hl
  have hkid : 0 ≤ i → i < (p.kids.length : Int) → ∃ s, RightIn c s k := fun h0 h1 => by
    have h2 := hin.fewer
    obtain ⟨s, hs⟩ := kid_some hin.right (i := i) (by omega)
    exact ⟨s, hk s hs⟩
  by_cases hn : NoPour p i k
  · refine RPour_no c ha hb i most (fun h0 h1 => ?_) hn
    obtain ⟨s, h⟩ := hkid h0 h1
    have h3 := RightN.lv_in h
    exact (wrap_in _ (by omega)).2
  have h9 := hn
  unfold NoPour at h9
  obtain ⟨s, h⟩ := hkid (by omega) (by omega)
  have h3 := RightN.lv_in h
  by_cases e : k.lv = 0
  · exact RPour_leaf c ha hb hsp hsk i most e hn
  · have h4 := hsk.bl
    obtain ⟨h5, h6⟩ := h.2 e
    exact RPour_inner c ha hb hsp hsk i most e h5 (rise_iff.1 h6.rise) (wrap_in _ (by omega)).2 (wrap_in _ (by omega)).1 hn
end No
end Go.Proofs.Ytlabbmfiecbigaa
