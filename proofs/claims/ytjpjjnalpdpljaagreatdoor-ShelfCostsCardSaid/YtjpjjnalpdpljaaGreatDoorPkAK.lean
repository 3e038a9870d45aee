import Derived.Test.YtjpjjnalpdpljaaGreatDoorChecked
import Derived.Test.YtjpjjnalpdpljaaGreatDoorPqDrift
import Derived.WalkKit
import Derived.WalkLawsBesides
import Derived.KernelRfl
import Derived.WalkSpells
import Derived.BigQuiet
import Derived.Deep.DeepCutAuto
import Derived.Deep.CutBlock
import Derived.Lib.Hide
import Derived.Test.YtjpjjnalpdpljaaGreatDoorPkAD
import Derived.Test.YtjpjjnalpdpljaaGreatDoorPkAC
import Derived.Test.YtjpjjnalpdpljaaGreatDoorProg
import Derived.Test.YtjpjjnalpdpljaaGreatDoorPkAB
set_option maxHeartbeats 2000000
set_option maxRecDepth 100000
namespace Go.Proofs.YtjpjjnalpdpljaaGreatDoor
open Go.RowKit
namespace Cf
theorem box8 {w:World} {b:Nat} {v0 v1 v2 v3 v4 v5 v6 v7:Value} {U:TypeId} (h:w.heap[b]? =some (.cells #[v0,v1,v2,v3,v4,v5,v6,v7] U (0,0))):w.cell? ⟨b,0,none⟩=some v0/\w.cell? ⟨b,1,none⟩=some v1/\w.cell? ⟨b,2,none⟩=some v2/\w.cell? ⟨b,3,none⟩=some v3/\w.cell? ⟨b,4,none⟩=some v4/\w.cell? ⟨b,5,none⟩=some v5/\w.cell? ⟨b,6,none⟩=some v6/\w.cell? ⟨b,7,none⟩=some v7:=by
 simp [World.cell?,h]
theorem kept8 {w w':World} {b:Nat} {o:Obj} (h:w.heap[b]? =some o) (hb:Below w.heap.size w w'):w'.heap[b]? =some o:=(hb.block b (Array.getElem?_eq_some_iff.1 h).1).trans h
theorem bel2 {W w w':World} (h:Below W.heap.size W w) (hb:Below w.heap.size w w'):Below W.heap.size W w':=h.trans (hb.mono h.size)
theorem in_yes (n lo hi:Int) (W:World) (h1:lo<=n) (h2:n<=hi):Calls Tryz.prog 68 #[.int .i64 n, .int .i64 lo, .int .i64 hi] W fun e w'=>e= .returned (.bool true)/\Below W.heap.size W w':=by
 go_enter Tryz.func68,Tryz.ntmps68
 go_wp2
 go_ret
 exact ⟨rfl,Below.refl _ _⟩
theorem in_no (n lo hi:Int) (W:World) (h:¬(lo<=n/\n<=hi)):Calls Tryz.prog 68 #[.int .i64 n, .int .i64 lo, .int .i64 hi] W fun e w'=>e= .returned (.bool false)/\Below W.heap.size W w':=by
 by_cases h1:lo<=n
 . have h2:decide (n<=hi)=false:=by simp;omega
   clear h
   go_enter Tryz.func68,Tryz.ntmps68
   go_wp2
   go_ret
   exact ⟨rfl,Below.refl _ _⟩
 . have h1:n<lo:=by omega
   clear h
   go_enter Tryz.func68,Tryz.ntmps68
   go_wp2
   go_ret
   exact ⟨rfl,Below.refl _ _⟩
def Shape (fa bu le ke va:Int):Prop:=(8<=fa/\fa<=64)/\(2*fa<=bu/\bu<=512)/\(bu<=le/\le<=1024)/\(1<=ke/\ke<=64)/\(0<=va/\va<=256)
theorem Sized_yes (b y fr fa bu le ke va:Int) (W:World) (h:Shape fa bu le ke va):Calls Tryz.prog 67 #[.agg #[.int .i64 b, .int .i64 y, .int .i64 fr, .int .i64 fa, .int .i64 bu, .int .i64 le, .int .i64 ke, .int .i64 va]] W fun e w'=>e= .returned (.bool true)/\Below W.heap.size W w':=by
 obtain ⟨⟨h1,h1'⟩,⟨h2,h2'⟩,⟨h3,h3'⟩,⟨h4,h4'⟩,h5,h5'⟩:=h
 have hw:IntKind.i64.wrap (2*fa)=2*fa:=by rw [IntKind.wrap_i64];omega
 go_enter Tryz.func67,Tryz.ntmps67
 go_upto_region 1 with fail
 have hx:=heap_alloc_new W (.cells #[.int .i64 b, .int .i64 y, .int .i64 fr, .int .i64 fa, .int .i64 bu, .int .i64 le, .int .i64 ke, .int .i64 va] 23)
 have hb1:Below W.heap.size W (W.alloc (.cells #[.int .i64 b, .int .i64 y, .int .i64 fr, .int .i64 fa, .int .i64 bu, .int .i64 le, .int .i64 ke, .int .i64 va] 23)):=(Below.refl _ _).alloc (Nat.le_refl _) _
 obtain ⟨g,hg⟩:∃g,g=W.heap.size:=⟨_,rfl⟩
 generalize W.alloc (.cells #[.int .i64 b, .int .i64 y, .int .i64 fr, .int .i64 fa, .int .i64 bu, .int .i64 le, .int .i64 ke, .int .i64 va] 23)=w1 at*
 rw [<-hg] at hx ⊢
 have HX:=Lib.hid hx
 have HB:=Lib.hid hb1
 obtain ⟨c0,c1,c2,c3,c4,c5,c6,c7⟩:=box8 hx
 clear hx hb1 hg
 go_wp2_with (go_at_call 68;(first|(refine (in_yes _ _ _ _ (by omega) (by omega)).mono ?_)|(refine (in_no _ _ _ _ (by omega)).mono ?_));rintro e w' ⟨rfl,hb⟩;replace HX:=Lib.hid (kept8 HX.out hb);replace HB:=Lib.hid (bel2 HB.out hb);clear hb;obtain ⟨c0,c1,c2,c3,c4,c5,c6,c7⟩:=box8 HX.out)
 go_ret
 exact ⟨rfl,HB.out⟩
theorem Sized_no (b y fr fa bu le ke va:Int) (W:World) (h:¬Shape fa bu le ke va):Calls Tryz.prog 67 #[.agg #[.int .i64 b, .int .i64 y, .int .i64 fr, .int .i64 fa, .int .i64 bu, .int .i64 le, .int .i64 ke, .int .i64 va]] W fun e w'=>e= .returned (.bool false)/\Below W.heap.size W w':=by
 by_cases nfa:8<=fa/\fa<=64
 case neg=>
  clear h
  go_enter Tryz.func67,Tryz.ntmps67
  go_upto_region 1 with fail
  have hx:=heap_alloc_new W (.cells #[.int .i64 b, .int .i64 y, .int .i64 fr, .int .i64 fa, .int .i64 bu, .int .i64 le, .int .i64 ke, .int .i64 va] 23)
  have hb1:Below W.heap.size W (W.alloc (.cells #[.int .i64 b, .int .i64 y, .int .i64 fr, .int .i64 fa, .int .i64 bu, .int .i64 le, .int .i64 ke, .int .i64 va] 23)):=(Below.refl _ _).alloc (Nat.le_refl _) _
  obtain ⟨g,hg⟩:∃g,g=W.heap.size:=⟨_,rfl⟩
  generalize W.alloc (.cells #[.int .i64 b, .int .i64 y, .int .i64 fr, .int .i64 fa, .int .i64 bu, .int .i64 le, .int .i64 ke, .int .i64 va] 23)=w1 at*
  rw [<-hg] at hx ⊢
  have HX:=Lib.hid hx
  have HB:=Lib.hid hb1
  obtain ⟨c0,c1,c2,c3,c4,c5,c6,c7⟩:=box8 hx
  clear hx hb1 hg
  go_wp2_with (go_at_call 68;(first|(refine (in_yes _ _ _ _ (by omega) (by omega)).mono ?_)|(refine (in_no _ _ _ _ (by omega)).mono ?_));rintro e w' ⟨rfl,hb⟩;replace HX:=Lib.hid (kept8 HX.out hb);replace HB:=Lib.hid (bel2 HB.out hb);clear hb;obtain ⟨c0,c1,c2,c3,c4,c5,c6,c7⟩:=box8 HX.out)
  go_ret
  exact ⟨rfl,HB.out⟩
 by_cases nke:1<=ke/\ke<=64
 case neg=>
  have hw:IntKind.i64.wrap (2*fa)=2*fa:=by rw [IntKind.wrap_i64];omega
  clear h
  obtain ⟨mfa,mfax⟩:=nfa
  go_enter Tryz.func67,Tryz.ntmps67
  go_upto_region 1 with fail
  have hx:=heap_alloc_new W (.cells #[.int .i64 b, .int .i64 y, .int .i64 fr, .int .i64 fa, .int .i64 bu, .int .i64 le, .int .i64 ke, .int .i64 va] 23)
  have hb1:Below W.heap.size W (W.alloc (.cells #[.int .i64 b, .int .i64 y, .int .i64 fr, .int .i64 fa, .int .i64 bu, .int .i64 le, .int .i64 ke, .int .i64 va] 23)):=(Below.refl _ _).alloc (Nat.le_refl _) _
  obtain ⟨g,hg⟩:∃g,g=W.heap.size:=⟨_,rfl⟩
  generalize W.alloc (.cells #[.int .i64 b, .int .i64 y, .int .i64 fr, .int .i64 fa, .int .i64 bu, .int .i64 le, .int .i64 ke, .int .i64 va] 23)=w1 at*
  rw [<-hg] at hx ⊢
  have HX:=Lib.hid hx
  have HB:=Lib.hid hb1
  obtain ⟨c0,c1,c2,c3,c4,c5,c6,c7⟩:=box8 hx
  clear hx hb1 hg
  go_wp2_with (go_at_call 68;(first|(refine (in_yes _ _ _ _ (by omega) (by omega)).mono ?_)|(refine (in_no _ _ _ _ (by omega)).mono ?_));rintro e w' ⟨rfl,hb⟩;replace HX:=Lib.hid (kept8 HX.out hb);replace HB:=Lib.hid (bel2 HB.out hb);clear hb;obtain ⟨c0,c1,c2,c3,c4,c5,c6,c7⟩:=box8 HX.out)
  go_ret
  exact ⟨rfl,HB.out⟩
 by_cases nva:0<=va/\va<=256
 case neg=>
  have hw:IntKind.i64.wrap (2*fa)=2*fa:=by rw [IntKind.wrap_i64];omega
  clear h
  obtain ⟨mfa,mfax⟩:=nfa
  obtain ⟨mke,mkex⟩:=nke
  go_enter Tryz.func67,Tryz.ntmps67
  go_upto_region 1 with fail
  have hx:=heap_alloc_new W (.cells #[.int .i64 b, .int .i64 y, .int .i64 fr, .int .i64 fa, .int .i64 bu, .int .i64 le, .int .i64 ke, .int .i64 va] 23)
  have hb1:Below W.heap.size W (W.alloc (.cells #[.int .i64 b, .int .i64 y, .int .i64 fr, .int .i64 fa, .int .i64 bu, .int .i64 le, .int .i64 ke, .int .i64 va] 23)):=(Below.refl _ _).alloc (Nat.le_refl _) _
  obtain ⟨g,hg⟩:∃g,g=W.heap.size:=⟨_,rfl⟩
  generalize W.alloc (.cells #[.int .i64 b, .int .i64 y, .int .i64 fr, .int .i64 fa, .int .i64 bu, .int .i64 le, .int .i64 ke, .int .i64 va] 23)=w1 at*
  rw [<-hg] at hx ⊢
  have HX:=Lib.hid hx
  have HB:=Lib.hid hb1
  obtain ⟨c0,c1,c2,c3,c4,c5,c6,c7⟩:=box8 hx
  clear hx hb1 hg
  go_wp2_with (go_at_call 68;(first|(refine (in_yes _ _ _ _ (by omega) (by omega)).mono ?_)|(refine (in_no _ _ _ _ (by omega)).mono ?_));rintro e w' ⟨rfl,hb⟩;replace HX:=Lib.hid (kept8 HX.out hb);replace HB:=Lib.hid (bel2 HB.out hb);clear hb;obtain ⟨c0,c1,c2,c3,c4,c5,c6,c7⟩:=box8 HX.out)
  go_ret
  exact ⟨rfl,HB.out⟩
 by_cases nbu:2*fa<=bu/\bu<=512
 case neg=>
  have hw:IntKind.i64.wrap (2*fa)=2*fa:=by rw [IntKind.wrap_i64];omega
  clear h
  obtain ⟨mfa,mfax⟩:=nfa
  obtain ⟨mke,mkex⟩:=nke
  obtain ⟨mva,mvax⟩:=nva
  go_enter Tryz.func67,Tryz.ntmps67
  go_upto_region 1 with fail
  have hx:=heap_alloc_new W (.cells #[.int .i64 b, .int .i64 y, .int .i64 fr, .int .i64 fa, .int .i64 bu, .int .i64 le, .int .i64 ke, .int .i64 va] 23)
  have hb1:Below W.heap.size W (W.alloc (.cells #[.int .i64 b, .int .i64 y, .int .i64 fr, .int .i64 fa, .int .i64 bu, .int .i64 le, .int .i64 ke, .int .i64 va] 23)):=(Below.refl _ _).alloc (Nat.le_refl _) _
  obtain ⟨g,hg⟩:∃g,g=W.heap.size:=⟨_,rfl⟩
  generalize W.alloc (.cells #[.int .i64 b, .int .i64 y, .int .i64 fr, .int .i64 fa, .int .i64 bu, .int .i64 le, .int .i64 ke, .int .i64 va] 23)=w1 at*
  rw [<-hg] at hx ⊢
  have HX:=Lib.hid hx
  have HB:=Lib.hid hb1
  obtain ⟨c0,c1,c2,c3,c4,c5,c6,c7⟩:=box8 hx
  clear hx hb1 hg
  go_wp2_with (go_at_call 68;(first|(refine (in_yes _ _ _ _ (by omega) (by omega)).mono ?_)|(refine (in_no _ _ _ _ (by omega)).mono ?_));rintro e w' ⟨rfl,hb⟩;replace HX:=Lib.hid (kept8 HX.out hb);replace HB:=Lib.hid (bel2 HB.out hb);clear hb;obtain ⟨c0,c1,c2,c3,c4,c5,c6,c7⟩:=box8 HX.out)
  go_ret
  exact ⟨rfl,HB.out⟩
 by_cases nle:bu<=le/\le<=1024
 case neg=>
  have hw:IntKind.i64.wrap (2*fa)=2*fa:=by rw [IntKind.wrap_i64];omega
  clear h
  obtain ⟨mfa,mfax⟩:=nfa
  obtain ⟨mke,mkex⟩:=nke
  obtain ⟨mva,mvax⟩:=nva
  obtain ⟨mbu,mbux⟩:=nbu
  go_enter Tryz.func67,Tryz.ntmps67
  go_upto_region 1 with fail
  have hx:=heap_alloc_new W (.cells #[.int .i64 b, .int .i64 y, .int .i64 fr, .int .i64 fa, .int .i64 bu, .int .i64 le, .int .i64 ke, .int .i64 va] 23)
  have hb1:Below W.heap.size W (W.alloc (.cells #[.int .i64 b, .int .i64 y, .int .i64 fr, .int .i64 fa, .int .i64 bu, .int .i64 le, .int .i64 ke, .int .i64 va] 23)):=(Below.refl _ _).alloc (Nat.le_refl _) _
  obtain ⟨g,hg⟩:∃g,g=W.heap.size:=⟨_,rfl⟩
  generalize W.alloc (.cells #[.int .i64 b, .int .i64 y, .int .i64 fr, .int .i64 fa, .int .i64 bu, .int .i64 le, .int .i64 ke, .int .i64 va] 23)=w1 at*
  rw [<-hg] at hx ⊢
  have HX:=Lib.hid hx
  have HB:=Lib.hid hb1
  obtain ⟨c0,c1,c2,c3,c4,c5,c6,c7⟩:=box8 hx
  clear hx hb1 hg
  go_wp2_with (go_at_call 68;(first|(refine (in_yes _ _ _ _ (by omega) (by omega)).mono ?_)|(refine (in_no _ _ _ _ (by omega)).mono ?_));rintro e w' ⟨rfl,hb⟩;replace HX:=Lib.hid (kept8 HX.out hb);replace HB:=Lib.hid (bel2 HB.out hb);clear hb;obtain ⟨c0,c1,c2,c3,c4,c5,c6,c7⟩:=box8 HX.out)
  go_ret
  exact ⟨rfl,HB.out⟩
 exact absurd ⟨nfa,nbu,nle,nke,nva⟩ h
end Cf
end Go.Proofs.YtjpjjnalpdpljaaGreatDoor
namespace Go.Proofs.YtjpjjnalpdpljaaGreatDoor
open Go.RowKit
namespace Cf
def inn (fa bu ke va:Int):Int:=8+4*fa+(fa-1)*(1+ke)+bu*(4+ke+va)
def out (le ke va:Int):Int:=8+le*(3+ke+va)
theorem mul_in {a c A C:Int} (h0:0<=a) (h1:a<=A) (h2:0<=c) (h3:c<=C):0<=a*c/\a*c<=A*C:=
 ⟨Int.mul_nonneg h0 h2,Int.mul_le_mul h1 h3 h2 (Int.le_trans h0 h1)⟩
def few (fa bu le ke va:Int):Int:=max (max 64 (inn fa bu ke va)) (out le ke va)
end Cf
end Go.Proofs.YtjpjjnalpdpljaaGreatDoor
namespace Go.Proofs.YtjpjjnalpdpljaaGreatDoor
open Go.RowKit
namespace Cf
def Right (b y fr fa bu le ke va:Int):Prop:=Shape fa bu le ke va/\(5<=b/\b<=65536)/\(8<=fr/\fr<=64)/\(few fa bu le ke va<=y/\y<=65536)
end Cf
end Go.Proofs.YtjpjjnalpdpljaaGreatDoor
namespace Go.Proofs.YtjpjjnalpdpljaaGreatDoor
open Go.RowKit
namespace Cf
theorem between_yes (lo n hi:Int) (W:World) (h1:lo<=n) (h2:n<=hi):Calls Tryz.prog 98 #[.int .i64 lo, .int .i64 n, .int .i64 hi] W fun e w'=>e= .returned (.bool true)/\Below W.heap.size W w':=by
 go_enter Tryz.func98,Tryz.ntmps98
 go_wp2
 go_ret
 exact ⟨rfl,Below.refl _ _⟩
theorem between_no (lo n hi:Int) (W:World) (h:¬(lo<=n/\n<=hi)):Calls Tryz.prog 98 #[.int .i64 lo, .int .i64 n, .int .i64 hi] W fun e w'=>e= .returned (.bool false)/\Below W.heap.size W w':=by
 by_cases h1:lo<=n
 . have h2:decide (n<=hi)=false:=by simp;omega
   clear h
   go_enter Tryz.func98,Tryz.ntmps98
   go_wp2
   go_ret
   exact ⟨rfl,Below.refl _ _⟩
 . have h1:n<lo:=by omega
   clear h
   go_enter Tryz.func98,Tryz.ntmps98
   go_wp2
   go_ret
   exact ⟨rfl,Below.refl _ _⟩
theorem isShaped_yes (b y fr fa bu le ke va:Int) (W:World) (h:Shape fa bu le ke va):Calls Tryz.prog 97 #[.agg #[.int .i64 b, .int .i64 y, .int .i64 fr, .int .i64 fa, .int .i64 bu, .int .i64 le, .int .i64 ke, .int .i64 va]] W fun e w'=>e= .returned (.bool true)/\Below W.heap.size W w':=by
 obtain ⟨⟨h1,h1'⟩,⟨h2,h2'⟩,⟨h3,h3'⟩,⟨h4,h4'⟩,h5,h5'⟩:=h
 have hw:IntKind.i64.wrap (2*fa)=2*fa:=by rw [IntKind.wrap_i64];omega
 go_enter Tryz.func97,Tryz.ntmps97
 go_upto_region 1 with fail
 have hx:=heap_alloc_new W (.cells #[.int .i64 b, .int .i64 y, .int .i64 fr, .int .i64 fa, .int .i64 bu, .int .i64 le, .int .i64 ke, .int .i64 va] 23)
 have hb1:Below W.heap.size W (W.alloc (.cells #[.int .i64 b, .int .i64 y, .int .i64 fr, .int .i64 fa, .int .i64 bu, .int .i64 le, .int .i64 ke, .int .i64 va] 23)):=(Below.refl _ _).alloc (Nat.le_refl _) _
 obtain ⟨g,hg⟩:∃g,g=W.heap.size:=⟨_,rfl⟩
 generalize W.alloc (.cells #[.int .i64 b, .int .i64 y, .int .i64 fr, .int .i64 fa, .int .i64 bu, .int .i64 le, .int .i64 ke, .int .i64 va] 23)=w1 at*
 rw [<-hg] at hx ⊢
 have HX:=Lib.hid hx
 have HB:=Lib.hid hb1
 obtain ⟨c0,c1,c2,c3,c4,c5,c6,c7⟩:=box8 hx
 clear hx hb1 hg
 go_wp2_with (go_at_call 98;(first|(refine (between_yes _ _ _ _ (by omega) (by omega)).mono ?_)|(refine (between_no _ _ _ _ (by omega)).mono ?_));rintro e w' ⟨rfl,hb⟩;replace HX:=Lib.hid (kept8 HX.out hb);replace HB:=Lib.hid (bel2 HB.out hb);clear hb;obtain ⟨c0,c1,c2,c3,c4,c5,c6,c7⟩:=box8 HX.out)
 go_ret
 exact ⟨rfl,HB.out⟩
theorem isShaped_no (b y fr fa bu le ke va:Int) (W:World) (h:¬Shape fa bu le ke va):Calls Tryz.prog 97 #[.agg #[.int .i64 b, .int .i64 y, .int .i64 fr, .int .i64 fa, .int .i64 bu, .int .i64 le, .int .i64 ke, .int .i64 va]] W fun e w'=>e= .returned (.bool false)/\Below W.heap.size W w':=by
 by_cases nfa:8<=fa/\fa<=64
 case neg=>
  clear h
  go_enter Tryz.func97,Tryz.ntmps97
  go_upto_region 1 with fail
  have hx:=heap_alloc_new W (.cells #[.int .i64 b, .int .i64 y, .int .i64 fr, .int .i64 fa, .int .i64 bu, .int .i64 le, .int .i64 ke, .int .i64 va] 23)
  have hb1:Below W.heap.size W (W.alloc (.cells #[.int .i64 b, .int .i64 y, .int .i64 fr, .int .i64 fa, .int .i64 bu, .int .i64 le, .int .i64 ke, .int .i64 va] 23)):=(Below.refl _ _).alloc (Nat.le_refl _) _
  obtain ⟨g,hg⟩:∃g,g=W.heap.size:=⟨_,rfl⟩
  generalize W.alloc (.cells #[.int .i64 b, .int .i64 y, .int .i64 fr, .int .i64 fa, .int .i64 bu, .int .i64 le, .int .i64 ke, .int .i64 va] 23)=w1 at*
  rw [<-hg] at hx ⊢
  have HX:=Lib.hid hx
  have HB:=Lib.hid hb1
  obtain ⟨c0,c1,c2,c3,c4,c5,c6,c7⟩:=box8 hx
  clear hx hb1 hg
  go_wp2_with (go_at_call 98;(first|(refine (between_yes _ _ _ _ (by omega) (by omega)).mono ?_)|(refine (between_no _ _ _ _ (by omega)).mono ?_));rintro e w' ⟨rfl,hb⟩;replace HX:=Lib.hid (kept8 HX.out hb);replace HB:=Lib.hid (bel2 HB.out hb);clear hb;obtain ⟨c0,c1,c2,c3,c4,c5,c6,c7⟩:=box8 HX.out)
  go_ret
  exact ⟨rfl,HB.out⟩
 by_cases nbu:2*fa<=bu/\bu<=512
 case neg=>
  have hw:IntKind.i64.wrap (2*fa)=2*fa:=by rw [IntKind.wrap_i64];omega
  clear h
  obtain ⟨mfa,mfax⟩:=nfa
  go_enter Tryz.func97,Tryz.ntmps97
  go_upto_region 1 with fail
  have hx:=heap_alloc_new W (.cells #[.int .i64 b, .int .i64 y, .int .i64 fr, .int .i64 fa, .int .i64 bu, .int .i64 le, .int .i64 ke, .int .i64 va] 23)
  have hb1:Below W.heap.size W (W.alloc (.cells #[.int .i64 b, .int .i64 y, .int .i64 fr, .int .i64 fa, .int .i64 bu, .int .i64 le, .int .i64 ke, .int .i64 va] 23)):=(Below.refl _ _).alloc (Nat.le_refl _) _
  obtain ⟨g,hg⟩:∃g,g=W.heap.size:=⟨_,rfl⟩
  generalize W.alloc (.cells #[.int .i64 b, .int .i64 y, .int .i64 fr, .int .i64 fa, .int .i64 bu, .int .i64 le, .int .i64 ke, .int .i64 va] 23)=w1 at*
  rw [<-hg] at hx ⊢
  have HX:=Lib.hid hx
  have HB:=Lib.hid hb1
  obtain ⟨c0,c1,c2,c3,c4,c5,c6,c7⟩:=box8 hx
  clear hx hb1 hg
  go_wp2_with (go_at_call 98;(first|(refine (between_yes _ _ _ _ (by omega) (by omega)).mono ?_)|(refine (between_no _ _ _ _ (by omega)).mono ?_));rintro e w' ⟨rfl,hb⟩;replace HX:=Lib.hid (kept8 HX.out hb);replace HB:=Lib.hid (bel2 HB.out hb);clear hb;obtain ⟨c0,c1,c2,c3,c4,c5,c6,c7⟩:=box8 HX.out)
  go_ret
  exact ⟨rfl,HB.out⟩
 by_cases nle:bu<=le/\le<=1024
 case neg=>
  have hw:IntKind.i64.wrap (2*fa)=2*fa:=by rw [IntKind.wrap_i64];omega
  clear h
  obtain ⟨mfa,mfax⟩:=nfa
  obtain ⟨mbu,mbux⟩:=nbu
  go_enter Tryz.func97,Tryz.ntmps97
  go_upto_region 1 with fail
  have hx:=heap_alloc_new W (.cells #[.int .i64 b, .int .i64 y, .int .i64 fr, .int .i64 fa, .int .i64 bu, .int .i64 le, .int .i64 ke, .int .i64 va] 23)
  have hb1:Below W.heap.size W (W.alloc (.cells #[.int .i64 b, .int .i64 y, .int .i64 fr, .int .i64 fa, .int .i64 bu, .int .i64 le, .int .i64 ke, .int .i64 va] 23)):=(Below.refl _ _).alloc (Nat.le_refl _) _
  obtain ⟨g,hg⟩:∃g,g=W.heap.size:=⟨_,rfl⟩
  generalize W.alloc (.cells #[.int .i64 b, .int .i64 y, .int .i64 fr, .int .i64 fa, .int .i64 bu, .int .i64 le, .int .i64 ke, .int .i64 va] 23)=w1 at*
  rw [<-hg] at hx ⊢
  have HX:=Lib.hid hx
  have HB:=Lib.hid hb1
  obtain ⟨c0,c1,c2,c3,c4,c5,c6,c7⟩:=box8 hx
  clear hx hb1 hg
  go_wp2_with (go_at_call 98;(first|(refine (between_yes _ _ _ _ (by omega) (by omega)).mono ?_)|(refine (between_no _ _ _ _ (by omega)).mono ?_));rintro e w' ⟨rfl,hb⟩;replace HX:=Lib.hid (kept8 HX.out hb);replace HB:=Lib.hid (bel2 HB.out hb);clear hb;obtain ⟨c0,c1,c2,c3,c4,c5,c6,c7⟩:=box8 HX.out)
  go_ret
  exact ⟨rfl,HB.out⟩
 by_cases nke:1<=ke/\ke<=64
 case neg=>
  have hw:IntKind.i64.wrap (2*fa)=2*fa:=by rw [IntKind.wrap_i64];omega
  clear h
  obtain ⟨mfa,mfax⟩:=nfa
  obtain ⟨mbu,mbux⟩:=nbu
  obtain ⟨mle,mlex⟩:=nle
  go_enter Tryz.func97,Tryz.ntmps97
  go_upto_region 1 with fail
  have hx:=heap_alloc_new W (.cells #[.int .i64 b, .int .i64 y, .int .i64 fr, .int .i64 fa, .int .i64 bu, .int .i64 le, .int .i64 ke, .int .i64 va] 23)
  have hb1:Below W.heap.size W (W.alloc (.cells #[.int .i64 b, .int .i64 y, .int .i64 fr, .int .i64 fa, .int .i64 bu, .int .i64 le, .int .i64 ke, .int .i64 va] 23)):=(Below.refl _ _).alloc (Nat.le_refl _) _
  obtain ⟨g,hg⟩:∃g,g=W.heap.size:=⟨_,rfl⟩
  generalize W.alloc (.cells #[.int .i64 b, .int .i64 y, .int .i64 fr, .int .i64 fa, .int .i64 bu, .int .i64 le, .int .i64 ke, .int .i64 va] 23)=w1 at*
  rw [<-hg] at hx ⊢
  have HX:=Lib.hid hx
  have HB:=Lib.hid hb1
  obtain ⟨c0,c1,c2,c3,c4,c5,c6,c7⟩:=box8 hx
  clear hx hb1 hg
  go_wp2_with (go_at_call 98;(first|(refine (between_yes _ _ _ _ (by omega) (by omega)).mono ?_)|(refine (between_no _ _ _ _ (by omega)).mono ?_));rintro e w' ⟨rfl,hb⟩;replace HX:=Lib.hid (kept8 HX.out hb);replace HB:=Lib.hid (bel2 HB.out hb);clear hb;obtain ⟨c0,c1,c2,c3,c4,c5,c6,c7⟩:=box8 HX.out)
  go_ret
  exact ⟨rfl,HB.out⟩
 by_cases nva:0<=va/\va<=256
 case neg=>
  have hw:IntKind.i64.wrap (2*fa)=2*fa:=by rw [IntKind.wrap_i64];omega
  clear h
  obtain ⟨mfa,mfax⟩:=nfa
  obtain ⟨mbu,mbux⟩:=nbu
  obtain ⟨mle,mlex⟩:=nle
  obtain ⟨mke,mkex⟩:=nke
  go_enter Tryz.func97,Tryz.ntmps97
  go_upto_region 1 with fail
  have hx:=heap_alloc_new W (.cells #[.int .i64 b, .int .i64 y, .int .i64 fr, .int .i64 fa, .int .i64 bu, .int .i64 le, .int .i64 ke, .int .i64 va] 23)
  have hb1:Below W.heap.size W (W.alloc (.cells #[.int .i64 b, .int .i64 y, .int .i64 fr, .int .i64 fa, .int .i64 bu, .int .i64 le, .int .i64 ke, .int .i64 va] 23)):=(Below.refl _ _).alloc (Nat.le_refl _) _
  obtain ⟨g,hg⟩:∃g,g=W.heap.size:=⟨_,rfl⟩
  generalize W.alloc (.cells #[.int .i64 b, .int .i64 y, .int .i64 fr, .int .i64 fa, .int .i64 bu, .int .i64 le, .int .i64 ke, .int .i64 va] 23)=w1 at*
  rw [<-hg] at hx ⊢
  have HX:=Lib.hid hx
  have HB:=Lib.hid hb1
  obtain ⟨c0,c1,c2,c3,c4,c5,c6,c7⟩:=box8 hx
  clear hx hb1 hg
  go_wp2_with (go_at_call 98;(first|(refine (between_yes _ _ _ _ (by omega) (by omega)).mono ?_)|(refine (between_no _ _ _ _ (by omega)).mono ?_));rintro e w' ⟨rfl,hb⟩;replace HX:=Lib.hid (kept8 HX.out hb);replace HB:=Lib.hid (bel2 HB.out hb);clear hb;obtain ⟨c0,c1,c2,c3,c4,c5,c6,c7⟩:=box8 HX.out)
  go_ret
  exact ⟨rfl,HB.out⟩
 exact absurd ⟨nfa,nbu,nle,nke,nva⟩ h
end Cf
end Go.Proofs.YtjpjjnalpdpljaaGreatDoor
namespace Go.Proofs.YtjpjjnalpdpljaaGreatDoor
open Go.RowKit
namespace Bu
open Mem
theorem ba_toList {a b:ByteArray}:(a.toList==b.toList)=decide (a=b):=by
 by_cases h:a=b
 . subst h;simp
 . have:a.toList≠b.toList:=fun e=>h (by
    rw [ByteArray.toList_eq,ByteArray.toList_eq] at e
    obtain ⟨⟨x⟩⟩:=a
    obtain ⟨⟨y⟩⟩:=b
    simp at e
    rw [e])
   rw [decide_eq_false h]
   simpa using this
theorem box3 {w:World} {b:Nat} {v0 v1 v2:Value} {U:TypeId} (h:w.heap[b]? =some (.cells #[v0,v1,v2] U (0,0))):w.cell? ⟨b,0,none⟩=some v0/\w.cell? ⟨b,1,none⟩=some v1/\w.cell? ⟨b,2,none⟩=some v2:=by
 simp [World.cell?,h]
theorem free3 {w:World} {b:Nat} {C:Array Value} {U:TypeId} (h:w.heap[b]? =some (.cells C U (0,0))) (i:Nat):w.frozen? ⟨b,i,none⟩=false:=by
 simp [World.frozen?,h]
def set3 (w:World) (b:Nat) (v0 v1 v2:Value):World:=((w.setCell ⟨b,0,none⟩ v0).setCell ⟨b,1,none⟩ v1).setCell ⟨b,2,none⟩ v2
theorem set3_at {w:World} {b:Nat} {u0 u1 u2:Value} {U:TypeId} (h:w.heap[b]? =some (.cells #[u0,u1,u2] U (0,0))) (v0 v1 v2:Value):(set3 w b v0 v1 v2).heap[b]? =some (.cells #[v0,v1,v2] U (0,0)):=by
 unfold set3
 simp [World.setCell,Array.getElem?_modify,h]
theorem kept3 {w w':World} {b:Nat} {o:Obj} (h:w.heap[b]? =some o) (hb:Below w.heap.size w w'):w'.heap[b]? =some o:=(hb.block b (Array.getElem?_eq_some_iff.1 h).1).trans h
theorem bel3 {W w w':World} (h:Below W.heap.size W w) (hb:Below w.heap.size w w'):Below W.heap.size W w':=h.trans (hb.mono h.size)
theorem bool_of (p:Prop):∃r:Bool,r=true↔p:=⟨@decide p (Classical.propDecidable p),by simp⟩
theorem bool_one {v r:Bool} {p:Prop} (h:v=true↔p) (k:r=true↔p):v=r:=by
 cases v<;>cases r<;>simp_all
theorem two_new (W:World) (X Y:Obj):((W.alloc X).alloc Y).heap[W.heap.size]? =some X/\((W.alloc X).alloc Y).heap[W.heap.size+1]? =some Y/\Below W.heap.size W ((W.alloc X).alloc Y):=by
 have hb:Below W.heap.size W (W.alloc X):=(Below.refl _ _).alloc (Nat.le_refl _) _
 have hb2:Below (W.alloc X).heap.size (W.alloc X) ((W.alloc X).alloc Y):=(Below.refl _ _).alloc (Nat.le_refl _) _
 refine ⟨kept3 (heap_alloc_new W X) hb2,?_,hb.trans (hb2.mono hb.size)⟩
 have:=heap_alloc_new (W.alloc X) Y
 simpa using this
theorem set_other {w:World} {b k:Nat} {i:Nat} (v:Value) (hk:k≠b):(w.setCell ⟨b,i,none⟩ v).heap[k]? =w.heap[k]? :=Below.heap_setCell _ _ _ _ hk
end Bu
end Go.Proofs.YtjpjjnalpdpljaaGreatDoor
namespace Go.Proofs.YtjpjjnalpdpljaaGreatDoor
open Go.RowKit
namespace No
variable {c:Cfg}
structure SetOk (c:Cfg) (F B L K V:Nat):Prop where
 fan:c.fan=F
 buffer:c.buffer=B
 leaf:c.leaf=L
 key:c.key=K
 val:c.val=V
 f:8<=F/\F<=64
 b:B<=512
 l:L<=1024
 k:1<=K/\K<=64
 v:V<=256
 inn:((8+4*F+(1+K)*(F-1)+B*(4+K+V):Nat):Int)<=c.bytes
 out:((8+L*(3+K+V):Nat):Int)<=c.bytes
 bytes:64<=c.bytes/\c.bytes<=65536
 blocks:c.blocks<=65536
theorem set_ok (h:Cf.Right c.blocks c.bytes c.frames c.fan c.buffer c.leaf c.key c.val):∃F B L K V,SetOk c F B L K V:=by
 obtain ⟨hs,⟨hb1,hb2⟩,hf,hy1,hy2⟩:=h
 have hs':=hs
 unfold Cf.Shape at hs'
 obtain ⟨⟨f1,f2⟩,⟨u1,u2⟩,⟨l1,l2⟩,⟨k1,k2⟩,⟨v1,v2⟩⟩:=hs'
 obtain ⟨F,hF⟩:∃F:Nat,c.fan=F:=⟨c.fan.toNat,by omega⟩
 obtain ⟨B,hB⟩:∃B:Nat,c.buffer=B:=⟨c.buffer.toNat,by omega⟩
 obtain ⟨L,hL⟩:∃L:Nat,c.leaf=L:=⟨c.leaf.toNat,by omega⟩
 obtain ⟨K,hK⟩:∃K:Nat,c.key=K:=⟨c.key.toNat,by omega⟩
 obtain ⟨V,hV⟩:∃V:Nat,c.val=V:=⟨c.val.toNat,by omega⟩
 refine ⟨F,B,L,K,V,hF,hB,hL,hK,hV,by omega,by omega,by omega,by omega,by omega,?_,?_,?_,hb2⟩
 . have h1:Cf.inn c.fan c.buffer c.key c.val<=c.bytes:=by
    unfold Cf.few at hy1
    omega
   unfold Cf.inn at h1
   rw [hF,hB,hK,hV] at h1
   obtain ⟨G,rfl⟩:∃G,F=G+1:=⟨F-1,by omega⟩
   have e1:(G+1:Nat)-1=G:=rfl
   have e2:((G+1:Nat):Int)-1=G:=by omega
   rw [e2] at h1
   rw [e1]
   have e3:((1+K)*G:Nat)=G*(1+K):=Nat.mul_comm _ _
   rw [e3]
   push_cast at h1 ⊢
   omega
 . have h1:Cf.out c.leaf c.key c.val<=c.bytes:=by
    unfold Cf.few at hy1
    omega
   unfold Cf.out at h1
   rw [hL,hK,hV] at h1
   push_cast at h1 ⊢
   omega
 . unfold Cf.few at hy1
   omega
end No
end Go.Proofs.YtjpjjnalpdpljaaGreatDoor
namespace Go.Proofs.YtjpjjnalpdpljaaGreatDoor
open Go.RowKit
namespace Cf
def runs (a s:Int) (k:Nat):Int:=a+(k:Int)*s
theorem runs_next (a s:Int) (k:Nat):runs a s (k+1)=runs a s k+s:=by
 unfold runs
 rw [Int.natCast_add,Int.add_mul]
 simp
 omega
theorem runs_in {a s S A:Int} {k n:Nat} (h0:0<=a) (h1:a<=A) (h2:0<=s) (h3:s<=S) (hk:k<=n):0<=runs a s k/\runs a s k<=A+(n:Int)*S:=by
 obtain ⟨p0,p1⟩:=mul_in (a:=(k:Int)) (c:=s) (A:=(n:Int)) (C:=S) (by omega) (by omega) h2 h3
 unfold runs
 omega
def kids (ke:Int) (k:Nat):Int:=8+4*(k:Int)+((k-1:Nat):Int)*(1+ke)
theorem kids_next (ke:Int) (k:Nat):kids ke (k+1)=kids ke k+4+(if k=0 then 0 else 1+ke):=by
 unfold kids
 by_cases h:k=0
 . subst h
   simp
 . obtain ⟨j,rfl⟩:∃j,k=j+1:=⟨k-1,by omega⟩
   rw [if_neg h]
   have e1:j+1+1-1=j+1:=rfl
   have e2:j+1-1=j:=rfl
   rw [e1,e2]
   have e3:((j+1:Nat):Int)*(1+ke)=(j:Int)*(1+ke)+(1+ke):=by rw [Int.natCast_add,Int.add_mul];simp
   rw [e3]
   omega
theorem kids_in {ke:Int} {k:Nat} (h1:1<=ke) (h2:ke<=64) (hk:k<=64):0<=kids ke k/\kids ke k<=5000:=by
 obtain ⟨p0,p1⟩:=mul_in (a:=((k-1:Nat):Int)) (c:=1+ke) (A:=64) (C:=65) (by omega) (by omega) (by omega) (by omega)
 unfold kids
 omega
theorem ROuter_yes (b y fr fa bu le ke va:Int) (W:World) (h:Shape fa bu le ke va):Calls Tryz.prog 70 #[.agg #[.int .i64 b, .int .i64 y, .int .i64 fr, .int .i64 fa, .int .i64 bu, .int .i64 le, .int .i64 ke, .int .i64 va]] W fun e w'=>e= .returned (.int .i64 (out le ke va))/\Below W.heap.size W w':=by
 have cS:=fun W=>Lib.hid (Sized_yes b y fr fa bu le ke va W h)
 obtain ⟨⟨h1,h1'⟩,⟨h2,h2'⟩,⟨h3,h3'⟩,⟨h4,h4'⟩,h5,h5'⟩:=h
 obtain ⟨n,rfl⟩:∃n:Nat,le=n:=⟨le.toNat,by omega⟩
 have HO:Hid (out n ke va=runs 8 (3+ke+va) n):=rfl
 have HS:Hid (∀k,runs 8 (3+ke+va) (k+1)=runs 8 (3+ke+va) k+(3+ke+va)):=runs_next _ _
 have HI:Hid (∀k,k<=n->0<=runs 8 (3+ke+va) k/\runs 8 (3+ke+va) k<=400000):=fun k hk=>by
  obtain ⟨i0,i1⟩:=runs_in (a:=8) (s:=3+ke+va) (S:=323) (A:=8) (k:=k) (n:=n) (by omega) (by omega) (by omega) (by omega) hk
  omega
 have HZ:Hid (runs 8 (3+ke+va) 0=8):=by unfold Hid runs;simp
 obtain ⟨S,hS⟩:∃S,S=runs 8 (3+ke+va):=⟨_,rfl⟩
 rw [<-hS] at HO HS HI HZ
 clear hS
 go_enter Tryz.func70,Tryz.ntmps70
 go_upto_region 1 with fail
 have hx:=heap_alloc_new W (.cells #[.int .i64 b, .int .i64 y, .int .i64 fr, .int .i64 fa, .int .i64 bu, .int .i64 (n:Int), .int .i64 ke, .int .i64 va] 23)
 have hb1:Below W.heap.size W (W.alloc (.cells #[.int .i64 b, .int .i64 y, .int .i64 fr, .int .i64 fa, .int .i64 bu, .int .i64 (n:Int), .int .i64 ke, .int .i64 va] 23)):=(Below.refl _ _).alloc (Nat.le_refl _) _
 obtain ⟨g,hg⟩:∃g,g=W.heap.size:=⟨_,rfl⟩
 generalize W.alloc (.cells #[.int .i64 b, .int .i64 y, .int .i64 fr, .int .i64 fa, .int .i64 bu, .int .i64 (n:Int), .int .i64 ke, .int .i64 va] 23)=w1 at*
 rw [<-hg] at hx ⊢
 have HX:=Lib.hid hx
 have HB:=Lib.hid hb1
 obtain ⟨c0,c1,c2,c3,c4,c5,c6,c7⟩:=box8 hx
 clear hx hb1 hg
 go_upto_region 3 with (go_at_call 67;refine (cS _).out.mono ?_;rintro e w2 ⟨rfl,hb⟩;replace HX:=Lib.hid (kept8 HX.out hb);replace HB:=Lib.hid (bel2 HB.out hb);clear hb)
 clear c0 c1 c2 c3 c4 c5 c6 c7 cS
 obtain ⟨c0,c1,c2,c3,c4,c5,c6,c7⟩:=box8 HX.out
 go_wp2_with fail
 go_loopg [3,4] n (fun gk nv iv wr=>∃k:Nat,k<=n/\gk=n-k/\nv= .int .i64 (S k)/\iv= .int .i64 (k:Int)/\wr=w2)
 case atStart=>exact ⟨0,Nat.zero_le _,rfl,by rw [HZ.out],rfl,rfl⟩
 case round=>
  obtain ⟨k,hk,rfl,rfl,rfl,rfl⟩:=hrel
  obtain ⟨i0,i1⟩:=HI.out k hk
  by_cases hlt:k<n
  . obtain ⟨j0,j1⟩:=HI.out (k+1) hlt
    have hs:=HS.out k
    have HN:Hid (S (k+1)=S k+3+ke+va):=by unfold Hid;omega
    rw [hs] at j0 j1
    have hwk:IntKind.i64.wrap ((k:Int)+1)=((k+1:Nat):Int):=by rw [IntKind.wrap_i64];omega
    clear hs
    generalize S k=x at*
    go_wp2_with fail
    go_roundg (n-(k+1))
    case measure=>omega
    case rel=>exact ⟨k+1,hlt,rfl,by rw [HN.out],by go_num,rfl⟩
  . obtain rfl:k=n:=by omega
    clear hlt
    go_wp2_with fail
    go_ret
    exact ⟨by rw [HO.out];rfl,HB.out⟩
theorem RInner_yes (b y fr fa bu le ke va:Int) (W:World) (h:Shape fa bu le ke va):Calls Tryz.prog 69 #[.agg #[.int .i64 b, .int .i64 y, .int .i64 fr, .int .i64 fa, .int .i64 bu, .int .i64 le, .int .i64 ke, .int .i64 va]] W fun e w'=>e= .returned (.int .i64 (inn fa bu ke va))/\Below W.heap.size W w':=by
 have cS:=fun W=>Lib.hid (Sized_yes b y fr fa bu le ke va W h)
 obtain ⟨⟨h1,h1'⟩,⟨h2,h2'⟩,⟨h3,h3'⟩,⟨h4,h4'⟩,h5,h5'⟩:=h
 obtain ⟨n,rfl⟩:∃n:Nat,fa=n:=⟨fa.toNat,by omega⟩
 obtain ⟨m,rfl⟩:∃m:Nat,bu=m:=⟨bu.toNat,by omega⟩
 have hn64:n<=64:=by omega
 have hm512:m<=512:=by omega
 have HO:Hid (inn n m ke va=runs (kids ke n) (4+ke+va) m):=by
  unfold Hid inn runs kids
  have:((n-1:Nat):Int)=(n:Int)-1:=by omega
  rw [this]
 have HK:Hid (∀k,kids ke (k+1)=kids ke k+4+(if k=0 then 0 else 1+ke)):=kids_next ke
 have HKI:Hid (∀k,k<=n->0<=kids ke k/\kids ke k<=5000):=fun k hk=>kids_in (by omega) (by omega) (by omega)
 have HKZ:Hid (kids ke 0=8):=by unfold Hid kids;simp
 have HS:Hid (∀k,runs (kids ke n) (4+ke+va) (k+1)=runs (kids ke n) (4+ke+va) k+(4+ke+va)):=runs_next _ _
 have HI:Hid (∀k,k<=m->0<=runs (kids ke n) (4+ke+va) k/\runs (kids ke n) (4+ke+va) k<=400000):=fun k hk=>by
  obtain ⟨q0,q1⟩:=HKI.out n (Nat.le_refl _)
  obtain ⟨i0,i1⟩:=runs_in (a:=kids ke n) (s:=4+ke+va) (S:=324) (A:=5000) (k:=k) (n:=m) q0 q1 (by omega) (by omega) hk
  omega
 have HZ:Hid (runs (kids ke n) (4+ke+va) 0=kids ke n):=by unfold Hid runs;simp
 obtain ⟨S,hS⟩:∃S,S=runs (kids ke n) (4+ke+va):=⟨_,rfl⟩
 rw [<-hS] at HO HS HI HZ
 obtain ⟨T,hT⟩:∃T,T=kids ke:=⟨_,rfl⟩
 rw [<-hT] at HK HKI HKZ HZ
 clear hS hT
 go_enter Tryz.func69,Tryz.ntmps69
 go_upto_region 1 with fail
 have hx:=heap_alloc_new W (.cells #[.int .i64 b, .int .i64 y, .int .i64 fr, .int .i64 (n:Int), .int .i64 (m:Int), .int .i64 le, .int .i64 ke, .int .i64 va] 23)
 have hb1:Below W.heap.size W (W.alloc (.cells #[.int .i64 b, .int .i64 y, .int .i64 fr, .int .i64 (n:Int), .int .i64 (m:Int), .int .i64 le, .int .i64 ke, .int .i64 va] 23)):=(Below.refl _ _).alloc (Nat.le_refl _) _
 obtain ⟨g,hg⟩:∃g,g=W.heap.size:=⟨_,rfl⟩
 generalize W.alloc (.cells #[.int .i64 b, .int .i64 y, .int .i64 fr, .int .i64 (n:Int), .int .i64 (m:Int), .int .i64 le, .int .i64 ke, .int .i64 va] 23)=w1 at*
 rw [<-hg] at hx ⊢
 have HX:=Lib.hid hx
 have HB:=Lib.hid hb1
 obtain ⟨c0,c1,c2,c3,c4,c5,c6,c7⟩:=box8 hx
 clear hx hb1 hg
 go_upto_region 3 with (go_at_call 67;refine (cS _).out.mono ?_;rintro e w2 ⟨rfl,hb⟩;replace HX:=Lib.hid (kept8 HX.out hb);replace HB:=Lib.hid (bel2 HB.out hb);clear hb)
 clear c0 c1 c2 c3 c4 c5 c6 c7 cS
 obtain ⟨c0,c1,c2,c3,c4,c5,c6,c7⟩:=box8 HX.out
 go_wp2_with fail
 go_loopg [3,4] n (fun gk nv iv wr=>∃k:Nat,k<=n/\gk=n-k/\nv= .int .i64 (T k)/\iv= .int .i64 (k:Int)/\wr=w2)
 case atStart=>exact ⟨0,Nat.zero_le _,rfl,by rw [HKZ.out],rfl,rfl⟩
 case round=>
  obtain ⟨k,hk,rfl,rfl,rfl,rfl⟩:=hrel
  obtain ⟨i0,i1⟩:=HKI.out k hk
  by_cases hlt:k<n
  . have hs:=HK.out k
    have hwk:IntKind.i64.wrap ((k:Int)+1)=((k+1:Nat):Int):=by rw [IntKind.wrap_i64];omega
    by_cases hk0:k=0
    . subst hk0
      rw [if_pos rfl] at hs
      have HN:Hid (T (0+1)=T 0+4):=by unfold Hid;omega
      have hd:decide ((0:Int)<((0:Nat):Int))=false:=by simp
      clear hs
      generalize T 0=x at*
      go_wp2_with fail
      go_roundg (n-(0+1))
      case measure=>omega
      case rel=>exact ⟨0+1,hlt,rfl,by rw [HN.out],by go_num,rfl⟩
    . rw [if_neg hk0] at hs
      have HN:Hid (T (k+1)=T k+4+1+ke):=by unfold Hid;omega
      have hpos:0<k:=by omega
      clear hs
      generalize T k=x at*
      go_wp2_with fail
      go_roundg (n-(k+1))
      case measure=>omega
      case rel=>exact ⟨k+1,hlt,rfl,by rw [HN.out],by go_num,rfl⟩
  . obtain rfl:k=n:=by omega
    clear hlt i0 i1
    rw [<-HZ.out]
    clear HK HKI HKZ HZ
    go_wp2_with fail
    go_loopg [3,5] m (fun gk nv iv wr2=>∃k:Nat,k<=m/\gk=m-k/\nv= .int .i64 (S k)/\iv= .int .i64 (k:Int)/\wr2=wr)
    case atStart=>exact ⟨0,Nat.zero_le _,rfl,rfl,rfl,rfl⟩
    case round=>
     obtain ⟨k2,hk2,rfl,rfl,rfl,rfl⟩:=hrel
     obtain ⟨i0,i1⟩:=HI.out k2 hk2
     by_cases hlt:k2<m
     . obtain ⟨j0,j1⟩:=HI.out (k2+1) hlt
       have hs:=HS.out k2
       have HN:Hid (S (k2+1)=S k2+4+ke+va):=by unfold Hid;omega
       rw [hs] at j0 j1
       have hwk:IntKind.i64.wrap ((k2:Int)+1)=((k2+1:Nat):Int):=by rw [IntKind.wrap_i64];omega
       clear hs
       generalize S k2=x at*
       go_wp2_with fail
       go_roundg (m-(k2+1))
       case measure=>omega
       case rel=>exact ⟨k2+1,hlt,rfl,by rw [HN.out],by go_num,rfl⟩
     . obtain rfl:k2=m:=by omega
       clear hlt
       go_wp2_with fail
       go_ret
       exact ⟨by rw [HO.out];rfl,HB.out⟩
end Cf
end Go.Proofs.YtjpjjnalpdpljaaGreatDoor
namespace Go.Proofs.YtjpjjnalpdpljaaGreatDoor
open Go.RowKit
namespace No
open Mem Bu
structure FrB (w:World) (B:Nat) (A:Option Addr) (s:List UInt8):Prop where
 bl:BL w A s
 own:0<s.length->∃(g o:Nat) (C:Array Value),A=some ⟨g,o,none⟩/\B<=g/\w.heap[g]? =some (.cells C 5 (0,0))
theorem FrB.kept {w w':World} {B:Nat} {A:Option Addr} {s:List UInt8} (h:FrB w B A s) (hb:Below w.heap.size w w'):FrB w' B A s:=⟨h.bl.below hb,fun h0=>by
 obtain ⟨g,o,C,e,h1,h2⟩:=h.own h0
 exact ⟨g,o,C,e,h1,kept3 h2 hb⟩⟩
theorem FrB.mono {w:World} {B B':Nat} {A:Option Addr} {s:List UInt8} (h:FrB w B A s) (hb:B'<=B):FrB w B' A s:=⟨h.bl,fun h0=>by
 obtain ⟨g,o,C,e,h1,h2⟩:=h.own h0
 exact ⟨g,o,C,e,Nat.le_trans hb h1,h2⟩⟩
theorem FrB.none_ (w:World) (B:Nat) (A:Option Addr):FrB w B A []:=⟨BL.nil _ _,fun h=>absurd h (by simp)⟩
end No
end Go.Proofs.YtjpjjnalpdpljaaGreatDoor
namespace Go.Proofs.YtjpjjnalpdpljaaGreatDoor
open Go.RowKit
namespace Mem
theorem evAt_appendK {α:Type} {K:Kind α} {P:Program} {SS:List Nat} {S:TypeId} {z:Value} {by_:Nat} (hS:P.underlying S=some (.slice K.T)) (hinfo:(P.info? K.T).map (fun i=>(i.zero,i.size,i.bytes))=some (some z,K.k,by_)) (hz:z.cells.size=K.k) (hby:by_<=4096) (hk:0<K.k)
 {w:World} {o:Oper} {a:Act} {V:Value->World->Prop} (s x:Operand)
 (ho:o.op= .call { callee:= .builtin .append,args:= #[s,x],argTypes:= #[S,S] })
 (B:Nat) (A:Option Addr) (n c:Nat) (L:List α) (hs:a.eval s= .slice A n c) (hvn:L.length=n) (h:VK K w B A c L) (xb cx:Nat) (y:α) (hx:a.eval x= .slice (some ⟨xb,0,none⟩) 1 cx) (hu:w.heap[xb]? =some (.cells (K.cs y).toArray K.T (0,0))) (hn:n+1<=1048576) (hB:B<=w.heap.size)
 (hSS:∀a,A=some a->a.block∈SS) (hh:∀A' c' w',AppdK K B w w' A A' c' (L++[y])->V (.slice A' (n+1) c') w'):Flow.evAt P SS o a w V:=by
 subst hvn
 obtain ⟨A',c',w',hrun,hd⟩:=run_appendK hS hinfo hz hby o.type h xb cx y hu hn hk hB
 unfold Flow.evAt execOp
 simp only [ho,resolve,invoke,builtin,Sem.run_bind,Sem.run_pure,Result.andThen_ok,List.map_toArray,List.map_cons,List.map_nil,hs,hx,hrun]
 exact ⟨hh A' c' w' hd,hd.below.os,hd.below.tape,hd.below.output,hd.below.size,fun k hk hn=>hd.block k hk fun a ha hak=>hn (hak▸hSS a ha)⟩
structure AppW {α:Type} (K:Kind α) (B:Nat) (w w':World) (A A':Option Addr) (c':Nat) (L:List α):Prop where
 vo:VK K w' B A' c' L
 below:Below B w w'
 block:∀k,k<w.heap.size->(∀a,A=some a->a.block≠k)->w'.heap[k]? =w.heap[k]?
 row:∀a',A'=some a'->(∃a,A=some a/\a'.block=a.block)\/w.heap.size<=a'.block
theorem AppW.then_ {α:Type} {K:Kind α} {B c':Nat} {w w' w2:World} {A A':Option Addr} {L:List α} (h:AppW K B w w' A A' c' L) (hb:Below w'.heap.size w' w2) (hB:B<=w'.heap.size):AppW K B w w2 A A' c' L:=
 ⟨h.vo.kept hb,h.below.trans (hb.mono hB),fun k hk hn=>(hb.block k (Nat.lt_of_lt_of_le hk h.below.size)).trans (h.block k hk hn),h.row⟩
def EvApp {α:Type} (K:Kind α) (B:Nat) (w:World) (A:Option Addr) (n:Nat) (L:List α) (v:Value) (w':World):Prop:=∃A' c',v= .slice A' n c'/\AppW K B w w' A A' c' L
theorem evAt_appW {α:Type} {K:Kind α} {P:Program} {SS:List Nat} {S:TypeId} {z:Value} {by_:Nat} (hS:P.underlying S=some (.slice K.T)) (hinfo:(P.info? K.T).map (fun i=>(i.zero,i.size,i.bytes))=some (some z,K.k,by_)) (hz:z.cells.size=K.k) (hby:by_<=4096) (hk:0<K.k)
 {w W2:World} {o:Oper} {a:Act} (s x:Operand)
 (ho:o.op= .call { callee:= .builtin .append,args:= #[s,x],argTypes:= #[S,S] })
 (B:Nat) (A:Option Addr) (n c:Nat) (L:List α) (hs:a.eval s= .slice A n c) (hvn:L.length=n) (h:VK K w B A c L) (hkk:Below w.heap.size w W2) (xb cx:Nat) (y:α) (hx:a.eval x= .slice (some ⟨xb,0,none⟩) 1 cx) (hu:W2.heap[xb]? =some (.cells (K.cs y).toArray K.T (0,0))) (hn:n+1<=1048576) (hB:B<=w.heap.size)
 (hSS:∀a,A=some a->a.block∈SS):Flow.evAt P SS o a W2 (EvApp K B w A (n+1) (L++[y])):=
 evAt_appendK hS hinfo hz hby hk s x ho B A n c L hs hvn (h.kept hkk) xb cx y hx hu hn (Nat.le_trans hB hkk.size) hSS fun A' c' w' hd=>⟨A',c',rfl,hd.vo,(hkk.mono hB).trans hd.below,fun k hk hn=>(hd.block k (Nat.lt_of_lt_of_le hk hkk.size) hn).trans (hkk.block k hk),fun a' ha'=>by
  rcases hd.row a' ha' with h1|h1
  . exact .inl h1
  . exact .inr (by rw [h1];exact hkk.size)⟩
theorem VK.blocks {α:Type} {K:Kind α} {w:World} {B c:Nat} {A:Option Addr} {L:List α} (h:VK K w B A c L):∃S:List Nat,(∀a,A=some a->a.block∈S)/\∀k,k∈S->B<=k/\k<w.heap.size:=by
 cases A with
 |none=>exact ⟨[],(fun a ha=>by cases ha),(fun k hk=>by cases hk)⟩
 |some x=>
  refine ⟨[x.block],(fun a ha=>by cases ha;simp),fun k hk=>?_⟩
  obtain rfl:k=x.block:=by simpa using hk
  exact h.at_ x rfl
end Mem
end Go.Proofs.YtjpjjnalpdpljaaGreatDoor
namespace Go.Proofs.YtjpjjnalpdpljaaGreatDoor
open Go.RowKit
namespace No
open Mem Bu
def set5 (w:World) (b:Nat) (v0 v1 v2 v3 v4:Value):World:=((((w.setCell ⟨b,0,none⟩ v0).setCell ⟨b,1,none⟩ v1).setCell ⟨b,2,none⟩ v2).setCell ⟨b,3,none⟩ v3).setCell ⟨b,4,none⟩ v4
theorem set5_at {w:World} {b:Nat} {u0 u1 u2 u3 u4:Value} {U:TypeId} (h:w.heap[b]? =some (.cells #[u0,u1,u2,u3,u4] U (0,0))) (v0 v1 v2 v3 v4:Value):(set5 w b v0 v1 v2 v3 v4).heap[b]? =some (.cells #[v0,v1,v2,v3,v4] U (0,0)):=by
 unfold set5
 simp [World.setCell,Array.getElem?_modify,h]
theorem set5_below {B b:Nat} {a w:World} (h:Below B a w) (hb:B<=b) (v0 v1 v2 v3 v4:Value):Below B a (set5 w b v0 v1 v2 v3 v4):=((((h.setCell hb v0).setCell hb v1).setCell hb v2).setCell hb v3).setCell hb v4
theorem into_one (w:World) (b i:Nat) (v:Value):Flow.Into [b] w (w.setCell ⟨b,i,none⟩ v):=⟨rfl,rfl,rfl,Nat.le_of_eq (by simp),fun k _ hn=>set_other _ (by simpa using hn)⟩
theorem into_set5 (w:World) (b:Nat) (v0 v1 v2 v3 v4:Value):Flow.Into [b] w (set5 w b v0 v1 v2 v3 v4):=((((into_one _ _ _ _).trans (into_one _ _ _ _)).trans (into_one _ _ _ _)).trans (into_one _ _ _ _)).trans (into_one _ _ _ _)
theorem set_same {w:World} {b i:Nat} {v:Value} (h:w.cell? ⟨b,i,none⟩=some v):w.setCell ⟨b,i,none⟩ v=w:=by
 unfold World.setCell
 have e:∀f:Obj->Obj,(∀o,w.heap[b]? =some o->f o=o)->w.heap.modify b f=w.heap:=fun f hf=>by
  refine Array.ext_getElem? fun k=>?_
  rw [Array.getElem?_modify]
  split
  . rename_i hk
    subst hk
    cases ho:w.heap[b]? with
    |none=>rfl
    |some o=>rw [Option.map_some,hf o ho]
  . rfl
 rw [e]
 intro o ho
 unfold World.cell? at h
 rw [ho] at h
 cases o with
 |cells c T f=>
  simp only [Option.isSome_none,Bool.false_eq_true,if_false] at h ⊢
  congr 1
  refine Array.ext_getElem? fun k=>?_
  rw [Array.getElem?_setIfInBounds]
  split
  . rename_i hk
    subst hk
    have:=(Array.getElem?_eq_some_iff.1 h).1
    rw [if_pos this,h]
  . rfl
 |_=>rfl
theorem free5 {w:World} {b:Nat} {C:Array Value} {U:TypeId} (h:w.heap[b]? =some (.cells C U (0,0))) (i:Nat):w.frozen? ⟨b,i,none⟩=false:=by
 simp [World.frozen?,h]
end No
end Go.Proofs.YtjpjjnalpdpljaaGreatDoor
