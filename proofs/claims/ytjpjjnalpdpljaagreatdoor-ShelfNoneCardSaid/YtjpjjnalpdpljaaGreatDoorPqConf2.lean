import Derived.Test.YtjpjjnalpdpljaaGreatDoorPkAK
set_option maxHeartbeats 2000000
set_option maxRecDepth 100000
namespace Go.Proofs.YtjpjjnalpdpljaaGreatDoor
open Go.RowKit
namespace Cf
theorem two8 (W:World) (o1 o2:Obj):Below W.heap.size W ((W.alloc o1).alloc o2)/\((W.alloc o1).alloc o2).heap[W.heap.size]? =some o1/\((W.alloc o1).alloc o2).heap[W.heap.size+1]? =some o2:=by
 have s1:(W.alloc o1).heap.size=W.heap.size+1:=by simp
 refine ⟨((Below.refl _ _).alloc (Nat.le_refl _) _).alloc (by omega) _,?_,?_⟩
 . rw [Below.heap_alloc _ _ _ (by omega)]
   exact heap_alloc_new W o1
 . have:=heap_alloc_new (W.alloc o1) o2
   rwa [s1] at this
theorem free8 {w:World} {b:Nat} {C:Array Value} {U:TypeId} (h:w.heap[b]? =some (.cells C U (0,0))) (i:Nat):w.frozen? ⟨b,i,none⟩=false:=by
 simp [World.frozen?,h]
def set8 (w:World) (b:Nat) (v0 v1 v2 v3 v4 v5 v6 v7:Value):World:=(((((((w.setCell ⟨b,0,none⟩ v0).setCell ⟨b,1,none⟩ v1).setCell ⟨b,2,none⟩ v2).setCell ⟨b,3,none⟩ v3).setCell ⟨b,4,none⟩ v4).setCell ⟨b,5,none⟩ v5).setCell ⟨b,6,none⟩ v6).setCell ⟨b,7,none⟩ v7
theorem set8_at {w:World} {b:Nat} {u0 u1 u2 u3 u4 u5 u6 u7:Value} {U:TypeId} (h:w.heap[b]? =some (.cells #[u0,u1,u2,u3,u4,u5,u6,u7] U (0,0))) (v0 v1 v2 v3 v4 v5 v6 v7:Value):(set8 w b v0 v1 v2 v3 v4 v5 v6 v7).heap[b]? =some (.cells #[v0,v1,v2,v3,v4,v5,v6,v7] U (0,0)):=by
 unfold set8
 simp [World.setCell,Array.getElem?_modify,h]
theorem set8_below {B b:Nat} {a w:World} (h:Below B a w) (hb:B<=b) (v0 v1 v2 v3 v4 v5 v6 v7:Value):Below B a (set8 w b v0 v1 v2 v3 v4 v5 v6 v7):=
 (((((((h.setCell hb v0).setCell hb v1).setCell hb v2).setCell hb v3).setCell hb v4).setCell hb v5).setCell hb v6).setCell hb v7
theorem pivotSlot_any (b y fr fa bu le ke va:Int) (W:World) (h:Shape fa bu le ke va):Calls Tryz.prog 166 #[.agg #[.int .i64 b, .int .i64 y, .int .i64 fr, .int .i64 fa, .int .i64 bu, .int .i64 le, .int .i64 ke, .int .i64 va]] W fun e w'=>e= .returned (.int .i64 (1+ke))/\Below W.heap.size W w':=by
 obtain ⟨⟨h1,h1'⟩,⟨h2,h2'⟩,⟨h3,h3'⟩,⟨h4,h4'⟩,h5,h5'⟩:=h
 go_enter Tryz.func166,Tryz.ntmps166
 go_upto_region 1 with fail
 have hx:=heap_alloc_new W (.cells #[.int .i64 b, .int .i64 y, .int .i64 fr, .int .i64 fa, .int .i64 bu, .int .i64 le, .int .i64 ke, .int .i64 va] 23)
 have hb1:Below W.heap.size W (W.alloc (.cells #[.int .i64 b, .int .i64 y, .int .i64 fr, .int .i64 fa, .int .i64 bu, .int .i64 le, .int .i64 ke, .int .i64 va] 23)):=(Below.refl _ _).alloc (Nat.le_refl _) _
 obtain ⟨g,hg⟩:∃g,g=W.heap.size:=⟨_,rfl⟩
 generalize W.alloc (.cells #[.int .i64 b, .int .i64 y, .int .i64 fr, .int .i64 fa, .int .i64 bu, .int .i64 le, .int .i64 ke, .int .i64 va] 23)=w1 at*
 rw [<-hg] at hx ⊢
 have HX:=Lib.hid hx
 have HB:=Lib.hid hb1
 obtain ⟨c0,c1,c2,c3,c4,c5,c6,c7⟩:=box8 hx
 clear hx hb1 hg
 go_wp2
 go_ret
 exact ⟨rfl,HB.out⟩
theorem messageSlot_any (b y fr fa bu le ke va:Int) (W:World) (h:Shape fa bu le ke va):Calls Tryz.prog 167 #[.agg #[.int .i64 b, .int .i64 y, .int .i64 fr, .int .i64 fa, .int .i64 bu, .int .i64 le, .int .i64 ke, .int .i64 va]] W fun e w'=>e= .returned (.int .i64 (4+ke+va))/\Below W.heap.size W w':=by
 obtain ⟨⟨h1,h1'⟩,⟨h2,h2'⟩,⟨h3,h3'⟩,⟨h4,h4'⟩,h5,h5'⟩:=h
 go_enter Tryz.func167,Tryz.ntmps167
 go_upto_region 1 with fail
 have hx:=heap_alloc_new W (.cells #[.int .i64 b, .int .i64 y, .int .i64 fr, .int .i64 fa, .int .i64 bu, .int .i64 le, .int .i64 ke, .int .i64 va] 23)
 have hb1:Below W.heap.size W (W.alloc (.cells #[.int .i64 b, .int .i64 y, .int .i64 fr, .int .i64 fa, .int .i64 bu, .int .i64 le, .int .i64 ke, .int .i64 va] 23)):=(Below.refl _ _).alloc (Nat.le_refl _) _
 obtain ⟨g,hg⟩:∃g,g=W.heap.size:=⟨_,rfl⟩
 generalize W.alloc (.cells #[.int .i64 b, .int .i64 y, .int .i64 fr, .int .i64 fa, .int .i64 bu, .int .i64 le, .int .i64 ke, .int .i64 va] 23)=w1 at*
 rw [<-hg] at hx ⊢
 have HX:=Lib.hid hx
 have HB:=Lib.hid hb1
 obtain ⟨c0,c1,c2,c3,c4,c5,c6,c7⟩:=box8 hx
 clear hx hb1 hg
 go_wp2
 go_ret
 exact ⟨rfl,HB.out⟩
theorem pairSlot_any (b y fr fa bu le ke va:Int) (W:World) (h:Shape fa bu le ke va):Calls Tryz.prog 168 #[.agg #[.int .i64 b, .int .i64 y, .int .i64 fr, .int .i64 fa, .int .i64 bu, .int .i64 le, .int .i64 ke, .int .i64 va]] W fun e w'=>e= .returned (.int .i64 (3+ke+va))/\Below W.heap.size W w':=by
 obtain ⟨⟨h1,h1'⟩,⟨h2,h2'⟩,⟨h3,h3'⟩,⟨h4,h4'⟩,h5,h5'⟩:=h
 go_enter Tryz.func168,Tryz.ntmps168
 go_upto_region 1 with fail
 have hx:=heap_alloc_new W (.cells #[.int .i64 b, .int .i64 y, .int .i64 fr, .int .i64 fa, .int .i64 bu, .int .i64 le, .int .i64 ke, .int .i64 va] 23)
 have hb1:Below W.heap.size W (W.alloc (.cells #[.int .i64 b, .int .i64 y, .int .i64 fr, .int .i64 fa, .int .i64 bu, .int .i64 le, .int .i64 ke, .int .i64 va] 23)):=(Below.refl _ _).alloc (Nat.le_refl _) _
 obtain ⟨g,hg⟩:∃g,g=W.heap.size:=⟨_,rfl⟩
 generalize W.alloc (.cells #[.int .i64 b, .int .i64 y, .int .i64 fr, .int .i64 fa, .int .i64 bu, .int .i64 le, .int .i64 ke, .int .i64 va] 23)=w1 at*
 rw [<-hg] at hx ⊢
 have HX:=Lib.hid hx
 have HB:=Lib.hid hb1
 obtain ⟨c0,c1,c2,c3,c4,c5,c6,c7⟩:=box8 hx
 clear hx hb1 hg
 go_wp2
 go_ret
 exact ⟨rfl,HB.out⟩
theorem Inner_yes (b y fr fa bu le ke va:Int) (W:World) (h:Shape fa bu le ke va):Calls Tryz.prog 134 #[.agg #[.int .i64 b, .int .i64 y, .int .i64 fr, .int .i64 fa, .int .i64 bu, .int .i64 le, .int .i64 ke, .int .i64 va]] W fun e w'=>e= .returned (.int .i64 (inn fa bu ke va))/\Below W.heap.size W w':=by
 have cS:=fun W=>Lib.hid (isShaped_yes b y fr fa bu le ke va W h)
 have cP:=fun W=>Lib.hid (pivotSlot_any b y fr fa bu le ke va W h)
 have cM:=fun W=>Lib.hid (messageSlot_any b y fr fa bu le ke va W h)
 obtain ⟨⟨h1,h1'⟩,⟨h2,h2'⟩,⟨h3,h3'⟩,⟨h4,h4'⟩,h5,h5'⟩:=h
 obtain ⟨p0,p1⟩:=mul_in (a:=fa-1) (c:=1+ke) (A:=63) (C:=65) (by omega) (by omega) (by omega) (by omega)
 obtain ⟨s0,s1⟩:=mul_in (a:=bu) (c:=4+ke+va) (A:=512) (C:=324) (by omega) (by omega) (by omega) (by omega)
 have HI:Hid (inn fa bu ke va=8+4*fa+(fa-1)*(1+ke)+bu*(4+ke+va)):=rfl
 obtain ⟨P,hP⟩:∃P,P=(fa-1)*(1+ke):=⟨_,rfl⟩
 obtain ⟨Q,hQ⟩:∃Q,Q=bu*(4+ke+va):=⟨_,rfl⟩
 rw [<-hP] at p0 p1 HI
 rw [<-hQ] at s0 s1 HI
 have hwP:IntKind.i64.wrap ((fa-1)*(1+ke))=P:=by rw [<-hP,IntKind.wrap_i64];omega
 have hwQ:IntKind.i64.wrap (bu*(4+ke+va))=Q:=by rw [<-hQ,IntKind.wrap_i64];omega
 have hw1:IntKind.i64.wrap (fa-1)=fa-1:=by rw [IntKind.wrap_i64];omega
 clear hP hQ
 go_enter Tryz.func134,Tryz.ntmps134
 go_upto_region 1 with fail
 have hx:=heap_alloc_new W (.cells #[.int .i64 b, .int .i64 y, .int .i64 fr, .int .i64 fa, .int .i64 bu, .int .i64 le, .int .i64 ke, .int .i64 va] 23)
 have hb1:Below W.heap.size W (W.alloc (.cells #[.int .i64 b, .int .i64 y, .int .i64 fr, .int .i64 fa, .int .i64 bu, .int .i64 le, .int .i64 ke, .int .i64 va] 23)):=(Below.refl _ _).alloc (Nat.le_refl _) _
 obtain ⟨g,hg⟩:∃g,g=W.heap.size:=⟨_,rfl⟩
 generalize W.alloc (.cells #[.int .i64 b, .int .i64 y, .int .i64 fr, .int .i64 fa, .int .i64 bu, .int .i64 le, .int .i64 ke, .int .i64 va] 23)=w1 at*
 rw [<-hg] at hx ⊢
 have HX:=Lib.hid hx
 have HB:=Lib.hid hb1
 obtain ⟨c0,c1,c2,c3,c4,c5,c6,c7⟩:=box8 hx
 clear hx hb1 hg
 go_upto_region 3 with (go_at_call 97;refine (cS _).out.mono ?_;rintro e w2 ⟨rfl,hb⟩;replace HX:=Lib.hid (kept8 HX.out hb);replace HB:=Lib.hid (bel2 HB.out hb);clear hb)
 clear c0 c1 c2 c3 c4 c5 c6 c7 cS
 obtain ⟨c0,c1,c2,c3,c4,c5,c6,c7⟩:=box8 HX.out
 go_upto_region 4 with fail
 have z0:=fun q:Drift.Tide [] w2 []=>Drift.Tide.cell c0 (by simp) q
 have z1:=fun q:Drift.Tide [] w2 []=>Drift.Tide.cell c1 (by simp) q
 have z2:=fun q:Drift.Tide [] w2 []=>Drift.Tide.cell c2 (by simp) q
 have z3:=fun q:Drift.Tide [] w2 []=>Drift.Tide.cell c3 (by simp) q
 have z4:=fun q:Drift.Tide [] w2 []=>Drift.Tide.cell c4 (by simp) q
 have z5:=fun q:Drift.Tide [] w2 []=>Drift.Tide.cell c5 (by simp) q
 have z6:=fun q:Drift.Tide [] w2 []=>Drift.Tide.cell c6 (by simp) q
 have z7:=fun q:Drift.Tide [] w2 []=>Drift.Tide.cell c7 (by simp) q
 clear c0 c1 c2 c3 c4 c5 c6 c7
 refine Drift.wp_region_drift [] [(0,[]),(1,[]),(2,[]),(3,[]),(4,[]),(5,[]),(6,[])] [] [] (by kernel_rfl) (by kernel_rfl) (by simp) ?_
 simp only [Drift.pick,Drift.opsAt,List.getElem?_toArray,List.getElem?_cons_zero,List.getElem?_cons_succ,List.cons_append,List.nil_append,List.filterMap_nil]
 repeat (refine Drift.walk_step (fun K hK=>?_);go_simp;first|(refine hK _ ?_;clear hK K)|(apply Exists.intro;refine ⟨fun q=>?_,hK _ ?_⟩;(first|(go_at_call 166;exact (cP _).out));clear hK K))
 refine Drift.walk_nil ?_
 intro w3 hb _
 replace HX:=Lib.hid (kept8 HX.out hb)
 replace HB:=Lib.hid (bel2 HB.out hb)
 clear hb z0 z1 z2 z3 z4 z5 z6 z7 cP hwP hw1
 simp only [List.length_cons,List.length_nil,List.drop_succ_cons,List.drop_nil,Nat.zero_add,Nat.reduceAdd]
 obtain ⟨c0,c1,c2,c3,c4,c5,c6,c7⟩:=box8 HX.out
 go_upto_region 5 with fail
 have z0:=fun q:Drift.Tide [] w3 []=>Drift.Tide.cell c0 (by simp) q
 have z1:=fun q:Drift.Tide [] w3 []=>Drift.Tide.cell c1 (by simp) q
 have z2:=fun q:Drift.Tide [] w3 []=>Drift.Tide.cell c2 (by simp) q
 have z3:=fun q:Drift.Tide [] w3 []=>Drift.Tide.cell c3 (by simp) q
 have z4:=fun q:Drift.Tide [] w3 []=>Drift.Tide.cell c4 (by simp) q
 have z5:=fun q:Drift.Tide [] w3 []=>Drift.Tide.cell c5 (by simp) q
 have z6:=fun q:Drift.Tide [] w3 []=>Drift.Tide.cell c6 (by simp) q
 have z7:=fun q:Drift.Tide [] w3 []=>Drift.Tide.cell c7 (by simp) q
 clear c0 c1 c2 c3 c4 c5 c6 c7
 refine Drift.wp_region_drift [] [(0,[]),(1,[]),(2,[]),(3,[]),(4,[]),(5,[])] [] [] (by kernel_rfl) (by kernel_rfl) (by simp) ?_
 simp only [Drift.pick,Drift.opsAt,List.getElem?_toArray,List.getElem?_cons_zero,List.getElem?_cons_succ,List.cons_append,List.nil_append,List.filterMap_nil]
 repeat (refine Drift.walk_step (fun K hK=>?_);go_simp;first|(refine hK _ ?_;clear hK K)|(apply Exists.intro;refine ⟨fun q=>?_,hK _ ?_⟩;(first|(go_at_call 167;exact (cM _).out));clear hK K))
 refine Drift.walk_nil ?_
 intro w4 hb _
 replace HX:=Lib.hid (kept8 HX.out hb)
 replace HB:=Lib.hid (bel2 HB.out hb)
 clear hb z0 z1 z2 z3 z4 z5 z6 z7 cM hwQ
 simp only [List.length_cons,List.length_nil,List.drop_succ_cons,List.drop_nil,Nat.zero_add,Nat.reduceAdd]
 go_wp2
 go_ret
 refine ⟨?_,HB.out⟩
 rw [HI.out]
 rfl
theorem Outer_yes (b y fr fa bu le ke va:Int) (W:World) (h:Shape fa bu le ke va):Calls Tryz.prog 135 #[.agg #[.int .i64 b, .int .i64 y, .int .i64 fr, .int .i64 fa, .int .i64 bu, .int .i64 le, .int .i64 ke, .int .i64 va]] W fun e w'=>e= .returned (.int .i64 (out le ke va))/\Below W.heap.size W w':=by
 have cS:=fun W=>Lib.hid (isShaped_yes b y fr fa bu le ke va W h)
 have cP:=fun W=>Lib.hid (pairSlot_any b y fr fa bu le ke va W h)
 obtain ⟨⟨h1,h1'⟩,⟨h2,h2'⟩,⟨h3,h3'⟩,⟨h4,h4'⟩,h5,h5'⟩:=h
 obtain ⟨p0,p1⟩:=mul_in (a:=le) (c:=3+ke+va) (A:=1024) (C:=323) (by omega) (by omega) (by omega) (by omega)
 have HI:Hid (out le ke va=8+le*(3+ke+va)):=rfl
 obtain ⟨P,hP⟩:∃P,P=le*(3+ke+va):=⟨_,rfl⟩
 rw [<-hP] at p0 p1 HI
 have hwP:IntKind.i64.wrap (le*(3+ke+va))=P:=by rw [<-hP,IntKind.wrap_i64];omega
 have hw8:IntKind.i64.wrap (8+P)=8+P:=by rw [IntKind.wrap_i64];omega
 clear hP
 go_enter Tryz.func135,Tryz.ntmps135
 go_upto_region 1 with fail
 have hx:=heap_alloc_new W (.cells #[.int .i64 b, .int .i64 y, .int .i64 fr, .int .i64 fa, .int .i64 bu, .int .i64 le, .int .i64 ke, .int .i64 va] 23)
 have hb1:Below W.heap.size W (W.alloc (.cells #[.int .i64 b, .int .i64 y, .int .i64 fr, .int .i64 fa, .int .i64 bu, .int .i64 le, .int .i64 ke, .int .i64 va] 23)):=(Below.refl _ _).alloc (Nat.le_refl _) _
 obtain ⟨g,hg⟩:∃g,g=W.heap.size:=⟨_,rfl⟩
 generalize W.alloc (.cells #[.int .i64 b, .int .i64 y, .int .i64 fr, .int .i64 fa, .int .i64 bu, .int .i64 le, .int .i64 ke, .int .i64 va] 23)=w1 at*
 rw [<-hg] at hx ⊢
 have HX:=Lib.hid hx
 have HB:=Lib.hid hb1
 obtain ⟨c0,c1,c2,c3,c4,c5,c6,c7⟩:=box8 hx
 clear hx hb1 hg
 go_upto_region 3 with (go_at_call 97;refine (cS _).out.mono ?_;rintro e w2 ⟨rfl,hb⟩;replace HX:=Lib.hid (kept8 HX.out hb);replace HB:=Lib.hid (bel2 HB.out hb);clear hb)
 clear c0 c1 c2 c3 c4 c5 c6 c7 cS
 obtain ⟨c0,c1,c2,c3,c4,c5,c6,c7⟩:=box8 HX.out
 have z0:=fun q:Drift.Tide [] w2 []=>Drift.Tide.cell c0 (by simp) q
 have z1:=fun q:Drift.Tide [] w2 []=>Drift.Tide.cell c1 (by simp) q
 have z2:=fun q:Drift.Tide [] w2 []=>Drift.Tide.cell c2 (by simp) q
 have z3:=fun q:Drift.Tide [] w2 []=>Drift.Tide.cell c3 (by simp) q
 have z4:=fun q:Drift.Tide [] w2 []=>Drift.Tide.cell c4 (by simp) q
 have z5:=fun q:Drift.Tide [] w2 []=>Drift.Tide.cell c5 (by simp) q
 have z6:=fun q:Drift.Tide [] w2 []=>Drift.Tide.cell c6 (by simp) q
 have z7:=fun q:Drift.Tide [] w2 []=>Drift.Tide.cell c7 (by simp) q
 clear c0 c1 c2 c3 c4 c5 c6 c7
 refine Drift.wp_region_drift [] [(0,[]),(1,[]),(2,[]),(3,[]),(4,[]),(5,[]),(6,[])] [] [] (by kernel_rfl) (by kernel_rfl) (by simp) ?_
 simp only [Drift.pick,Drift.opsAt,List.getElem?_toArray,List.getElem?_cons_zero,List.getElem?_cons_succ,List.cons_append,List.nil_append,List.filterMap_nil]
 repeat (refine Drift.walk_step (fun K hK=>?_);go_simp;first|(refine hK _ ?_;clear hK K)|(apply Exists.intro;refine ⟨fun q=>?_,hK _ ?_⟩;(first|(go_at_call 168;exact (cP _).out));clear hK K))
 refine Drift.walk_nil ?_
 intro w3 hb _
 replace HX:=Lib.hid (kept8 HX.out hb)
 replace HB:=Lib.hid (bel2 HB.out hb)
 clear hb z0 z1 z2 z3 z4 z5 z6 z7 cP hwP
 simp only [List.length_cons,List.length_nil,List.drop_succ_cons,List.drop_nil,Nat.zero_add,Nat.reduceAdd]
 go_wp2
 go_ret
 refine ⟨?_,HB.out⟩
 rw [HI.out]
 rfl
theorem Least_yes (b y fr fa bu le ke va:Int) (W:World) (h:Shape fa bu le ke va):Calls Tryz.prog 99 #[.agg #[.int .i64 b, .int .i64 y, .int .i64 fr, .int .i64 fa, .int .i64 bu, .int .i64 le, .int .i64 ke, .int .i64 va]] W fun e w'=>e= .returned (.agg #[.int .i64 b, .int .i64 (few fa bu le ke va), .int .i64 fr, .int .i64 fa, .int .i64 bu, .int .i64 le, .int .i64 ke, .int .i64 va])/\Below W.heap.size W w':=by
 have cS:=fun W=>Lib.hid (isShaped_yes b y fr fa bu le ke va W h)
 have cI:=fun W=>Lib.hid (Inner_yes b y fr fa bu le ke va W h)
 have cO:=fun W=>Lib.hid (Outer_yes b y fr fa bu le ke va W h)
 have HFW:Hid (few fa bu le ke va=max (max 64 (inn fa bu ke va)) (out le ke va)):=rfl
 generalize inn fa bu ke va=P at*
 generalize out le ke va=Q at*
 generalize few fa bu le ke va=fw at*
 clear h
 go_enter Tryz.func99,Tryz.ntmps99
 go_upto_region 1 with fail
 obtain ⟨hb1,hx,hy⟩:=two8 W (.cells #[.int .i64 b, .int .i64 y, .int .i64 fr, .int .i64 fa, .int .i64 bu, .int .i64 le, .int .i64 ke, .int .i64 va] 23) (.cells #[.int .i64 0, .int .i64 0, .int .i64 0, .int .i64 0, .int .i64 0, .int .i64 0, .int .i64 0, .int .i64 0] 23)
 obtain ⟨g,hg⟩:∃g,g=W.heap.size:=⟨_,rfl⟩
 generalize (W.alloc (.cells #[.int .i64 b, .int .i64 y, .int .i64 fr, .int .i64 fa, .int .i64 bu, .int .i64 le, .int .i64 ke, .int .i64 va] 23)).alloc (.cells #[.int .i64 0, .int .i64 0, .int .i64 0, .int .i64 0, .int .i64 0, .int .i64 0, .int .i64 0, .int .i64 0] 23)=w1 at*
 rw [<-hg] at hx hy ⊢
 have HX:=Lib.hid hx
 have HY:=Lib.hid hy
 have HB:=Lib.hid hb1
 have HG:=Lib.hid hg
 obtain ⟨c0,c1,c2,c3,c4,c5,c6,c7⟩:=box8 hx
 clear hx hy hb1 hg
 go_upto_region 2 with (go_at_call 97;refine (cS _).out.mono ?_;rintro e w2 ⟨rfl,hb⟩;replace HX:=Lib.hid (kept8 HX.out hb);replace HY:=Lib.hid (kept8 HY.out hb);replace HB:=Lib.hid (bel2 HB.out hb);clear hb)
 clear c0 c1 c2 c3 c4 c5 c6 c7 cS
 obtain ⟨c0,c1,c2,c3,c4,c5,c6,c7⟩:=box8 HX.out
 have z0:=fun q:Drift.Tide [] w2 []=>Drift.Tide.cell c0 (by simp) q
 have z1:=fun q:Drift.Tide [] w2 []=>Drift.Tide.cell c1 (by simp) q
 have z2:=fun q:Drift.Tide [] w2 []=>Drift.Tide.cell c2 (by simp) q
 have z3:=fun q:Drift.Tide [] w2 []=>Drift.Tide.cell c3 (by simp) q
 have z4:=fun q:Drift.Tide [] w2 []=>Drift.Tide.cell c4 (by simp) q
 have z5:=fun q:Drift.Tide [] w2 []=>Drift.Tide.cell c5 (by simp) q
 have z6:=fun q:Drift.Tide [] w2 []=>Drift.Tide.cell c6 (by simp) q
 have z7:=fun q:Drift.Tide [] w2 []=>Drift.Tide.cell c7 (by simp) q
 clear c0 c1 c2 c3 c4 c5 c6 c7
 refine Drift.wp_region_drift [] [(0,[]),(1,[]),(2,[]),(3,[]),(4,[]),(5,[])] [] [] (by kernel_rfl) (by kernel_rfl) (by simp) ?_
 simp only [Drift.pick,Drift.opsAt,List.getElem?_toArray,List.getElem?_cons_zero,List.getElem?_cons_succ,List.cons_append,List.nil_append,List.filterMap_nil]
 repeat (refine Drift.walk_step (fun K hK=>?_);go_simp;first|(refine hK _ ?_;clear hK K)|(apply Exists.intro;refine ⟨fun q=>?_,hK _ ?_⟩;(first|(go_at_call 134;exact (cI _).out)|(go_at_call 135;exact (cO _).out));clear hK K))
 refine Drift.walk_nil ?_
 intro w3 hb _
 replace HX:=Lib.hid (kept8 HX.out hb)
 replace HY:=Lib.hid (kept8 HY.out hb)
 replace HB:=Lib.hid (bel2 HB.out hb)
 clear hb z0 z1 z2 z3 z4 z5 z6 z7 cI cO
 have hmx:(if (if 64<P then P else 64)<Q then Q else if 64<P then P else 64)=fw:=by
  rw [HFW.out]
  omega
 simp only [List.length_cons,List.length_nil,List.drop_succ_cons,List.drop_zero,Nat.zero_add,Nat.reduceAdd]
 rw [hmx]
 clear hmx HFW
 obtain ⟨c0,c1,c2,c3,c4,c5,c6,c7⟩:=box8 HX.out
 have k1:=free8 HX.out 1
 go_upto_region 3 with fail
 have hx4:(w3.setCell ⟨g,1,none⟩ (.int .i64 fw)).heap[g]? =some (.cells #[.int .i64 b, .int .i64 fw, .int .i64 fr, .int .i64 fa, .int .i64 bu, .int .i64 le, .int .i64 ke, .int .i64 va] 23 (0,0)):=by
  have:=HX.out
  simp [World.setCell,Array.getElem?_modify,this]
 have hy4:(w3.setCell ⟨g,1,none⟩ (.int .i64 fw)).heap[g+1]? =some (.cells #[.int .i64 0, .int .i64 0, .int .i64 0, .int .i64 0, .int .i64 0, .int .i64 0, .int .i64 0, .int .i64 0] 23 (0,0)):=(Below.heap_setCell _ _ _ _ (by simp)).trans HY.out
 have hb4:Below W.heap.size W (w3.setCell ⟨g,1,none⟩ (.int .i64 fw)):=HB.out.setCell (by have:=HG.out;show W.heap.size<=g;omega) _
 clear c0 c1 c2 c3 c4 c5 c6 c7 k1
 generalize w3.setCell ⟨g,1,none⟩ (.int .i64 fw)=w4 at*
 replace HX:=Lib.hid hx4
 replace HY:=Lib.hid hy4
 replace HB:=Lib.hid hb4
 clear hx4 hy4 hb4
 obtain ⟨c0,c1,c2,c3,c4,c5,c6,c7⟩:=box8 HX.out
 obtain ⟨d0,d1,d2,d3,d4,d5,d6,d7⟩:=box8 HY.out
 have f0:=free8 HY.out 0
 have f1:=free8 HY.out 1
 have f2:=free8 HY.out 2
 have f3:=free8 HY.out 3
 have f4:=free8 HY.out 4
 have f5:=free8 HY.out 5
 have f6:=free8 HY.out 6
 have f7:=free8 HY.out 7
 go_wp2_with fail
 have i8:=set8_below (B:=W.heap.size) (b:=g+1) HB.out (by have:=HG.out;omega) (.int .i64 b) (.int .i64 fw) (.int .i64 fr) (.int .i64 fa) (.int .i64 bu) (.int .i64 le) (.int .i64 ke) (.int .i64 va)
 have g8:=set8_at HY.out (.int .i64 b) (.int .i64 fw) (.int .i64 fr) (.int .i64 fa) (.int .i64 bu) (.int .i64 le) (.int .i64 ke) (.int .i64 va)
 unfold set8 at i8 g8
 generalize (((((((w4.setCell ⟨g+1,0,none⟩ (.int .i64 b)).setCell ⟨g+1,1,none⟩ (.int .i64 fw)).setCell ⟨g+1,2,none⟩ (.int .i64 fr)).setCell ⟨g+1,3,none⟩ (.int .i64 fa)).setCell ⟨g+1,4,none⟩ (.int .i64 bu)).setCell ⟨g+1,5,none⟩ (.int .i64 le)).setCell ⟨g+1,6,none⟩ (.int .i64 ke)).setCell ⟨g+1,7,none⟩ (.int .i64 va)=w9 at*
 obtain ⟨o0,o1,o2,o3,o4,o5,o6,o7⟩:=box8 g8
 exact bodyPost_ret (v:= .agg #[.int .i64 b, .int .i64 fw, .int .i64 fr, .int .i64 fa, .int .i64 bu, .int .i64 le, .int .i64 ke, .int .i64 va]) (by simp [results,Tryz.results99,go_sem,o0,o1,o2,o3,o4,o5,o6,o7]) rfl ⟨rfl,i8⟩
end Cf
end Go.Proofs.YtjpjjnalpdpljaaGreatDoor
