import Derived.Test.YtjpjjnalpdpljaaGreatDoorPkAK
import Derived.Test.YtjpjjnalpdpljaaGreatDoorPkAD
set_option maxHeartbeats 2000000
set_option maxRecDepth 100000
namespace Go.Proofs.YtjpjjnalpdpljaaGreatDoor
open Go.RowKit Go.WideShapes Go.ChangeShapes Go.Deep
namespace Cf
theorem few_le {fa bu le ke va y:Int}:few fa bu le ke va<=y↔64<=y/\inn fa bu ke va<=y/\out le ke va<=y:=by
 unfold few
 omega
theorem RRight_yes (b y fr fa bu le ke va:Int) (W:World) (h:Right b y fr fa bu le ke va):Calls Tryz.prog 31 #[.agg #[.int .i64 b, .int .i64 y, .int .i64 fr, .int .i64 fa, .int .i64 bu, .int .i64 le, .int .i64 ke, .int .i64 va]] W fun e w'=>e= .returned (.bool true)/\Below W.heap.size W w':=by
 obtain ⟨hs,⟨a1,a2⟩,⟨a3,a4⟩,a5,a6⟩:=h
 obtain ⟨a5,a7,a8⟩:=few_le.1 a5
 have cS:=fun W=>Lib.hid (Sized_yes b y fr fa bu le ke va W hs)
 have cI:=fun W=>Lib.hid (RInner_yes b y fr fa bu le ke va W hs)
 have cO:=fun W=>Lib.hid (ROuter_yes b y fr fa bu le ke va W hs)
 clear hs
 generalize inn fa bu ke va=P at*
 generalize out le ke va=Q at*
 go_enter Tryz.func31,Tryz.ntmps31
 go_upto_region 1 with fail
 have hx:=heap_alloc_new W (.cells #[.int .i64 b, .int .i64 y, .int .i64 fr, .int .i64 fa, .int .i64 bu, .int .i64 le, .int .i64 ke, .int .i64 va] 23)
 have hb1:Below W.heap.size W (W.alloc (.cells #[.int .i64 b, .int .i64 y, .int .i64 fr, .int .i64 fa, .int .i64 bu, .int .i64 le, .int .i64 ke, .int .i64 va] 23)):=(Below.refl _ _).alloc (Nat.le_refl _) _
 obtain ⟨g,hg⟩:∃g,g=W.heap.size:=⟨_,rfl⟩
 generalize W.alloc (.cells #[.int .i64 b, .int .i64 y, .int .i64 fr, .int .i64 fa, .int .i64 bu, .int .i64 le, .int .i64 ke, .int .i64 va] 23)=w1 at*
 rw [<-hg] at hx ⊢
 have HX:=Lib.hid hx
 have HB:=Lib.hid hb1
 obtain ⟨c0,c1,c2,c3,c4,c5,c6,c7⟩:=box8 hx
 clear hx hb1 hg
 have z0:=fun q:Drift.Tide [] w1 []=>Drift.Tide.cell c0 (by simp) q
 have z1:=fun q:Drift.Tide [] w1 []=>Drift.Tide.cell c1 (by simp) q
 have z2:=fun q:Drift.Tide [] w1 []=>Drift.Tide.cell c2 (by simp) q
 have z3:=fun q:Drift.Tide [] w1 []=>Drift.Tide.cell c3 (by simp) q
 have z4:=fun q:Drift.Tide [] w1 []=>Drift.Tide.cell c4 (by simp) q
 have z5:=fun q:Drift.Tide [] w1 []=>Drift.Tide.cell c5 (by simp) q
 have z6:=fun q:Drift.Tide [] w1 []=>Drift.Tide.cell c6 (by simp) q
 have z7:=fun q:Drift.Tide [] w1 []=>Drift.Tide.cell c7 (by simp) q
 clear c0 c1 c2 c3 c4 c5 c6 c7
 refine Drift.wp_region_drift [] [(0,[]),(1,[]),(2,[]),(3,[]),(4,[]),(5,[]),(6,[]),(7,[]),(8,[]),(9,[]),(10,[]),(11,[]),(12,[]),(13,[]),(14,[]),(15,[]),(16,[]),(17,[]),(18,[]),(19,[]),(20,[]),(21,[]),(22,[]),(23,[]),(24,[]),(25,[]),(26,[]),(27,[]),(28,[]),(29,[]),(30,[]),(31,[])] [] [] (by kernel_rfl) (by kernel_rfl) (by simp) ?_
 simp only [Drift.pick,Drift.opsAt,List.getElem?_toArray,List.getElem?_cons_zero,List.getElem?_cons_succ,List.cons_append,List.nil_append,List.filterMap_nil]
 repeat (refine Drift.walk_step (fun K hK=>?_);go_simp;first|(refine hK _ ?_;clear hK K)|(apply Exists.intro;refine ⟨fun q=>?_,hK _ ?_⟩;(first|(go_at_call 67;exact (cS _).out)|(go_at_call 69;exact (cI _).out)|(go_at_call 70;exact (cO _).out)|(go_at_call 68;exact in_yes _ _ _ _ (by omega) (by omega))|(go_at_call 68;exact in_no _ _ _ _ (by omega)));clear hK K))
 refine Drift.walk_nil ?_
 intro w2 hb _
 replace HB:=Lib.hid (bel2 HB.out hb)
 clear hb z0 z1 z2 z3 z4 z5 z6 z7 HX cS cI cO
 simp only [List.length_cons,List.length_nil,List.drop_succ_cons,List.drop_nil,Nat.zero_add,Nat.reduceAdd]
 go_wp2
 go_ret
 exact ⟨rfl,HB.out⟩
theorem RRight_no (b y fr fa bu le ke va:Int) (W:World) (h:¬Right b y fr fa bu le ke va):Calls Tryz.prog 31 #[.agg #[.int .i64 b, .int .i64 y, .int .i64 fr, .int .i64 fa, .int .i64 bu, .int .i64 le, .int .i64 ke, .int .i64 va]] W fun e w'=>e= .returned (.bool false)/\Below W.heap.size W w':=by
 by_cases hs:Shape fa bu le ke va
 case neg=>
  have cS:=fun W=>Lib.hid (Sized_no b y fr fa bu le ke va W hs)
  clear h hs
  go_enter Tryz.func31,Tryz.ntmps31
  go_upto_region 1 with fail
  have hx:=heap_alloc_new W (.cells #[.int .i64 b, .int .i64 y, .int .i64 fr, .int .i64 fa, .int .i64 bu, .int .i64 le, .int .i64 ke, .int .i64 va] 23)
  have hb1:Below W.heap.size W (W.alloc (.cells #[.int .i64 b, .int .i64 y, .int .i64 fr, .int .i64 fa, .int .i64 bu, .int .i64 le, .int .i64 ke, .int .i64 va] 23)):=(Below.refl _ _).alloc (Nat.le_refl _) _
  obtain ⟨g,hg⟩:∃g,g=W.heap.size:=⟨_,rfl⟩
  generalize W.alloc (.cells #[.int .i64 b, .int .i64 y, .int .i64 fr, .int .i64 fa, .int .i64 bu, .int .i64 le, .int .i64 ke, .int .i64 va] 23)=w1 at*
  rw [<-hg] at hx ⊢
  have HX:=Lib.hid hx
  have HB:=Lib.hid hb1
  obtain ⟨c0,c1,c2,c3,c4,c5,c6,c7⟩:=box8 hx
  clear hx hb1 hg
  have z0:=fun q:Drift.Tide [] w1 []=>Drift.Tide.cell c0 (by simp) q
  have z1:=fun q:Drift.Tide [] w1 []=>Drift.Tide.cell c1 (by simp) q
  have z2:=fun q:Drift.Tide [] w1 []=>Drift.Tide.cell c2 (by simp) q
  have z3:=fun q:Drift.Tide [] w1 []=>Drift.Tide.cell c3 (by simp) q
  have z4:=fun q:Drift.Tide [] w1 []=>Drift.Tide.cell c4 (by simp) q
  have z5:=fun q:Drift.Tide [] w1 []=>Drift.Tide.cell c5 (by simp) q
  have z6:=fun q:Drift.Tide [] w1 []=>Drift.Tide.cell c6 (by simp) q
  have z7:=fun q:Drift.Tide [] w1 []=>Drift.Tide.cell c7 (by simp) q
  clear c0 c1 c2 c3 c4 c5 c6 c7
  refine Drift.wp_region_drift [] [(0,[]),(1,[]),(2,[]),(3,[]),(4,[]),(5,[]),(6,[]),(7,[]),(8,[]),(9,[]),(10,[]),(11,[]),(12,[]),(13,[]),(14,[]),(15,[]),(16,[]),(17,[]),(18,[]),(19,[]),(20,[]),(21,[]),(22,[]),(23,[]),(24,[]),(25,[]),(26,[]),(27,[]),(28,[]),(29,[]),(30,[]),(31,[])] [] [] (by kernel_rfl) (by kernel_rfl) (by simp) ?_
  simp only [Drift.pick,Drift.opsAt,List.getElem?_toArray,List.getElem?_cons_zero,List.getElem?_cons_succ,List.cons_append,List.nil_append,List.filterMap_nil]
  repeat (refine Drift.walk_step (fun K hK=>?_);go_simp;first|(refine hK _ ?_;clear hK K)|(apply Exists.intro;refine ⟨fun q=>?_,hK _ ?_⟩;(first|(go_at_call 67;exact (cS _).out));clear hK K))
  refine Drift.walk_nil ?_
  intro w2 hb _
  replace HB:=Lib.hid (bel2 HB.out hb)
  clear hb z0 z1 z2 z3 z4 z5 z6 z7 HX cS
  simp only [List.length_cons,List.length_nil,List.drop_succ_cons,List.drop_nil,Nat.zero_add,Nat.reduceAdd]
  go_wp2
  go_ret
  exact ⟨rfl,HB.out⟩
 by_cases n1:5<=b/\b<=65536
 case neg=>
  have cS:=fun W=>Lib.hid (Sized_yes b y fr fa bu le ke va W hs)
  clear h hs
  go_enter Tryz.func31,Tryz.ntmps31
  go_upto_region 1 with fail
  have hx:=heap_alloc_new W (.cells #[.int .i64 b, .int .i64 y, .int .i64 fr, .int .i64 fa, .int .i64 bu, .int .i64 le, .int .i64 ke, .int .i64 va] 23)
  have hb1:Below W.heap.size W (W.alloc (.cells #[.int .i64 b, .int .i64 y, .int .i64 fr, .int .i64 fa, .int .i64 bu, .int .i64 le, .int .i64 ke, .int .i64 va] 23)):=(Below.refl _ _).alloc (Nat.le_refl _) _
  obtain ⟨g,hg⟩:∃g,g=W.heap.size:=⟨_,rfl⟩
  generalize W.alloc (.cells #[.int .i64 b, .int .i64 y, .int .i64 fr, .int .i64 fa, .int .i64 bu, .int .i64 le, .int .i64 ke, .int .i64 va] 23)=w1 at*
  rw [<-hg] at hx ⊢
  have HX:=Lib.hid hx
  have HB:=Lib.hid hb1
  obtain ⟨c0,c1,c2,c3,c4,c5,c6,c7⟩:=box8 hx
  clear hx hb1 hg
  have z0:=fun q:Drift.Tide [] w1 []=>Drift.Tide.cell c0 (by simp) q
  have z1:=fun q:Drift.Tide [] w1 []=>Drift.Tide.cell c1 (by simp) q
  have z2:=fun q:Drift.Tide [] w1 []=>Drift.Tide.cell c2 (by simp) q
  have z3:=fun q:Drift.Tide [] w1 []=>Drift.Tide.cell c3 (by simp) q
  have z4:=fun q:Drift.Tide [] w1 []=>Drift.Tide.cell c4 (by simp) q
  have z5:=fun q:Drift.Tide [] w1 []=>Drift.Tide.cell c5 (by simp) q
  have z6:=fun q:Drift.Tide [] w1 []=>Drift.Tide.cell c6 (by simp) q
  have z7:=fun q:Drift.Tide [] w1 []=>Drift.Tide.cell c7 (by simp) q
  clear c0 c1 c2 c3 c4 c5 c6 c7
  refine Drift.wp_region_drift [] [(0,[]),(1,[]),(2,[]),(3,[]),(4,[]),(5,[]),(6,[]),(7,[]),(8,[]),(9,[]),(10,[]),(11,[]),(12,[]),(13,[]),(14,[]),(15,[]),(16,[]),(17,[]),(18,[]),(19,[]),(20,[]),(21,[]),(22,[]),(23,[]),(24,[]),(25,[]),(26,[]),(27,[]),(28,[]),(29,[]),(30,[]),(31,[])] [] [] (by kernel_rfl) (by kernel_rfl) (by simp) ?_
  simp only [Drift.pick,Drift.opsAt,List.getElem?_toArray,List.getElem?_cons_zero,List.getElem?_cons_succ,List.cons_append,List.nil_append,List.filterMap_nil]
  repeat (refine Drift.walk_step (fun K hK=>?_);go_simp;first|(refine hK _ ?_;clear hK K)|(apply Exists.intro;refine ⟨fun q=>?_,hK _ ?_⟩;(first|(go_at_call 67;exact (cS _).out)|(go_at_call 68;exact in_yes _ _ _ _ (by omega) (by omega))|(go_at_call 68;exact in_no _ _ _ _ (by omega)));clear hK K))
  refine Drift.walk_nil ?_
  intro w2 hb _
  replace HB:=Lib.hid (bel2 HB.out hb)
  clear hb z0 z1 z2 z3 z4 z5 z6 z7 HX cS
  simp only [List.length_cons,List.length_nil,List.drop_succ_cons,List.drop_nil,Nat.zero_add,Nat.reduceAdd]
  go_wp2
  go_ret
  exact ⟨rfl,HB.out⟩
 by_cases n2:8<=fr/\fr<=64
 case neg=>
  have cS:=fun W=>Lib.hid (Sized_yes b y fr fa bu le ke va W hs)
  clear h hs
  obtain ⟨n1a,n1b⟩:=n1
  go_enter Tryz.func31,Tryz.ntmps31
  go_upto_region 1 with fail
  have hx:=heap_alloc_new W (.cells #[.int .i64 b, .int .i64 y, .int .i64 fr, .int .i64 fa, .int .i64 bu, .int .i64 le, .int .i64 ke, .int .i64 va] 23)
  have hb1:Below W.heap.size W (W.alloc (.cells #[.int .i64 b, .int .i64 y, .int .i64 fr, .int .i64 fa, .int .i64 bu, .int .i64 le, .int .i64 ke, .int .i64 va] 23)):=(Below.refl _ _).alloc (Nat.le_refl _) _
  obtain ⟨g,hg⟩:∃g,g=W.heap.size:=⟨_,rfl⟩
  generalize W.alloc (.cells #[.int .i64 b, .int .i64 y, .int .i64 fr, .int .i64 fa, .int .i64 bu, .int .i64 le, .int .i64 ke, .int .i64 va] 23)=w1 at*
  rw [<-hg] at hx ⊢
  have HX:=Lib.hid hx
  have HB:=Lib.hid hb1
  obtain ⟨c0,c1,c2,c3,c4,c5,c6,c7⟩:=box8 hx
  clear hx hb1 hg
  have z0:=fun q:Drift.Tide [] w1 []=>Drift.Tide.cell c0 (by simp) q
  have z1:=fun q:Drift.Tide [] w1 []=>Drift.Tide.cell c1 (by simp) q
  have z2:=fun q:Drift.Tide [] w1 []=>Drift.Tide.cell c2 (by simp) q
  have z3:=fun q:Drift.Tide [] w1 []=>Drift.Tide.cell c3 (by simp) q
  have z4:=fun q:Drift.Tide [] w1 []=>Drift.Tide.cell c4 (by simp) q
  have z5:=fun q:Drift.Tide [] w1 []=>Drift.Tide.cell c5 (by simp) q
  have z6:=fun q:Drift.Tide [] w1 []=>Drift.Tide.cell c6 (by simp) q
  have z7:=fun q:Drift.Tide [] w1 []=>Drift.Tide.cell c7 (by simp) q
  clear c0 c1 c2 c3 c4 c5 c6 c7
  refine Drift.wp_region_drift [] [(0,[]),(1,[]),(2,[]),(3,[]),(4,[]),(5,[]),(6,[]),(7,[]),(8,[]),(9,[]),(10,[]),(11,[]),(12,[]),(13,[]),(14,[]),(15,[]),(16,[]),(17,[]),(18,[]),(19,[]),(20,[]),(21,[]),(22,[]),(23,[]),(24,[]),(25,[]),(26,[]),(27,[]),(28,[]),(29,[]),(30,[]),(31,[])] [] [] (by kernel_rfl) (by kernel_rfl) (by simp) ?_
  simp only [Drift.pick,Drift.opsAt,List.getElem?_toArray,List.getElem?_cons_zero,List.getElem?_cons_succ,List.cons_append,List.nil_append,List.filterMap_nil]
  repeat (refine Drift.walk_step (fun K hK=>?_);go_simp;first|(refine hK _ ?_;clear hK K)|(apply Exists.intro;refine ⟨fun q=>?_,hK _ ?_⟩;(first|(go_at_call 67;exact (cS _).out)|(go_at_call 68;exact in_yes _ _ _ _ (by omega) (by omega))|(go_at_call 68;exact in_no _ _ _ _ (by omega)));clear hK K))
  refine Drift.walk_nil ?_
  intro w2 hb _
  replace HB:=Lib.hid (bel2 HB.out hb)
  clear hb z0 z1 z2 z3 z4 z5 z6 z7 HX cS
  simp only [List.length_cons,List.length_nil,List.drop_succ_cons,List.drop_nil,Nat.zero_add,Nat.reduceAdd]
  go_wp2
  go_ret
  exact ⟨rfl,HB.out⟩
 by_cases n3:64<=y/\y<=65536
 case neg=>
  have cS:=fun W=>Lib.hid (Sized_yes b y fr fa bu le ke va W hs)
  clear h hs
  obtain ⟨n1a,n1b⟩:=n1
  obtain ⟨n2a,n2b⟩:=n2
  go_enter Tryz.func31,Tryz.ntmps31
  go_upto_region 1 with fail
  have hx:=heap_alloc_new W (.cells #[.int .i64 b, .int .i64 y, .int .i64 fr, .int .i64 fa, .int .i64 bu, .int .i64 le, .int .i64 ke, .int .i64 va] 23)
  have hb1:Below W.heap.size W (W.alloc (.cells #[.int .i64 b, .int .i64 y, .int .i64 fr, .int .i64 fa, .int .i64 bu, .int .i64 le, .int .i64 ke, .int .i64 va] 23)):=(Below.refl _ _).alloc (Nat.le_refl _) _
  obtain ⟨g,hg⟩:∃g,g=W.heap.size:=⟨_,rfl⟩
  generalize W.alloc (.cells #[.int .i64 b, .int .i64 y, .int .i64 fr, .int .i64 fa, .int .i64 bu, .int .i64 le, .int .i64 ke, .int .i64 va] 23)=w1 at*
  rw [<-hg] at hx ⊢
  have HX:=Lib.hid hx
  have HB:=Lib.hid hb1
  obtain ⟨c0,c1,c2,c3,c4,c5,c6,c7⟩:=box8 hx
  clear hx hb1 hg
  have z0:=fun q:Drift.Tide [] w1 []=>Drift.Tide.cell c0 (by simp) q
  have z1:=fun q:Drift.Tide [] w1 []=>Drift.Tide.cell c1 (by simp) q
  have z2:=fun q:Drift.Tide [] w1 []=>Drift.Tide.cell c2 (by simp) q
  have z3:=fun q:Drift.Tide [] w1 []=>Drift.Tide.cell c3 (by simp) q
  have z4:=fun q:Drift.Tide [] w1 []=>Drift.Tide.cell c4 (by simp) q
  have z5:=fun q:Drift.Tide [] w1 []=>Drift.Tide.cell c5 (by simp) q
  have z6:=fun q:Drift.Tide [] w1 []=>Drift.Tide.cell c6 (by simp) q
  have z7:=fun q:Drift.Tide [] w1 []=>Drift.Tide.cell c7 (by simp) q
  clear c0 c1 c2 c3 c4 c5 c6 c7
  refine Drift.wp_region_drift [] [(0,[]),(1,[]),(2,[]),(3,[]),(4,[]),(5,[]),(6,[]),(7,[]),(8,[]),(9,[]),(10,[]),(11,[]),(12,[]),(13,[]),(14,[]),(15,[]),(16,[]),(17,[]),(18,[]),(19,[]),(20,[]),(21,[]),(22,[]),(23,[]),(24,[]),(25,[]),(26,[]),(27,[]),(28,[]),(29,[]),(30,[]),(31,[])] [] [] (by kernel_rfl) (by kernel_rfl) (by simp) ?_
  simp only [Drift.pick,Drift.opsAt,List.getElem?_toArray,List.getElem?_cons_zero,List.getElem?_cons_succ,List.cons_append,List.nil_append,List.filterMap_nil]
  repeat (refine Drift.walk_step (fun K hK=>?_);go_simp;first|(refine hK _ ?_;clear hK K)|(apply Exists.intro;refine ⟨fun q=>?_,hK _ ?_⟩;(first|(go_at_call 67;exact (cS _).out)|(go_at_call 68;exact in_yes _ _ _ _ (by omega) (by omega))|(go_at_call 68;exact in_no _ _ _ _ (by omega)));clear hK K))
  refine Drift.walk_nil ?_
  intro w2 hb _
  replace HB:=Lib.hid (bel2 HB.out hb)
  clear hb z0 z1 z2 z3 z4 z5 z6 z7 HX cS
  simp only [List.length_cons,List.length_nil,List.drop_succ_cons,List.drop_nil,Nat.zero_add,Nat.reduceAdd]
  go_wp2
  go_ret
  exact ⟨rfl,HB.out⟩
 by_cases n4:inn fa bu ke va<=y
 case neg=>
  have cS:=fun W=>Lib.hid (Sized_yes b y fr fa bu le ke va W hs)
  have cI:=fun W=>Lib.hid (RInner_yes b y fr fa bu le ke va W hs)
  have cO:=fun W=>Lib.hid (ROuter_yes b y fr fa bu le ke va W hs)
  clear hs
  generalize inn fa bu ke va=P at*
  generalize out le ke va=Q at*
  clear h
  obtain ⟨n1a,n1b⟩:=n1
  obtain ⟨n2a,n2b⟩:=n2
  obtain ⟨n3a,n3b⟩:=n3
  have n4:y<P:=by omega
  have n5:decide (P<=y)=false:=by simp;omega
  go_enter Tryz.func31,Tryz.ntmps31
  go_upto_region 1 with fail
  have hx:=heap_alloc_new W (.cells #[.int .i64 b, .int .i64 y, .int .i64 fr, .int .i64 fa, .int .i64 bu, .int .i64 le, .int .i64 ke, .int .i64 va] 23)
  have hb1:Below W.heap.size W (W.alloc (.cells #[.int .i64 b, .int .i64 y, .int .i64 fr, .int .i64 fa, .int .i64 bu, .int .i64 le, .int .i64 ke, .int .i64 va] 23)):=(Below.refl _ _).alloc (Nat.le_refl _) _
  obtain ⟨g,hg⟩:∃g,g=W.heap.size:=⟨_,rfl⟩
  generalize W.alloc (.cells #[.int .i64 b, .int .i64 y, .int .i64 fr, .int .i64 fa, .int .i64 bu, .int .i64 le, .int .i64 ke, .int .i64 va] 23)=w1 at*
  rw [<-hg] at hx ⊢
  have HX:=Lib.hid hx
  have HB:=Lib.hid hb1
  obtain ⟨c0,c1,c2,c3,c4,c5,c6,c7⟩:=box8 hx
  clear hx hb1 hg
  have z0:=fun q:Drift.Tide [] w1 []=>Drift.Tide.cell c0 (by simp) q
  have z1:=fun q:Drift.Tide [] w1 []=>Drift.Tide.cell c1 (by simp) q
  have z2:=fun q:Drift.Tide [] w1 []=>Drift.Tide.cell c2 (by simp) q
  have z3:=fun q:Drift.Tide [] w1 []=>Drift.Tide.cell c3 (by simp) q
  have z4:=fun q:Drift.Tide [] w1 []=>Drift.Tide.cell c4 (by simp) q
  have z5:=fun q:Drift.Tide [] w1 []=>Drift.Tide.cell c5 (by simp) q
  have z6:=fun q:Drift.Tide [] w1 []=>Drift.Tide.cell c6 (by simp) q
  have z7:=fun q:Drift.Tide [] w1 []=>Drift.Tide.cell c7 (by simp) q
  clear c0 c1 c2 c3 c4 c5 c6 c7
  refine Drift.wp_region_drift [] [(0,[]),(1,[]),(2,[]),(3,[]),(4,[]),(5,[]),(6,[]),(7,[]),(8,[]),(9,[]),(10,[]),(11,[]),(12,[]),(13,[]),(14,[]),(15,[]),(16,[]),(17,[]),(18,[]),(19,[]),(20,[]),(21,[]),(22,[]),(23,[]),(24,[]),(25,[]),(26,[]),(27,[]),(28,[]),(29,[]),(30,[]),(31,[])] [] [] (by kernel_rfl) (by kernel_rfl) (by simp) ?_
  simp only [Drift.pick,Drift.opsAt,List.getElem?_toArray,List.getElem?_cons_zero,List.getElem?_cons_succ,List.cons_append,List.nil_append,List.filterMap_nil]
  repeat (refine Drift.walk_step (fun K hK=>?_);go_simp;first|(refine hK _ ?_;clear hK K)|(apply Exists.intro;refine ⟨fun q=>?_,hK _ ?_⟩;(first|(go_at_call 67;exact (cS _).out)|(go_at_call 69;exact (cI _).out)|(go_at_call 70;exact (cO _).out)|(go_at_call 68;exact in_yes _ _ _ _ (by omega) (by omega))|(go_at_call 68;exact in_no _ _ _ _ (by omega)));clear hK K))
  refine Drift.walk_nil ?_
  intro w2 hb _
  replace HB:=Lib.hid (bel2 HB.out hb)
  clear hb z0 z1 z2 z3 z4 z5 z6 z7 HX cS cI cO
  simp only [List.length_cons,List.length_nil,List.drop_succ_cons,List.drop_nil,Nat.zero_add,Nat.reduceAdd]
  go_wp2
  go_ret
  exact ⟨rfl,HB.out⟩
 have n5:¬out le ke va<=y:=fun n5=>h ⟨hs,n1,n2,few_le.2 ⟨n3.1,n4,n5⟩,n3.2⟩
 clear h
 have cS:=fun W=>Lib.hid (Sized_yes b y fr fa bu le ke va W hs)
 have cI:=fun W=>Lib.hid (RInner_yes b y fr fa bu le ke va W hs)
 have cO:=fun W=>Lib.hid (ROuter_yes b y fr fa bu le ke va W hs)
 clear hs
 generalize inn fa bu ke va=P at*
 generalize out le ke va=Q at*
 obtain ⟨n1a,n1b⟩:=n1
 obtain ⟨n2a,n2b⟩:=n2
 obtain ⟨n3a,n3b⟩:=n3
 have n6:y<Q:=by omega
 have n7:decide (Q<=y)=false:=by simp;omega
 go_enter Tryz.func31,Tryz.ntmps31
 go_upto_region 1 with fail
 have hx:=heap_alloc_new W (.cells #[.int .i64 b, .int .i64 y, .int .i64 fr, .int .i64 fa, .int .i64 bu, .int .i64 le, .int .i64 ke, .int .i64 va] 23)
 have hb1:Below W.heap.size W (W.alloc (.cells #[.int .i64 b, .int .i64 y, .int .i64 fr, .int .i64 fa, .int .i64 bu, .int .i64 le, .int .i64 ke, .int .i64 va] 23)):=(Below.refl _ _).alloc (Nat.le_refl _) _
 obtain ⟨g,hg⟩:∃g,g=W.heap.size:=⟨_,rfl⟩
 generalize W.alloc (.cells #[.int .i64 b, .int .i64 y, .int .i64 fr, .int .i64 fa, .int .i64 bu, .int .i64 le, .int .i64 ke, .int .i64 va] 23)=w1 at*
 rw [<-hg] at hx ⊢
 have HX:=Lib.hid hx
 have HB:=Lib.hid hb1
 obtain ⟨c0,c1,c2,c3,c4,c5,c6,c7⟩:=box8 hx
 clear hx hb1 hg
 have z0:=fun q:Drift.Tide [] w1 []=>Drift.Tide.cell c0 (by simp) q
 have z1:=fun q:Drift.Tide [] w1 []=>Drift.Tide.cell c1 (by simp) q
 have z2:=fun q:Drift.Tide [] w1 []=>Drift.Tide.cell c2 (by simp) q
 have z3:=fun q:Drift.Tide [] w1 []=>Drift.Tide.cell c3 (by simp) q
 have z4:=fun q:Drift.Tide [] w1 []=>Drift.Tide.cell c4 (by simp) q
 have z5:=fun q:Drift.Tide [] w1 []=>Drift.Tide.cell c5 (by simp) q
 have z6:=fun q:Drift.Tide [] w1 []=>Drift.Tide.cell c6 (by simp) q
 have z7:=fun q:Drift.Tide [] w1 []=>Drift.Tide.cell c7 (by simp) q
 clear c0 c1 c2 c3 c4 c5 c6 c7
 refine Drift.wp_region_drift [] [(0,[]),(1,[]),(2,[]),(3,[]),(4,[]),(5,[]),(6,[]),(7,[]),(8,[]),(9,[]),(10,[]),(11,[]),(12,[]),(13,[]),(14,[]),(15,[]),(16,[]),(17,[]),(18,[]),(19,[]),(20,[]),(21,[]),(22,[]),(23,[]),(24,[]),(25,[]),(26,[]),(27,[]),(28,[]),(29,[]),(30,[]),(31,[])] [] [] (by kernel_rfl) (by kernel_rfl) (by simp) ?_
 simp only [Drift.pick,Drift.opsAt,List.getElem?_toArray,List.getElem?_cons_zero,List.getElem?_cons_succ,List.cons_append,List.nil_append,List.filterMap_nil]
 repeat (refine Drift.walk_step (fun K hK=>?_);go_simp;first|(refine hK _ ?_;clear hK K)|(apply Exists.intro;refine ⟨fun q=>?_,hK _ ?_⟩;(first|(go_at_call 67;exact (cS _).out)|(go_at_call 69;exact (cI _).out)|(go_at_call 70;exact (cO _).out)|(go_at_call 68;exact in_yes _ _ _ _ (by omega) (by omega))|(go_at_call 68;exact in_no _ _ _ _ (by omega)));clear hK K))
 refine Drift.walk_nil ?_
 intro w2 hb _
 replace HB:=Lib.hid (bel2 HB.out hb)
 clear hb z0 z1 z2 z3 z4 z5 z6 z7 HX cS cI cO
 simp only [List.length_cons,List.length_nil,List.drop_succ_cons,List.drop_nil,Nat.zero_add,Nat.reduceAdd]
 go_wp2
 go_ret
 exact ⟨rfl,HB.out⟩
end Cf
end Go.Proofs.YtjpjjnalpdpljaaGreatDoor
