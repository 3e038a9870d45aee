import Derived.Test.YtjpjjnalpdpljaaGreatDoorPkAK
import Derived.Test.YtjpjjnalpdpljaaGreatDoorPqConf2
import Derived.Test.YtjpjjnalpdpljaaGreatDoorPkAW
import Derived.Test.YtjpjjnalpdpljaaGreatDoorPkAS
import Derived.Test.YtjpjjnalpdpljaaGreatDoorPqDrift
set_option maxHeartbeats 2000000
set_option maxRecDepth 100000
namespace Go.Proofs.YtjpjjnalpdpljaaGreatDoor
open Go.RowKit
namespace Cf
theorem Check_yes (b y fr fa bu le ke va:Int) (W:World) (h:Right b y fr fa bu le ke va):Calls Tryz.prog 61 #[.agg #[.int .i64 b, .int .i64 y, .int .i64 fr, .int .i64 fa, .int .i64 bu, .int .i64 le, .int .i64 ke, .int .i64 va]] W fun e w'=>e= .returned (.int .i64 0)/\Below W.heap.size W w':=by
 obtain ⟨h,⟨a1,a2⟩,⟨a3,a4⟩,a5,a6⟩:=h
 have cS:=fun W=>Lib.hid (isShaped_yes b y fr fa bu le ke va W h)
 have cL:=fun W=>Lib.hid (Least_yes b y fr fa bu le ke va W h)
 clear h
 generalize few fa bu le ke va=fw at*
 have hfd:∀w:World,(Instr.field 23 (.agg #[.int .i64 b, .int .i64 fw, .int .i64 fr, .int .i64 fa, .int .i64 bu, .int .i64 le, .int .i64 ke, .int .i64 va]) 1).run Tryz.prog w= .ok (.int .i64 fw) w:=fun _=>by kernel_rfl
 go_enter Tryz.func61,Tryz.ntmps61
 go_upto_region 1 with fail
 have hx:=heap_alloc_new W (.cells #[.int .i64 b, .int .i64 y, .int .i64 fr, .int .i64 fa, .int .i64 bu, .int .i64 le, .int .i64 ke, .int .i64 va] 23)
 have hb1:Below W.heap.size W (W.alloc (.cells #[.int .i64 b, .int .i64 y, .int .i64 fr, .int .i64 fa, .int .i64 bu, .int .i64 le, .int .i64 ke, .int .i64 va] 23)):=(Below.refl _ _).alloc (Nat.le_refl _) _
 obtain ⟨g,hg⟩:∃g,g=W.heap.size:=⟨_,rfl⟩
 generalize W.alloc (.cells #[.int .i64 b, .int .i64 y, .int .i64 fr, .int .i64 fa, .int .i64 bu, .int .i64 le, .int .i64 ke, .int .i64 va] 23)=w1 at*
 rw [<-hg] at hx ⊢
 have HX:=Lib.hid hx
 have HB:=Lib.hid hb1
 obtain ⟨c0,c1,c2,c3,c4,c5,c6,c7⟩:=box8 hx
 clear hx hb1 hg
 have z0:=fun q:Drift.Tide [] w1 []=>Drift.Tide.cell c0 (by simp) q
 have z1:=fun q:Drift.Tide [] w1 []=>Drift.Tide.cell c1 (by simp) q
 have z2:=fun q:Drift.Tide [] w1 []=>Drift.Tide.cell c2 (by simp) q
 have z3:=fun q:Drift.Tide [] w1 []=>Drift.Tide.cell c3 (by simp) q
 have z4:=fun q:Drift.Tide [] w1 []=>Drift.Tide.cell c4 (by simp) q
 have z5:=fun q:Drift.Tide [] w1 []=>Drift.Tide.cell c5 (by simp) q
 have z6:=fun q:Drift.Tide [] w1 []=>Drift.Tide.cell c6 (by simp) q
 have z7:=fun q:Drift.Tide [] w1 []=>Drift.Tide.cell c7 (by simp) q
 clear c0 c1 c2 c3 c4 c5 c6 c7
 refine Drift.wp_region_drift [] [(0,[]),(1,[]),(2,[]),(3,[]),(4,[]),(5,[]),(6,[]),(7,[]),(8,[]),(9,[]),(10,[]),(11,[]),(12,[]),(13,[]),(14,[]),(15,[]),(16,[]),(17,[]),(18,[]),(19,[])] [] [] (by kernel_rfl) (by kernel_rfl) (by simp) ?_
 simp only [Drift.pick,Drift.opsAt,List.getElem?_toArray,List.getElem?_cons_zero,List.getElem?_cons_succ,List.cons_append,List.nil_append,List.filterMap_nil]
 repeat (refine Drift.walk_step (fun K hK=>?_);go_simp;first|(refine hK _ ?_;clear hK K)|(apply Exists.intro;refine ⟨fun q=>?_,hK _ ?_⟩;(first|(go_at_call 97;exact (cS _).out)|(go_at_call 99;exact (cL _).out)|(go_at_call 98;exact between_yes _ _ _ _ (by omega) (by omega))|(go_at_call 98;exact between_no _ _ _ _ (by omega)));clear hK K))
 refine Drift.walk_nil ?_
 intro w2 hb _
 replace HB:=Lib.hid (bel2 HB.out hb)
 clear hb z0 z1 z2 z3 z4 z5 z6 z7 HX cS cL hfd
 simp only [List.length_cons,List.length_nil,List.drop_succ_cons,List.drop_nil,Nat.zero_add,Nat.reduceAdd]
 go_wp2
 go_ret
 exact ⟨rfl,HB.out⟩
theorem Check_no (b y fr fa bu le ke va:Int) (W:World) (h:¬Right b y fr fa bu le ke va):Calls Tryz.prog 61 #[.agg #[.int .i64 b, .int .i64 y, .int .i64 fr, .int .i64 fa, .int .i64 bu, .int .i64 le, .int .i64 ke, .int .i64 va]] W fun e w'=>e= .returned (.int .i64 2)/\Below W.heap.size W w':=by
 by_cases hs:Shape fa bu le ke va
 case neg=>
  have cS:=fun W=>Lib.hid (isShaped_no b y fr fa bu le ke va W hs)
  clear h hs
  go_enter Tryz.func61,Tryz.ntmps61
  go_upto_region 1 with fail
  have hx:=heap_alloc_new W (.cells #[.int .i64 b, .int .i64 y, .int .i64 fr, .int .i64 fa, .int .i64 bu, .int .i64 le, .int .i64 ke, .int .i64 va] 23)
  have hb1:Below W.heap.size W (W.alloc (.cells #[.int .i64 b, .int .i64 y, .int .i64 fr, .int .i64 fa, .int .i64 bu, .int .i64 le, .int .i64 ke, .int .i64 va] 23)):=(Below.refl _ _).alloc (Nat.le_refl _) _
  obtain ⟨g,hg⟩:∃g,g=W.heap.size:=⟨_,rfl⟩
  generalize W.alloc (.cells #[.int .i64 b, .int .i64 y, .int .i64 fr, .int .i64 fa, .int .i64 bu, .int .i64 le, .int .i64 ke, .int .i64 va] 23)=w1 at*
  rw [<-hg] at hx ⊢
  have HX:=Lib.hid hx
  have HB:=Lib.hid hb1
  obtain ⟨c0,c1,c2,c3,c4,c5,c6,c7⟩:=box8 hx
  clear hx hb1 hg
  have z0:=fun q:Drift.Tide [] w1 []=>Drift.Tide.cell c0 (by simp) q
  have z1:=fun q:Drift.Tide [] w1 []=>Drift.Tide.cell c1 (by simp) q
  have z2:=fun q:Drift.Tide [] w1 []=>Drift.Tide.cell c2 (by simp) q
  have z3:=fun q:Drift.Tide [] w1 []=>Drift.Tide.cell c3 (by simp) q
  have z4:=fun q:Drift.Tide [] w1 []=>Drift.Tide.cell c4 (by simp) q
  have z5:=fun q:Drift.Tide [] w1 []=>Drift.Tide.cell c5 (by simp) q
  have z6:=fun q:Drift.Tide [] w1 []=>Drift.Tide.cell c6 (by simp) q
  have z7:=fun q:Drift.Tide [] w1 []=>Drift.Tide.cell c7 (by simp) q
  clear c0 c1 c2 c3 c4 c5 c6 c7
  refine Drift.wp_region_drift [] [(0,[]),(1,[]),(2,[]),(3,[]),(4,[]),(5,[]),(6,[]),(7,[]),(8,[]),(9,[]),(10,[]),(11,[]),(12,[]),(13,[]),(14,[]),(15,[]),(16,[]),(17,[]),(18,[]),(19,[])] [] [] (by kernel_rfl) (by kernel_rfl) (by simp) ?_
  simp only [Drift.pick,Drift.opsAt,List.getElem?_toArray,List.getElem?_cons_zero,List.getElem?_cons_succ,List.cons_append,List.nil_append,List.filterMap_nil]
  repeat (refine Drift.walk_step (fun K hK=>?_);go_simp;first|(refine hK _ ?_;clear hK K)|(apply Exists.intro;refine ⟨fun q=>?_,hK _ ?_⟩;(first|(go_at_call 97;exact (cS _).out));clear hK K))
  refine Drift.walk_nil ?_
  intro w2 hb _
  replace HB:=Lib.hid (bel2 HB.out hb)
  clear hb z0 z1 z2 z3 z4 z5 z6 z7 HX cS
  simp only [List.length_cons,List.length_nil,List.drop_succ_cons,List.drop_nil,Nat.zero_add,Nat.reduceAdd]
  go_wp2
  go_ret
  exact ⟨rfl,HB.out⟩
 by_cases n1:5<=b/\b<=65536
 case neg=>
  have cS:=fun W=>Lib.hid (isShaped_yes b y fr fa bu le ke va W hs)
  clear h hs
  go_enter Tryz.func61,Tryz.ntmps61
  go_upto_region 1 with fail
  have hx:=heap_alloc_new W (.cells #[.int .i64 b, .int .i64 y, .int .i64 fr, .int .i64 fa, .int .i64 bu, .int .i64 le, .int .i64 ke, .int .i64 va] 23)
  have hb1:Below W.heap.size W (W.alloc (.cells #[.int .i64 b, .int .i64 y, .int .i64 fr, .int .i64 fa, .int .i64 bu, .int .i64 le, .int .i64 ke, .int .i64 va] 23)):=(Below.refl _ _).alloc (Nat.le_refl _) _
  obtain ⟨g,hg⟩:∃g,g=W.heap.size:=⟨_,rfl⟩
  generalize W.alloc (.cells #[.int .i64 b, .int .i64 y, .int .i64 fr, .int .i64 fa, .int .i64 bu, .int .i64 le, .int .i64 ke, .int .i64 va] 23)=w1 at*
  rw [<-hg] at hx ⊢
  have HX:=Lib.hid hx
  have HB:=Lib.hid hb1
  obtain ⟨c0,c1,c2,c3,c4,c5,c6,c7⟩:=box8 hx
  clear hx hb1 hg
  have z0:=fun q:Drift.Tide [] w1 []=>Drift.Tide.cell c0 (by simp) q
  have z1:=fun q:Drift.Tide [] w1 []=>Drift.Tide.cell c1 (by simp) q
  have z2:=fun q:Drift.Tide [] w1 []=>Drift.Tide.cell c2 (by simp) q
  have z3:=fun q:Drift.Tide [] w1 []=>Drift.Tide.cell c3 (by simp) q
  have z4:=fun q:Drift.Tide [] w1 []=>Drift.Tide.cell c4 (by simp) q
  have z5:=fun q:Drift.Tide [] w1 []=>Drift.Tide.cell c5 (by simp) q
  have z6:=fun q:Drift.Tide [] w1 []=>Drift.Tide.cell c6 (by simp) q
  have z7:=fun q:Drift.Tide [] w1 []=>Drift.Tide.cell c7 (by simp) q
  clear c0 c1 c2 c3 c4 c5 c6 c7
  refine Drift.wp_region_drift [] [(0,[]),(1,[]),(2,[]),(3,[]),(4,[]),(5,[]),(6,[]),(7,[]),(8,[]),(9,[]),(10,[]),(11,[]),(12,[]),(13,[]),(14,[]),(15,[]),(16,[]),(17,[]),(18,[]),(19,[])] [] [] (by kernel_rfl) (by kernel_rfl) (by simp) ?_
  simp only [Drift.pick,Drift.opsAt,List.getElem?_toArray,List.getElem?_cons_zero,List.getElem?_cons_succ,List.cons_append,List.nil_append,List.filterMap_nil]
  repeat (refine Drift.walk_step (fun K hK=>?_);go_simp;first|(refine hK _ ?_;clear hK K)|(apply Exists.intro;refine ⟨fun q=>?_,hK _ ?_⟩;(first|(go_at_call 97;exact (cS _).out)|(go_at_call 98;exact between_yes _ _ _ _ (by omega) (by omega))|(go_at_call 98;exact between_no _ _ _ _ (by omega)));clear hK K))
  refine Drift.walk_nil ?_
  intro w2 hb _
  replace HB:=Lib.hid (bel2 HB.out hb)
  clear hb z0 z1 z2 z3 z4 z5 z6 z7 HX cS
  simp only [List.length_cons,List.length_nil,List.drop_succ_cons,List.drop_nil,Nat.zero_add,Nat.reduceAdd]
  go_wp2
  go_ret
  exact ⟨rfl,HB.out⟩
 by_cases n2:8<=fr/\fr<=64
 case neg=>
  have cS:=fun W=>Lib.hid (isShaped_yes b y fr fa bu le ke va W hs)
  obtain ⟨a1,a2⟩:=n1
  clear h hs
  go_enter Tryz.func61,Tryz.ntmps61
  go_upto_region 1 with fail
  have hx:=heap_alloc_new W (.cells #[.int .i64 b, .int .i64 y, .int .i64 fr, .int .i64 fa, .int .i64 bu, .int .i64 le, .int .i64 ke, .int .i64 va] 23)
  have hb1:Below W.heap.size W (W.alloc (.cells #[.int .i64 b, .int .i64 y, .int .i64 fr, .int .i64 fa, .int .i64 bu, .int .i64 le, .int .i64 ke, .int .i64 va] 23)):=(Below.refl _ _).alloc (Nat.le_refl _) _
  obtain ⟨g,hg⟩:∃g,g=W.heap.size:=⟨_,rfl⟩
  generalize W.alloc (.cells #[.int .i64 b, .int .i64 y, .int .i64 fr, .int .i64 fa, .int .i64 bu, .int .i64 le, .int .i64 ke, .int .i64 va] 23)=w1 at*
  rw [<-hg] at hx ⊢
  have HX:=Lib.hid hx
  have HB:=Lib.hid hb1
  obtain ⟨c0,c1,c2,c3,c4,c5,c6,c7⟩:=box8 hx
  clear hx hb1 hg
  have z0:=fun q:Drift.Tide [] w1 []=>Drift.Tide.cell c0 (by simp) q
  have z1:=fun q:Drift.Tide [] w1 []=>Drift.Tide.cell c1 (by simp) q
  have z2:=fun q:Drift.Tide [] w1 []=>Drift.Tide.cell c2 (by simp) q
  have z3:=fun q:Drift.Tide [] w1 []=>Drift.Tide.cell c3 (by simp) q
  have z4:=fun q:Drift.Tide [] w1 []=>Drift.Tide.cell c4 (by simp) q
  have z5:=fun q:Drift.Tide [] w1 []=>Drift.Tide.cell c5 (by simp) q
  have z6:=fun q:Drift.Tide [] w1 []=>Drift.Tide.cell c6 (by simp) q
  have z7:=fun q:Drift.Tide [] w1 []=>Drift.Tide.cell c7 (by simp) q
  clear c0 c1 c2 c3 c4 c5 c6 c7
  refine Drift.wp_region_drift [] [(0,[]),(1,[]),(2,[]),(3,[]),(4,[]),(5,[]),(6,[]),(7,[]),(8,[]),(9,[]),(10,[]),(11,[]),(12,[]),(13,[]),(14,[]),(15,[]),(16,[]),(17,[]),(18,[]),(19,[])] [] [] (by kernel_rfl) (by kernel_rfl) (by simp) ?_
  simp only [Drift.pick,Drift.opsAt,List.getElem?_toArray,List.getElem?_cons_zero,List.getElem?_cons_succ,List.cons_append,List.nil_append,List.filterMap_nil]
  repeat (refine Drift.walk_step (fun K hK=>?_);go_simp;first|(refine hK _ ?_;clear hK K)|(apply Exists.intro;refine ⟨fun q=>?_,hK _ ?_⟩;(first|(go_at_call 97;exact (cS _).out)|(go_at_call 98;exact between_yes _ _ _ _ (by omega) (by omega))|(go_at_call 98;exact between_no _ _ _ _ (by omega)));clear hK K))
  refine Drift.walk_nil ?_
  intro w2 hb _
  replace HB:=Lib.hid (bel2 HB.out hb)
  clear hb z0 z1 z2 z3 z4 z5 z6 z7 HX cS
  simp only [List.length_cons,List.length_nil,List.drop_succ_cons,List.drop_nil,Nat.zero_add,Nat.reduceAdd]
  go_wp2
  go_ret
  exact ⟨rfl,HB.out⟩
 have n3:¬(few fa bu le ke va<=y/\y<=65536):=fun n3=>h ⟨hs,n1,n2,n3⟩
 clear h
 obtain ⟨a1,a2⟩:=n1
 obtain ⟨a3,a4⟩:=n2
 have h:=hs
 clear hs
 have cS:=fun W=>Lib.hid (isShaped_yes b y fr fa bu le ke va W h)
 have cL:=fun W=>Lib.hid (Least_yes b y fr fa bu le ke va W h)
 clear h
 generalize few fa bu le ke va=fw at*
 have hfd:∀w:World,(Instr.field 23 (.agg #[.int .i64 b, .int .i64 fw, .int .i64 fr, .int .i64 fa, .int .i64 bu, .int .i64 le, .int .i64 ke, .int .i64 va]) 1).run Tryz.prog w= .ok (.int .i64 fw) w:=fun _=>by kernel_rfl
 go_enter Tryz.func61,Tryz.ntmps61
 go_upto_region 1 with fail
 have hx:=heap_alloc_new W (.cells #[.int .i64 b, .int .i64 y, .int .i64 fr, .int .i64 fa, .int .i64 bu, .int .i64 le, .int .i64 ke, .int .i64 va] 23)
 have hb1:Below W.heap.size W (W.alloc (.cells #[.int .i64 b, .int .i64 y, .int .i64 fr, .int .i64 fa, .int .i64 bu, .int .i64 le, .int .i64 ke, .int .i64 va] 23)):=(Below.refl _ _).alloc (Nat.le_refl _) _
 obtain ⟨g,hg⟩:∃g,g=W.heap.size:=⟨_,rfl⟩
 generalize W.alloc (.cells #[.int .i64 b, .int .i64 y, .int .i64 fr, .int .i64 fa, .int .i64 bu, .int .i64 le, .int .i64 ke, .int .i64 va] 23)=w1 at*
 rw [<-hg] at hx ⊢
 have HX:=Lib.hid hx
 have HB:=Lib.hid hb1
 obtain ⟨c0,c1,c2,c3,c4,c5,c6,c7⟩:=box8 hx
 clear hx hb1 hg
 have z0:=fun q:Drift.Tide [] w1 []=>Drift.Tide.cell c0 (by simp) q
 have z1:=fun q:Drift.Tide [] w1 []=>Drift.Tide.cell c1 (by simp) q
 have z2:=fun q:Drift.Tide [] w1 []=>Drift.Tide.cell c2 (by simp) q
 have z3:=fun q:Drift.Tide [] w1 []=>Drift.Tide.cell c3 (by simp) q
 have z4:=fun q:Drift.Tide [] w1 []=>Drift.Tide.cell c4 (by simp) q
 have z5:=fun q:Drift.Tide [] w1 []=>Drift.Tide.cell c5 (by simp) q
 have z6:=fun q:Drift.Tide [] w1 []=>Drift.Tide.cell c6 (by simp) q
 have z7:=fun q:Drift.Tide [] w1 []=>Drift.Tide.cell c7 (by simp) q
 clear c0 c1 c2 c3 c4 c5 c6 c7
 refine Drift.wp_region_drift [] [(0,[]),(1,[]),(2,[]),(3,[]),(4,[]),(5,[]),(6,[]),(7,[]),(8,[]),(9,[]),(10,[]),(11,[]),(12,[]),(13,[]),(14,[]),(15,[]),(16,[]),(17,[]),(18,[]),(19,[])] [] [] (by kernel_rfl) (by kernel_rfl) (by simp) ?_
 simp only [Drift.pick,Drift.opsAt,List.getElem?_toArray,List.getElem?_cons_zero,List.getElem?_cons_succ,List.cons_append,List.nil_append,List.filterMap_nil]
 repeat (refine Drift.walk_step (fun K hK=>?_);go_simp;first|(refine hK _ ?_;clear hK K)|(apply Exists.intro;refine ⟨fun q=>?_,hK _ ?_⟩;(first|(go_at_call 97;exact (cS _).out)|(go_at_call 99;exact (cL _).out)|(go_at_call 98;exact between_yes _ _ _ _ (by omega) (by omega))|(go_at_call 98;exact between_no _ _ _ _ (by omega)));clear hK K))
 refine Drift.walk_nil ?_
 intro w2 hb _
 replace HB:=Lib.hid (bel2 HB.out hb)
 clear hb z0 z1 z2 z3 z4 z5 z6 z7 HX cS cL hfd
 simp only [List.length_cons,List.length_nil,List.drop_succ_cons,List.drop_nil,Nat.zero_add,Nat.reduceAdd]
 go_wp2
 go_ret
 exact ⟨rfl,HB.out⟩
end Cf
end Go.Proofs.YtjpjjnalpdpljaaGreatDoor
namespace Go.Proofs.YtjpjjnalpdpljaaGreatDoor
open Go.RowKit
namespace Sh
open Mem No Bt Po
open Ca (upF Few)
theorem cfg_cells {w:World} {g:Nat} {c:Cfg} (hx:BoxAt 23 w g (cfCs c)):w.cell? ⟨g,0,none⟩=some (.int .i64 c.blocks)/\w.cell? ⟨g,1,none⟩=some (.int .i64 c.bytes)/\w.cell? ⟨g,2,none⟩=some (.int .i64 c.frames):=⟨hx.cell rfl,hx.cell rfl,hx.cell rfl⟩
section
variable {W w:World} {c:Cfg}
theorem New_arg (hc:¬Cf.Right c.blocks c.bytes c.frames c.fan c.buffer c.leaf c.key c.val) (v:Value):Calls Tryz.prog 30 #[.agg (cfCs c),v] w fun e w'=>e= .returned (.tuple #[.pointer none, .int .i64 2])/\Below w.heap.size w w':=by
 have cC:∀w,Hid (Calls Tryz.prog 61 #[.agg (cfCs c)] w fun e w'=>e= .returned (.int .i64 2)/\Below w.heap.size w w'):=fun w=>Cf.Check_no c.blocks c.bytes c.frames c.fan c.buffer c.leaf c.key c.val w hc
 have hx:=BoxAt.new 23 w (cfCs c)
 have hb1:Below w.heap.size w (w.alloc (.cells (cfCs c) 23)):=(Below.refl _ _).alloc (Nat.le_refl _) _
 clear hc
 go_enter Tryz.func30,Tryz.ntmps30
 go_upto_region 1 with fail
 generalize w.alloc (.cells (cfCs c) 23)=w1 at*
 have HX:=Lib.hid hx
 have HB:=Lib.hid hb1
 clear hx hb1
 go_wp2_with (first
  |(refine wpList_load_box rfl (.tmp 2) 23 rfl cfgU w.heap.size (cfCs c) (cfgS rfl) rfl HX.out ?_)
  |(go_at_call 61;refine (cC _).out.mono ?_;rintro e w2 ⟨rfl,hb⟩;have HB2:=Lib.hid (HB.out.trans (hb.mono HB.out.size));clear hb cC))
 exact bodyPost_ret (v:= .tuple #[.pointer none, .int .i64 2]) (by simp [results,Tryz.results30,go_sem]) rfl ⟨rfl,HB2.out⟩
theorem New_nil (hc:Cf.Right c.blocks c.bytes c.frames c.fan c.buffer c.leaf c.key c.val):Calls Tryz.prog 30 #[.agg (cfCs c), .pointer none] w fun e w'=>e= .returned (.tuple #[.pointer none, .int .i64 1])/\Below w.heap.size w w':=by
 have cC:∀w,Hid (Calls Tryz.prog 61 #[.agg (cfCs c)] w fun e w'=>e= .returned (.int .i64 0)/\Below w.heap.size w w'):=fun w=>Cf.Check_yes c.blocks c.bytes c.frames c.fan c.buffer c.leaf c.key c.val w hc
 have cN:=fun w=>Lib.hid (Ca.New_nil w c.frames)
 have hx:=BoxAt.new 23 w (cfCs c)
 have hb1:Below w.heap.size w (w.alloc (.cells (cfCs c) 23)):=(Below.refl _ _).alloc (Nat.le_refl _) _
 clear hc
 go_enter Tryz.func30,Tryz.ntmps30
 go_upto_region 1 with fail
 generalize w.alloc (.cells (cfCs c) 23)=w1 at*
 have HX:=Lib.hid hx
 have HB:=Lib.hid hb1
 clear hx hb1
 go_wp2_with (first
  |(refine wpList_load_box rfl (.tmp 2) 23 rfl cfgU w.heap.size (cfCs c) (cfgS rfl) rfl HX.out ?_)
  |(go_at_call 61;refine (cC _).out.mono ?_;rintro e w2 ⟨rfl,hb⟩;have HB2:=Lib.hid (HB.out.trans (hb.mono HB.out.size));obtain ⟨-,-,d2⟩:=cfg_cells (HX.out.kept hb);clear hb cC)
  |(go_at_call 65;refine (cN _).out.mono ?_;rintro e w3 ⟨rfl,rfl⟩;clear cN d2))
 exact bodyPost_ret (v:= .tuple #[.pointer none, .int .i64 1]) (by simp [results,Tryz.results30,go_sem]) rfl ⟨rfl,HB2.out⟩
theorem New_form {S:List Nat} {g m r s:Nat} {ls:List (List UInt8)} (hc:Cf.Right c.blocks c.bytes c.frames c.fan c.buffer c.leaf c.key c.val) (hd:Dv.Dev w S g m ls r s) (hne:¬((ls.length:Int)=c.blocks/\(m:Int)=c.bytes)):Calls Tryz.prog 30 #[.agg (cfCs c), .pointer (some ⟨g,0,none⟩)] w fun e w'=>e= .returned (.tuple #[.pointer none, .int .i64 3])/\Below w.heap.size w w':=by
 have hn:1<=c.frames.toNat/\c.frames.toNat<=64/\(c.frames.toNat:Int)=c.frames:=by
  obtain ⟨-,-,h,-⟩:=hc
  omega
 have cC:∀w,Hid (Calls Tryz.prog 61 #[.agg (cfCs c)] w fun e w'=>e= .returned (.int .i64 0)/\Below w.heap.size w w'):=fun w=>Cf.Check_yes c.blocks c.bytes c.frames c.fan c.buffer c.leaf c.key c.val w hc
 have cN:∀{w},Dv.Dev w S g m ls r s->Hid (Calls Tryz.prog 65 #[.pointer (some ⟨g,0,none⟩), .int .i64 c.frames] w fun e w'=>Ca.NewC w w' S g (Ca.st0 m c.frames.toNat ls r s) e):=fun h=>by
  have:=Ca.New_in h c.frames.toNat hn.1 hn.2.1
  rw [hn.2.2] at this
  exact this
 have cB:∀{w},Dv.Dev w S g m ls r s->Hid (Calls Tryz.prog 32 #[.pointer (some ⟨g,0,none⟩)] w fun e w'=>e= .returned (.int .i64 (ls.length:Int))/\Below w.heap.size w w'):=fun h=>(Dv.Blocks_any h).mono fun e w' ⟨he,hw⟩=>⟨he,hw▸Below.refl _ _⟩
 have cY:∀{w},Dv.Dev w S g m ls r s->Hid (Calls Tryz.prog 33 #[.pointer (some ⟨g,0,none⟩)] w fun e w'=>e= .returned (.int .i64 (m:Int))/\Below w.heap.size w w'):=fun h=>(Dv.Bytes_any h).mono fun e w' ⟨he,hw⟩=>⟨he,hw▸Below.refl _ _⟩
 have hx:=BoxAt.new 23 w (cfCs c)
 have hb1:Below w.heap.size w (w.alloc (.cells (cfCs c) 23)):=(Below.refl _ _).alloc (Nat.le_refl _) _
 have hd1:=hd.kept hb1
 clear hd hc hn
 go_enter Tryz.func30,Tryz.ntmps30
 go_upto_region 1 with fail
 generalize w.alloc (.cells (cfCs c) 23)=w1 at*
 obtain ⟨a,ha⟩:∃a,a=w.heap.size:=⟨_,rfl⟩
 rw [<-ha] at hx
 simp only [<-ha]
 have HX:=Lib.hid hx
 have HB:=Lib.hid hb1
 have HD:=Lib.hid hd1
 clear hx hb1 hd1 ha
 go_upto_region 6 with (first
  |(refine wpList_load_box rfl (.tmp 2) 23 rfl cfgU a (cfCs c) (cfgS rfl) rfl HX.out ?_)
  |(go_at_call 61;refine (cC _).out.mono ?_;rintro e w2 ⟨rfl,hb⟩;replace HB:=Lib.hid (HB.out.trans (hb.mono HB.out.size));replace HX:=Lib.hid (HX.out.kept hb);replace HD:=Lib.hid (HD.out.kept hb);obtain ⟨-,-,d2⟩:=cfg_cells HX.out;clear hb cC)
  |(go_at_call 65;refine (cN HD.out).out.mono ?_;rintro e w3 ⟨k,F,rfl,hcw,hgr,hb⟩;have HC:=Lib.hid (And.intro hcw (And.intro hgr HB.out.size));replace HB:=Lib.hid (HB.out.trans (hb.mono HB.out.size));replace HX:=Lib.hid (HX.out.kept hb);replace HD:=Lib.hid (HD.out.kept hb);clear hcw hgr hb cN d2))
 obtain ⟨d0,d1,-⟩:=cfg_cells HX.out
 have t0:=fun q:Drift.Tide [] w3 []=>Drift.Tide.cell d0 (by simp) q
 have t1:=fun q:Drift.Tide [] w3 []=>Drift.Tide.cell d1 (by simp) q
 clear d0 d1
 clear HC
 generalize (ls.length:Int)=N at*
 generalize (m:Int)=M at*
 by_cases hN:N=c.blocks
 . have hM:(M==c.bytes)=false:=by simp;omega
   subst hN
   clear hne
   refine Drift.wp_region_drift [] [(0,[]),(1,[]),(2,[]),(3,[]),(4,[]),(5,[]),(6,[]),(7,[]),(8,[]),(9,[]),(10,[]),(11,[])] [] [] (by kernel_rfl) (by kernel_rfl) (by simp) ?_
   simp only [Drift.pick,Drift.opsAt,List.getElem?_toArray,List.getElem?_cons_zero,List.getElem?_cons_succ,List.cons_append,List.nil_append,List.filterMap_nil]
   repeat (refine Drift.walk_step (fun K hK=>?_);go_simp;first|(refine hK _ ?_;clear hK K)|(apply Exists.intro;refine ⟨fun q=>?_,hK _ ?_⟩;(first|(go_at_call 32;exact (cB (HD.out.kept q.into.below)).out)|(go_at_call 33;exact (cY (HD.out.kept q.into.below)).out));clear hK K))
   refine Drift.walk_nil ?_
   intro w5 hb5 _
   clear t0 t1
   have hb5:Below w3.heap.size w3 w5:=hb5
   simp only [List.length_cons,List.length_nil,List.drop_succ_cons,List.drop_zero,Nat.zero_add,Nat.reduceAdd]
   go_wp2_with fail
   exact bodyPost_ret (v:= .tuple #[.pointer none, .int .i64 3]) (by simp [results,Tryz.results30,go_sem]) rfl ⟨rfl,HB.out.trans (hb5.mono HB.out.size)⟩
 . have hN:(N==c.blocks)=false:=by simp;omega
   clear hne
   refine Drift.wp_region_drift [] [(0,[]),(1,[]),(2,[]),(3,[]),(4,[]),(5,[]),(6,[]),(7,[]),(8,[]),(9,[]),(10,[]),(11,[])] [] [] (by kernel_rfl) (by kernel_rfl) (by simp) ?_
   simp only [Drift.pick,Drift.opsAt,List.getElem?_toArray,List.getElem?_cons_zero,List.getElem?_cons_succ,List.cons_append,List.nil_append,List.filterMap_nil]
   repeat (refine Drift.walk_step (fun K hK=>?_);go_simp;first|(refine hK _ ?_;clear hK K)|(apply Exists.intro;refine ⟨fun q=>?_,hK _ ?_⟩;(first|(go_at_call 32;exact (cB (HD.out.kept q.into.below)).out)|(go_at_call 33;exact (cY (HD.out.kept q.into.below)).out));clear hK K))
   refine Drift.walk_nil ?_
   intro w5 hb5 _
   clear t0 t1
   have hb5:Below w3.heap.size w3 w5:=hb5
   simp only [List.length_cons,List.length_nil,List.drop_succ_cons,List.drop_zero,Nat.zero_add,Nat.reduceAdd]
   go_wp2_with fail
   exact bodyPost_ret (v:= .tuple #[.pointer none, .int .i64 3]) (by simp [results,Tryz.results30,go_sem]) rfl ⟨rfl,HB.out.trans (hb5.mono HB.out.size)⟩
def fls (ls:List (List UInt8)):Nat->List UInt8:=fun i=>(ls[i]?).getD []
theorem sv_new {w2 w3:World} (hc:Okc c) (hT:Tab W) (hb:Below W.heap.size W w2) {F:List Nat} {k g q R b m r s K:Nat} {ls:List (List UInt8)} (hcw:Ca.Cw w2 F k g (Ca.st0 m c.frames.toNat ls r s)) (hF:∀x,x∈F->W.heap.size<=x) (hm:(m:Int)=c.bytes) (hl:(ls.length:Int)=c.blocks) (hp:Pw w2 w3 q R b (tbN c.blocks.toNat)) (hK:r<=K/\s<=K) (kp:Nat) (hk:kp=0):Sv W (w3.alloc (.cells (shCs c ⟨w3.heap.size,g,k,q,R,b⟩ kp) 83)) F ⟨w3.heap.size,g,k,q,R,b⟩ c (tbN c.blocks.toNat) kp (kpF kp) (fls ls) K r s:=by
 subst hk
 have hn:=hc.nat
 have hbp:=hp.rw.bel
 have hb3:Below W.heap.size W w3:=hb.trans (hbp.mono hb.size)
 have ha:Below w3.heap.size w3 (w3.alloc (.cells (shCs c ⟨w3.heap.size,g,k,q,R,b⟩ 0) 83)):=(Below.refl _ _).alloc (Nat.le_refl _) _
 have hpw:Pw W w3 q R b (tbN c.blocks.toNat):=⟨hp.hd,⟨hp.rw.row,hT.below hb3,hb3,Nat.le_trans hb.size hp.rw.hg,Nat.le_trans hb.size hp.rw.hb⟩,Nat.le_trans hb.size hp.hq⟩
 have hlt:=hpw.lts
 have hcl:Ca.Cl W w3 F k g (Ca.st0 m c.frames.toNat ls r s):=⟨hcw.kept hbp,hF,hb3⟩
 have hq:=hp.hq
 have hg:=hp.rw.hg
 have hbb:=hp.rw.hb
 have hbs:=hb.size
 have hps:=hbp.size
 refine ⟨⟨Ca.st0 m c.frames.toNat ls r s,⟨BoxAt.new _ _ _,hcl.kept ha,hpw.kept hT ha,?_,?_,fun x hx=>?_⟩,⟨hcw.good,⟨hK.1,hK.2,fun j f hj=>(Ca.repl_none hj).elim⟩,?_,?_,?_,fun x=>?_,fun i=>Ca.cur_st0 _ _ _ _ _ _⟩,rfl,rfl⟩,?_,?_, .inl rfl⟩
 . show W.heap.size<=w3.heap.size
   omega
 . show w3.heap.size≠b
   omega
 . have:=hcw.lt x hx
   refine ⟨?_,?_,?_,?_⟩
   . show x≠w3.heap.size
     omega
   . show x≠q
     omega
   . show x≠R
     omega
   . show x≠b
     omega
 . show (List.replicate c.frames.toNat none).length=c.frames.toNat
   rw [List.length_replicate]
 . show m=c.bytes.toNat
   omega
 . show ls.length=c.blocks.toNat
   omega
 . rw [Ca.pins_new]
   unfold kpF
   rw [if_neg (fun hh=>absurd hh.2 (by omega))]
 . rw [tbN_len]
   omega
 . unfold tbN
   rw [getD_set _ _ _ _ _ (by rw [List.length_replicate];omega),if_pos rfl]
theorem New_c {S:List Nat} {g m r s K:Nat} {ls:List (List UInt8)} (hc:Okc c) (hT:Tab W) (hW:Below W.heap.size W w) (hd:Dv.Dev w S g m ls r s) (hl:(ls.length:Int)=c.blocks) (hm:(m:Int)=c.bytes) (hS:∀x,x∈S->W.heap.size<=x) (hK:r<=K/\s<=K):Calls Tryz.prog 30 #[.agg (cfCs c), .pointer (some ⟨g,0,none⟩)] w fun e w'=>(∃F z,e= .returned (.tuple #[.pointer (some ⟨z.p,0,none⟩), .int .i64 0])/\z.g=g/\Sv W w' F z c (tbN c.blocks.toNat) 0 (kpF 0) (fls ls) K r s)/\Below w.heap.size w w':=by
 have hnn:=hc.nat
 have hn:1<=c.frames.toNat/\c.frames.toNat<=64/\(c.frames.toNat:Int)=c.frames:=by
  obtain ⟨-,-,h,-⟩:=hc.1
  omega
 have cC:∀w,Hid (Calls Tryz.prog 61 #[.agg (cfCs c)] w fun e w'=>e= .returned (.int .i64 0)/\Below w.heap.size w w'):=fun w=>Cf.Check_yes c.blocks c.bytes c.frames c.fan c.buffer c.leaf c.key c.val w hc.1
 have cN:∀{w},Dv.Dev w S g m ls r s->Hid (Calls Tryz.prog 65 #[.pointer (some ⟨g,0,none⟩), .int .i64 c.frames] w fun e w'=>Ca.NewC w w' S g (Ca.st0 m c.frames.toNat ls r s) e):=fun h=>by
  have:=Ca.New_in h c.frames.toNat hn.1 hn.2.1
  rw [hn.2.2] at this
  exact this
 have cB:∀{w},Dv.Dev w S g m ls r s->Hid (Calls Tryz.prog 32 #[.pointer (some ⟨g,0,none⟩)] w fun e w'=>e= .returned (.int .i64 (ls.length:Int))/\Below w.heap.size w w'):=fun h=>(Dv.Blocks_any h).mono fun e w' ⟨he,hw⟩=>⟨he,hw▸Below.refl _ _⟩
 have cY:∀{w},Dv.Dev w S g m ls r s->Hid (Calls Tryz.prog 33 #[.pointer (some ⟨g,0,none⟩)] w fun e w'=>e= .returned (.int .i64 (m:Int))/\Below w.heap.size w w'):=fun h=>(Dv.Bytes_any h).mono fun e w' ⟨he,hw⟩=>⟨he,hw▸Below.refl _ _⟩
 have hx:=BoxAt.new 23 w (cfCs c)
 have hb1:Below w.heap.size w (w.alloc (.cells (cfCs c) 23)):=(Below.refl _ _).alloc (Nat.le_refl _) _
 have hd1:=hd.kept hb1
 clear hd
 go_enter Tryz.func30,Tryz.ntmps30
 go_upto_region 1 with fail
 generalize w.alloc (.cells (cfCs c) 23)=w1 at*
 obtain ⟨a,ha⟩:∃a,a=w.heap.size:=⟨_,rfl⟩
 rw [<-ha] at hx
 simp only [<-ha]
 have HX:=Lib.hid hx
 have HB:=Lib.hid hb1
 have HD:=Lib.hid hd1
 clear hx hb1 hd1 ha
 go_upto_region 6 with (first
  |(refine wpList_load_box rfl (.tmp 2) 23 rfl cfgU a (cfCs c) (cfgS rfl) rfl HX.out ?_)
  |(go_at_call 61;refine (cC _).out.mono ?_;rintro e w2 ⟨rfl,hb⟩;replace HB:=Lib.hid (HB.out.trans (hb.mono HB.out.size));replace HX:=Lib.hid (HX.out.kept hb);replace HD:=Lib.hid (HD.out.kept hb);obtain ⟨-,-,d2⟩:=cfg_cells HX.out;clear hb cC)
  |(go_at_call 65;refine (cN HD.out).out.mono ?_;rintro e w3 ⟨k,F,rfl,hcw,hgr,hb⟩;have HC:=Lib.hid (And.intro hcw (And.intro hgr HB.out.size));replace HB:=Lib.hid (HB.out.trans (hb.mono HB.out.size));replace HX:=Lib.hid (HX.out.kept hb);replace HD:=Lib.hid (HD.out.kept hb);clear hcw hgr hb cN d2))
 obtain ⟨d0,d1,-⟩:=cfg_cells HX.out
 have t0:=fun q:Drift.Tide [] w3 []=>Drift.Tide.cell d0 (by simp) q
 have t1:=fun q:Drift.Tide [] w3 []=>Drift.Tide.cell d1 (by simp) q
 clear d0 d1
 simp only [hl] at cB
 simp only [hm] at cY
 refine Drift.wp_region_drift [] [(0,[]),(1,[]),(2,[]),(3,[]),(4,[]),(5,[]),(6,[]),(7,[]),(8,[]),(9,[]),(10,[]),(11,[])] [] [] (by kernel_rfl) (by kernel_rfl) (by simp) ?_
 simp only [Drift.pick,Drift.opsAt,List.getElem?_toArray,List.getElem?_cons_zero,List.getElem?_cons_succ,List.cons_append,List.nil_append,List.filterMap_nil]
 repeat (refine Drift.walk_step (fun K hK=>?_);go_simp;first|(refine hK _ ?_;clear hK K)|(apply Exists.intro;refine ⟨fun q=>?_,hK _ ?_⟩;(first|(go_at_call 32;exact (cB (HD.out.kept q.into.below)).out)|(go_at_call 33;exact (cY (HD.out.kept q.into.below)).out));clear hK K))
 refine Drift.walk_nil ?_
 intro w5 hb5 _
 clear t0 t1
 have hb5:Below w3.heap.size w3 w5:=hb5
 simp only [List.length_cons,List.length_nil,List.drop_succ_cons,List.drop_zero,Nat.zero_add,Nat.reduceAdd]
 go_upto_region 8 with fail
 replace HB:=Lib.hid (HB.out.trans (hb5.mono HB.out.size))
 replace HX:=Lib.hid (HX.out.kept hb5)
 replace HC:=Lib.hid (And.intro (HC.out.1.kept hb5) HC.out.2)
 have hW5:=hW.trans (HB.out.mono hW.size)
 have cP:=New_in w5 w5 (hT.below hW5) (Below.refl _ _) c.blocks.toNat (by omega) (by omega)
 rw [hnn.1] at cP
 have CP:=Lib.hid cP
 have hS2:∀x,x∈F->W.heap.size<=x:=by
  intro x hx
  rcases HC.out.2.1 x hx with h'|h'
  . exact hS x h'
  . exact Nat.le_trans (Nat.le_trans hW.size HC.out.2.2) h'
 have HS:=Lib.hid hS2
 have HW5:=Lib.hid hW5
 obtain ⟨d0,-⟩:=cfg_cells HX.out
 clear cP hW5 cB cY HD hb5 hS2
 go_upto_region 9 with (go_at_call 66;refine CP.out.mono ?_;rintro e w6 ⟨q,R,b,rfl,hp⟩;have HP:=Lib.hid hp;replace HX:=Lib.hid (HX.out.kept hp.rw.bel);replace HB:=Lib.hid (HB.out.trans (hp.rw.bel.mono HB.out.size));clear hp CP d0)
 have d0:w6.cell? ⟨a,0,none⟩=some (.int .i64 c.blocks):=HX.out.cell rfl
 have d1:w6.cell? ⟨a,1,none⟩=some (.int .i64 c.bytes):=HX.out.cell rfl
 have d2:w6.cell? ⟨a,2,none⟩=some (.int .i64 c.frames):=HX.out.cell rfl
 have d3:w6.cell? ⟨a,3,none⟩=some (.int .i64 c.fan):=HX.out.cell rfl
 have d4:w6.cell? ⟨a,4,none⟩=some (.int .i64 c.buffer):=HX.out.cell rfl
 have d5:w6.cell? ⟨a,5,none⟩=some (.int .i64 c.leaf):=HX.out.cell rfl
 have d6:w6.cell? ⟨a,6,none⟩=some (.int .i64 c.key):=HX.out.cell rfl
 have d7:w6.cell? ⟨a,7,none⟩=some (.int .i64 c.val):=HX.out.cell rfl
 go_wp2_with fail
 refine bodyPost_ret (v:= .tuple #[.pointer (some ⟨w6.heap.size,0,none⟩), .int .i64 0]) (by simp [results,Tryz.results30,go_sem]) rfl ⟨⟨F,⟨w6.heap.size,g,k,q,R,b⟩,rfl,rfl,?_⟩,?_⟩
 . exact sv_new hc hT HW5.out HC.out.1 HS.out hm hl HP.out hK 0 rfl
 . exact HB.out.trans ((Below.refl _ _).alloc HB.out.size _)
end
end Sh
end Go.Proofs.YtjpjjnalpdpljaaGreatDoor
