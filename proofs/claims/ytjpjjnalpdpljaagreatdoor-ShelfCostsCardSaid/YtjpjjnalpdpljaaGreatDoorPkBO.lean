import Derived.Test.YtjpjjnalpdpljaaGreatDoorPkBJ
import Derived.Test.YtjpjjnalpdpljaaGreatDoorPqCodeD7
import Derived.Test.YtjpjjnalpdpljaaGreatDoorPkAW
import Derived.Test.YtjpjjnalpdpljaaGreatDoorPkBA
import Derived.Test.YtjpjjnalpdpljaaGreatDoorPkBB
import Derived.Test.YtjpjjnalpdpljaaGreatDoorPqDrift
import Derived.Test.YtjpjjnalpdpljaaGreatDoorPkAY
import Derived.Test.YtjpjjnalpdpljaaGreatDoorPkBF
set_option maxHeartbeats 8000000
set_option maxRecDepth 100000
namespace Go.Proofs.YtjpjjnalpdpljaaGreatDoor
open Go.RowKit
namespace No
open Mem Lx Bu Lf Fa
def RdT (c:Cfg) (b:List UInt8) (lv:Int) (z:At) (kn pn bn qn:Nat) (ok:Bool) (w:World):Prop:=∃n,(n.lv=lv/\n.kids.length=kn/\n.piv.length=pn/\n.buf.length=bn/\n.prs.length=qn)/\NdIn w n z/\EvRead c b n ok
theorem Decode_b (c:Cfg) {A:Option Addr} {cap:Nat} {b:List UInt8} {W:World} (h:BL W A b) (hb:b.length<=4000) (hc:c.bytes<=3000):Calls Tryz.prog 28 #[.agg (cfCs c), .slice A b.length cap] W fun e w'=>(∃v,e= .returned v/\EvDec c b v w')/\Below W.heap.size W w':=by
 by_cases hcr:Cf.Right c.blocks c.bytes c.frames c.fan c.buffer c.leaf c.key c.val
 case neg=>
  have cQ:∀w,Hid (Calls Tryz.prog 61 #[.agg (cfCs c)] w fun e w'=>e= .returned (.int .i64 2)/\Below w.heap.size w w'):=fun w=>Cf.Check_no c.blocks c.bytes c.frames c.fan c.buffer c.leaf c.key c.val w hcr
  have HN:Hid (∀{w},EvDec c b (.tuple #[.agg #[.int .i64 0, .slice none 0 0, .slice none 0 0, .slice none 0 0, .slice none 0 0], .int .i64 2]) w):=fun {w}=>⟨nilN,2,⟨none,0,none,0,none,0,none,0⟩,rfl,NdIn.nil w, .inl ⟨hcr,rfl,rfl⟩⟩
  generalize EvDec c b=E at*
  generalize b.length=bn at*
  clear h hb hc hcr
  obtain ⟨cB,cY,cF,cN,cU,cL,cKy,cV⟩:=c
  unfold cfCs at*
  simp only at*
  go_enter Tryz.func28,Tryz.ntmps28
  go_upto_region 1 with fail
  have HB:=Lib.hid (Bx2.new W (.cells #[.int .i64 cB, .int .i64 cY, .int .i64 cF, .int .i64 cN, .int .i64 cU, .int .i64 cL, .int .i64 cKy, .int .i64 cV] 23) (.cells #[.int .i64 0, .slice none 0 0, .slice none 0 0, .slice none 0 0, .slice none 0 0] 43))
  generalize (W.alloc (.cells #[.int .i64 cB, .int .i64 cY, .int .i64 cF, .int .i64 cN, .int .i64 cU, .int .i64 cL, .int .i64 cKy, .int .i64 cV] 23)).alloc (.cells #[.int .i64 0, .slice none 0 0, .slice none 0 0, .slice none 0 0, .slice none 0 0] 43)=w1 at*
  obtain ⟨g,hg⟩:∃g,g=W.heap.size:=⟨_,rfl⟩
  rw [<-hg] at HB
  have HWG:Hid (W.heap.size<=g):=Nat.le_of_eq hg.symm
  simp only [<-hg]
  clear hg
  obtain ⟨g0,g1,g2,g3,g4,g5,g6,g7⟩:=box8 HB.out.x
  go_upto_region 2 with (go_at_call 61;refine (cQ _).out.mono ?_;rintro e w2 ⟨rfl,hb⟩;replace HB:=Lib.hid (HB.out.kept hb);clear hb cQ g0 g1 g2 g3 g4 g5 g6 g7)
  obtain ⟨y0,y1,y2,y3,y4⟩:=box5 HB.out.y
  have f0:=free5 HB.out.y 0;have f1:=free5 HB.out.y 1;have f2:=free5 HB.out.y 2;have f3:=free5 HB.out.y 3;have f4:=free5 HB.out.y 4
  have HU:=Lib.hid (set5_at HB.out.y (.int .i64 0) (.slice none 0 0) (.slice none 0 0) (.slice none 0 0) (.slice none 0 0))
  have HBW:=Lib.hid (set5_below HB.out.below (Nat.le_succ_of_le HWG.out) (.int .i64 0) (.slice none 0 0) (.slice none 0 0) (.slice none 0 0) (.slice none 0 0))
  unfold set5 at HU HBW
  go_wp2_with fail
  generalize ((((w2.setCell ⟨g+1,0,none⟩ (.int .i64 0)).setCell ⟨g+1,1,none⟩ (.slice none 0 0)).setCell ⟨g+1,2,none⟩ (.slice none 0 0)).setCell ⟨g+1,3,none⟩ (.slice none 0 0)).setCell ⟨g+1,4,none⟩ (.slice none 0 0)=w91 at*
  clear y0 y1 y2 y3 y4 f0 f1 f2 f3 f4
  obtain ⟨y0,y1,y2,y3,y4⟩:=box5 HU.out
  exact bodyPost_ret (v:= .tuple #[.agg #[.int .i64 0, .slice none 0 0, .slice none 0 0, .slice none 0 0, .slice none 0 0], .int .i64 2]) (by simp [results,Tryz.results28,go_sem,y0,y1,y2,y3,y4]) rfl ⟨⟨_,rfl,HN.out⟩,HBW.out⟩
 have cQ:∀w,Hid (Calls Tryz.prog 61 #[.agg (cfCs c)] w fun e w'=>e= .returned (.int .i64 0)/\Below w.heap.size w w'):=fun w=>Cf.Check_yes c.blocks c.bytes c.frames c.fan c.buffer c.leaf c.key c.val w hcr
 obtain ⟨F,Bf,Lf',K,V,hs⟩:=set_ok hcr
 have cRd:∀w,Below W.heap.size W w->Hid (Calls Tryz.prog 62 #[.agg (cfCs c), .slice A b.length cap] w fun e w'=>(∃lv kA kn kc pA pn pc bA bn bc qA qn qc ok,e= .returned (.tuple #[.agg #[.int .i64 lv, .slice kA kn kc, .slice pA pn pc, .slice bA bn bc, .slice qA qn qc], .bool ok])/\RdT c b lv ⟨kA,kc,pA,pc,bA,bc,qA,qc⟩ kn pn bn qn ok w')/\Below w.heap.size w w'):=fun w hw=>by
  have hl:b.length=c.bytes.toNat\/b.length≠c.bytes.toNat:=by omega
  have h9:Calls Tryz.prog 62 #[.agg (cfCs c), .slice A b.length cap] w fun e w'=>∃n z ok,e= .returned (.tuple #[.agg (ndCs n z), .bool ok])/\NdIn w' n z/\Below w.heap.size w w'/\EvRead c b n ok:=by
   rcases hl with hl|hl
   . exact Read_long c hs (h.below hw) hb hc hl
   . exact Read_short c hs (h.below hw) hb hc hl
  exact h9.mono fun e w' ⟨n,z,ok,he,h1,h2,h3⟩=>⟨⟨n.lv,z.kA,n.kids.length,z.kc,z.pA,n.piv.length,z.pc,z.bA,n.buf.length,z.bc,z.qA,n.prs.length,z.qc,ok,he,n,⟨rfl,rfl,rfl,rfl,rfl⟩,h1,h3⟩,h2⟩
 have cIs:∀n,∃t:Bool,(t=true↔RightN c ⟨#[]⟩ ⟨#[]⟩ true n)/\∀z w,NdIn w n z->Sz n->n.kids.length<=80->(∀k,k∈n.kids->k<4294967296)->Hid (Calls Tryz.prog 63 #[.agg (cfCs c), .agg (ndCs n z)] w fun e w'=>e= .returned (.bool t)/\Below w.heap.size w w'):=fun n=>by
  obtain ⟨t,ht⟩:=bool_of (RightN c ⟨#[]⟩ ⟨#[]⟩ true n)
  exact ⟨t,ht,fun z w h1 h2 h3 h4=>IsRight_any c h1 h2 h3 h4 t ht⟩
 have HN:Hid (∀{w},(∀m,¬(RightA c m/\blockL c m=b))->EvDec c b (.tuple #[.agg #[.int .i64 0, .slice none 0 0, .slice none 0 0, .slice none 0 0, .slice none 0 0], .int .i64 12]) w):=fun {w} hno=>⟨nilN,12,⟨none,0,none,0,none,0,none,0⟩,rfl,NdIn.nil w, .inr (.inl ⟨hcr,hno,rfl,rfl⟩)⟩
 have HY:Hid (∀{w n z},NdIn w n z->RightN c ⟨#[]⟩ ⟨#[]⟩ true n->blockL c n=b->EvDec c b (.tuple #[.agg (ndCs n z), .int .i64 0]) w):=fun {w n z} h1 h2 h3=>⟨n,0,z,rfl,h1, .inr (.inr ⟨⟨hcr,h2⟩,h3,rfl⟩)⟩
 generalize EvDec c b=E at*
 generalize hbl:b.length=bl at*
 clear h hb hc hs hcr hbl
 have HCC:Hid (∃c',c'=c):=⟨c,rfl⟩
 obtain ⟨c',hcc⟩:=HCC.out
 rw [<-hcc] at cIs cRd HN HY
 obtain ⟨cB,cY,cF,cN,cU,cL,cKy,cV⟩:=c
 have hcf:cfCs c'= #[.int .i64 cB, .int .i64 cY, .int .i64 cF, .int .i64 cN, .int .i64 cU, .int .i64 cL, .int .i64 cKy, .int .i64 cV]:=by rw [hcc];rfl
 rw [hcf] at cRd
 unfold cfCs at cQ
 simp only [hcf] at cIs
 unfold cfCs
 simp only at*
 clear HCC hcc hcf
 go_enter Tryz.func28,Tryz.ntmps28
 go_upto_region 1 with fail
 have HB:=Lib.hid (Bx2.new W (.cells #[.int .i64 cB, .int .i64 cY, .int .i64 cF, .int .i64 cN, .int .i64 cU, .int .i64 cL, .int .i64 cKy, .int .i64 cV] 23) (.cells #[.int .i64 0, .slice none 0 0, .slice none 0 0, .slice none 0 0, .slice none 0 0] 43))
 generalize (W.alloc (.cells #[.int .i64 cB, .int .i64 cY, .int .i64 cF, .int .i64 cN, .int .i64 cU, .int .i64 cL, .int .i64 cKy, .int .i64 cV] 23)).alloc (.cells #[.int .i64 0, .slice none 0 0, .slice none 0 0, .slice none 0 0, .slice none 0 0] 43)=w1 at*
 obtain ⟨g,hg⟩:∃g,g=W.heap.size:=⟨_,rfl⟩
 rw [<-hg] at HB
 have HWG:Hid (W.heap.size<=g):=Nat.le_of_eq hg.symm
 simp only [<-hg]
 clear hg
 obtain ⟨g0,g1,g2,g3,g4,g5,g6,g7⟩:=box8 HB.out.x
 go_upto_region 3 with (go_at_call 61;refine (cQ _).out.mono ?_;rintro e w2 ⟨rfl,hb⟩;replace HB:=Lib.hid (HB.out.kept hb);clear hb cQ g0 g1 g2 g3 g4 g5 g6 g7)
 obtain ⟨g0,g1,g2,g3,g4,g5,g6,g7⟩:=box8 HB.out.x
 go_upto_region 4 with (go_at_call 62;refine (cRd _ HB.out.below).out.mono ?_;rintro e w3 ⟨⟨lv,kA,kn,kc,pA,pn,pc,bA,bn,bc,qA,qn,qc,ok,rfl,n,heq,hni,her⟩,hb⟩;replace HB:=Lib.hid (HB.out.kept hb);have HEQ:=Lib.hid heq;have HNI:=Lib.hid hni;have HER:=Lib.hid her;clear heq hni her hb cRd g0 g1 g2 g3 g4 g5 g6 g7)
 have hxn:=heap_alloc_new w3 (.cells #[.int .i64 lv, .slice kA kn kc, .slice pA pn pc, .slice bA bn bc, .slice qA qn qc] 43)
 have hbl:Below w3.heap.size w3 (w3.alloc (.cells #[.int .i64 lv, .slice kA kn kc, .slice pA pn pc, .slice bA bn bc, .slice qA qn qc] 43)):=(Below.refl _ _).alloc (Nat.le_refl _) _
 have HNB:Hid (g+1<w3.heap.size):=(Array.getElem?_eq_some_iff.1 HB.out.y).1
 generalize w3.alloc (.cells #[.int .i64 lv, .slice kA kn kc, .slice pA pn pc, .slice bA bn bc, .slice qA qn qc] 43)=w4 at*
 obtain ⟨nb,hnb⟩:∃nb,nb=w3.heap.size:=⟨_,rfl⟩
 rw [<-hnb] at hxn HNB
 simp only [<-hnb]
 have HXN:=Lib.hid hxn
 replace HB:=Lib.hid (HB.out.kept hbl)
 replace HNI:=Lib.hid (HNI.out.kept hbl)
 clear hxn hbl hnb
 cases ok with
 |false=>
  have HN2:Hid (∀{w},E (.tuple #[.agg #[.int .i64 0, .slice none 0 0, .slice none 0 0, .slice none 0 0, .slice none 0 0], .int .i64 12]) w):=HN.out fun m hm=>HER.out.2 rfl m hm.1 hm.2
  clear HN HY cIs HER
  go_upto_region 5 with fail
  obtain ⟨y0,y1,y2,y3,y4⟩:=box5 HB.out.y
  have f0:=free5 HB.out.y 0;have f1:=free5 HB.out.y 1;have f2:=free5 HB.out.y 2;have f3:=free5 HB.out.y 3;have f4:=free5 HB.out.y 4
  have HU:=Lib.hid (set5_at HB.out.y (.int .i64 0) (.slice none 0 0) (.slice none 0 0) (.slice none 0 0) (.slice none 0 0))
  have HBW:=Lib.hid (set5_below HB.out.below (Nat.le_succ_of_le HWG.out) (.int .i64 0) (.slice none 0 0) (.slice none 0 0) (.slice none 0 0) (.slice none 0 0))
  unfold set5 at HU HBW
  go_wp2_with fail
  generalize ((((w4.setCell ⟨g+1,0,none⟩ (.int .i64 0)).setCell ⟨g+1,1,none⟩ (.slice none 0 0)).setCell ⟨g+1,2,none⟩ (.slice none 0 0)).setCell ⟨g+1,3,none⟩ (.slice none 0 0)).setCell ⟨g+1,4,none⟩ (.slice none 0 0)=w91 at*
  clear y0 y1 y2 y3 y4 f0 f1 f2 f3 f4
  obtain ⟨y0,y1,y2,y3,y4⟩:=box5 HU.out
  exact bodyPost_ret (v:= .tuple #[.agg #[.int .i64 0, .slice none 0 0, .slice none 0 0, .slice none 0 0, .slice none 0 0], .int .i64 12]) (by simp [results,Tryz.results28,go_sem,y0,y1,y2,y3,y4]) rfl ⟨⟨_,rfl,HN2.out⟩,HBW.out⟩
 |true=>
  obtain ⟨h1,⟨h2,h3,h4⟩,h5⟩:=HER.out.1 rfl
  obtain ⟨t,ht,cI⟩:=cIs n
  have cI2:∀w,NdIn w n ⟨kA,kc,pA,pc,bA,bc,qA,qc⟩->Hid (Calls Tryz.prog 63 #[.agg #[.int .i64 cB, .int .i64 cY, .int .i64 cF, .int .i64 cN, .int .i64 cU, .int .i64 cL, .int .i64 cKy, .int .i64 cV], .agg #[.int .i64 lv, .slice kA kn kc, .slice pA pn pc, .slice bA bn bc, .slice qA qn qc]] w fun e w'=>e= .returned (.bool t)/\Below w.heap.size w w'):=fun w h=>by
   have h9:=cI _ w h h2 h3 h4
   obtain ⟨q1,q2,q3,q4,q5⟩:=HEQ.out
   unfold ndCs at h9
   simp only [q1,q2,q3,q4,q5] at h9
   exact h9
  obtain ⟨g0,g1,g2,g3,g4,g5,g6,g7⟩:=box8 HB.out.x
  obtain ⟨z0,z1,z2,z3,z4⟩:=box5 HXN.out
  have HB1:=Lib.hid h1
  have HB5:=Lib.hid h5
  have HT:=Lib.hid ht
  clear h1 h2 h3 h4 h5 ht cI cIs HER
  cases t with
  |false=>
   have HN2:Hid (∀{w},E (.tuple #[.agg #[.int .i64 0, .slice none 0 0, .slice none 0 0, .slice none 0 0, .slice none 0 0], .int .i64 12]) w):=HN.out fun m hm=>by
    have h9:=HB5.out m hm.1 hm.2
    subst h9
    cases HT.out.2 hm.1.2
   clear HN HY HB5 HT
   go_upto_region 5 with (go_at_call 63;refine (cI2 _ HNI.out).out.mono ?_;rintro e w5 ⟨rfl,hb⟩;replace HB:=Lib.hid (HB.out.kept hb);clear hb cI2 g0 g1 g2 g3 g4 g5 g6 g7 z0 z1 z2 z3 z4)
   obtain ⟨y0,y1,y2,y3,y4⟩:=box5 HB.out.y
   have f0:=free5 HB.out.y 0;have f1:=free5 HB.out.y 1;have f2:=free5 HB.out.y 2;have f3:=free5 HB.out.y 3;have f4:=free5 HB.out.y 4
   have HU:=Lib.hid (set5_at HB.out.y (.int .i64 0) (.slice none 0 0) (.slice none 0 0) (.slice none 0 0) (.slice none 0 0))
   have HBW:=Lib.hid (set5_below HB.out.below (Nat.le_succ_of_le HWG.out) (.int .i64 0) (.slice none 0 0) (.slice none 0 0) (.slice none 0 0) (.slice none 0 0))
   unfold set5 at HU HBW
   go_wp2_with fail
   generalize ((((w5.setCell ⟨g+1,0,none⟩ (.int .i64 0)).setCell ⟨g+1,1,none⟩ (.slice none 0 0)).setCell ⟨g+1,2,none⟩ (.slice none 0 0)).setCell ⟨g+1,3,none⟩ (.slice none 0 0)).setCell ⟨g+1,4,none⟩ (.slice none 0 0)=w91 at*
   clear y0 y1 y2 y3 y4 f0 f1 f2 f3 f4
   obtain ⟨y0,y1,y2,y3,y4⟩:=box5 HU.out
   exact bodyPost_ret (v:= .tuple #[.agg #[.int .i64 0, .slice none 0 0, .slice none 0 0, .slice none 0 0, .slice none 0 0], .int .i64 12]) (by simp [results,Tryz.results28,go_sem,y0,y1,y2,y3,y4]) rfl ⟨⟨_,rfl,HN2.out⟩,HBW.out⟩
  |true=>
   go_upto_region 6 with (go_at_call 63;refine (cI2 _ HNI.out).out.mono ?_;rintro e w5 ⟨rfl,hb⟩;replace HB:=Lib.hid (HB.out.kept hb);replace HNI:=Lib.hid (HNI.out.kept hb);replace HXN:=Lib.hid (kept3 HXN.out hb);clear hb cI2 g0 g1 g2 g3 g4 g5 g6 g7 z0 z1 z2 z3 z4)
   obtain ⟨z0,z1,z2,z3,z4⟩:=box5 HXN.out
   have hnb:g+1<nb:=HNB.out
   obtain ⟨y0,y1,y2,y3,y4⟩:=box5 HB.out.y
   have f0:=free5 HB.out.y 0;have f1:=free5 HB.out.y 1;have f2:=free5 HB.out.y 2;have f3:=free5 HB.out.y 3;have f4:=free5 HB.out.y 4
   have HU:=Lib.hid (set5_at HB.out.y (.int .i64 lv) (.slice kA kn kc) (.slice pA pn pc) (.slice bA bn bc) (.slice qA qn qc))
   have HBW:=Lib.hid (set5_below HB.out.below (Nat.le_succ_of_le HWG.out) (.int .i64 lv) (.slice kA kn kc) (.slice pA pn pc) (.slice bA bn bc) (.slice qA qn qc))
   have HI9:=Lib.hid (into_set5 w5 (g+1) (.int .i64 lv) (.slice kA kn kc) (.slice pA pn pc) (.slice bA bn bc) (.slice qA qn qc))
   have HNF:Hid (NdIn (set5 w5 (g+1) (.int .i64 lv) (.slice kA kn kc) (.slice pA pn pc) (.slice bA bn bc) (.slice qA qn qc)) n ⟨kA,kc,pA,pc,bA,bc,qA,qc⟩):=nd_box HNI.out HI9.out (IsBox.of HB.out.y).one
   unfold set5 at HU HBW HNF HI9
   go_wp2_with fail
   generalize ((((w5.setCell ⟨g+1,0,none⟩ (.int .i64 lv)).setCell ⟨g+1,1,none⟩ (.slice kA kn kc)).setCell ⟨g+1,2,none⟩ (.slice pA pn pc)).setCell ⟨g+1,3,none⟩ (.slice bA bn bc)).setCell ⟨g+1,4,none⟩ (.slice qA qn qc)=w91 at*
   clear y0 y1 y2 y3 y4 f0 f1 f2 f3 f4 z0 z1 z2 z3 z4
   obtain ⟨y0,y1,y2,y3,y4⟩:=box5 HU.out
   have hfin:=HY.out HNF.out (HT.out.1 (by simp)) HB1.out
   obtain ⟨q1,q2,q3,q4,q5⟩:=HEQ.out
   unfold ndCs at hfin
   simp only [q1,q2,q3,q4,q5] at hfin
   have HFIN:=Lib.hid hfin
   clear hfin q1 q2 q3 q4 q5
   exact bodyPost_ret (v:= .tuple #[.agg #[.int .i64 lv, .slice kA kn kc, .slice pA pn pc, .slice bA bn bc, .slice qA qn qc], .int .i64 0]) (by simp [results,Tryz.results28,go_sem,y0,y1,y2,y3,y4]) rfl ⟨⟨_,rfl,HFIN.out⟩,HBW.out⟩
end No
end Go.Proofs.YtjpjjnalpdpljaaGreatDoor
namespace Go.Proofs.YtjpjjnalpdpljaaGreatDoor
open Go.RowKit
namespace Sh
open Mem No Bt Po
open Ca (upF Few)
theorem upf_upf {α:Type} (f:Nat->α) (i:Nat) (x y:α):upF (upF f i x) i y=upF f i y:=by
 funext b
 unfold upF
 by_cases e:b=i
 . rw [if_pos e,if_pos e]
 . rw [if_neg e,if_neg e,if_neg e]
theorem up_zero (P:Nat->Nat) (i:Nat) (h:P i=0):upF (upF P i 1) i (upF P i 1 i-1)=P:=by
 funext b
 unfold upF
 by_cases e:b=i
 . subst e
   simp [h]
 . simp [e]
theorem up_at {α:Type} (f:Nat->α) (i:Nat) (x:α):upF f i x i=x:=by
 unfold upF
 rw [if_pos rfl]
def Off (z:Ad) (F:List Nat) (A:Option Addr) (y:List UInt8):Prop:=0<y.length->∀a,A=some a->a.block∉z.p::z.b::F
section
variable {W w w1:World} {F F1:List Nat} {z:Ad} {c:Cfg} {tb:List Bool} {kp:Nat} {P:Nat->Nat} {f:Nat->List UInt8} {K r s:Nat} {A:Option Addr} {y:List UInt8}
theorem Off.move (h:Off z F A y) (hA:BL w A y) (hm:Mv z w w1 F F1):Off z F1 A y/\BL w1 A y:=by
 refine ⟨fun h0 a ha hx=>?_,hA.keep fun h0 a ha=>hm.io.block _ (hA.lt h0 a ha) (h h0 a ha)⟩
 have h1:=h h0 a ha
 have h2:=hA.lt h0 a ha
 simp only [List.mem_cons,not_or] at hx h1
 rcases hx with hx|hx|hx
 . exact h1.1 hx
 . exact h1.2.1 hx
 . rcases hm.gr _ hx with h3|h3
   . exact h1.2.2 h3
   . omega
theorem write_c (h:Sv W w F z c tb kp (kpF kp) f K r s) (hc:Okc c) (hT:Tab W) (hK:K<=900000) {i cap:Nat} (hi:thr c i) (hA:BL w A y) (hy:(y.length:Int)=c.bytes) (ho:Off z F A y):Calls Tryz.prog 73 #[.pointer (some ⟨z.p,0,none⟩), .int .u32 (i:Int), .slice A y.length cap] w fun e w'=>e= .returned (.tuple #[])/\Out W w w' F z c tb kp (kpF kp) (upF f i y) (K+2) r s 0 1:=by
 obtain ⟨-,-,-,n1,n2,-⟩:=hc.nat
 have h32:i<4294967296:=by have:=hi.2;omega
 have k32:kp<4294967296:=by
  rcases h.kl with e|e
  . omega
  . have:=e.2;omega
 by_cases e:i=kp
 . subst e
   have cW:=Lib.hid (SWrite (cap:=cap) h hc hT h32 (by rw [kp_self hi.1];decide) hA rfl hy)
   obtain ⟨-,-,-,-,-,-,-,-,-,c9,-,c11,-⟩:=h.cells
   generalize y.length=n at*
   clear h hA hy ho
   go_enter Tryz.func73,Tryz.ntmps73
   go_wp2_with (go_at_call 113;refine cW.out.mono ?_;rintro e w1 ⟨rfl,ho⟩;have HO:=Lib.hid ho;clear ho)
   obtain ⟨F',r',s',h1,h2,h3,h4⟩:=HO.out
   exact bodyPost_ret (results_none rfl _ _ _) rfl ⟨rfl,F',r',s',h1.mono (by omega),h2,by omega,by omega⟩
 . have hz:=kp_zero e
   have cF:=Lib.hid (SFresh h hc hT (by omega) (few_kp kp) hi.2 hz)
   have cW:∀{w1 F1 r1 s1},Sv W w1 F1 z c tb kp (upF (kpF kp) i 1) (upF f i (List.replicate c.bytes.toNat 0)) (K+2) r1 s1->BL w1 A y->Hid (Calls Tryz.prog 113 #[.pointer (some ⟨z.k,0,none⟩), .int .u32 (i:Int), .slice A y.length cap] w1 fun e w'=>e= .returned (.int .i64 0)/\Out W w1 w' F1 z c tb kp (upF (kpF kp) i 1) (upF f i y) (K+2) r1 s1 0 0):=fun h hA=>by
    have:=SWrite (cap:=cap) h hc hT h32 (by rw [up_at];decide) hA rfl hy
    rw [upf_upf] at this
    exact this
   have cU:∀{w1 F1 r1 s1},Sv W w1 F1 z c tb kp (upF (kpF kp) i 1) (upF f i y) (K+2) r1 s1->Hid (Calls Tryz.prog 49 #[.pointer (some ⟨z.k,0,none⟩), .int .u32 (i:Int)] w1 fun e w'=>e= .returned (.int .i64 0)/\Out W w1 w' F1 z c tb kp (kpF kp) (upF f i y) (K+2) r1 s1 0 0):=fun h=>by
    have:=SUnpin h hT (by omega) h32 (by rw [up_at];decide)
    rw [up_zero _ _ hz] at this
    exact this
   obtain ⟨-,-,-,-,-,-,-,-,-,c9,-,c11,-⟩:=h.cells
   have HA:=Lib.hid (And.intro ho hA)
   have hne:((i:Int)==(kp:Int))=false:=by simp;omega
   generalize y.length=n at*
   clear h hA ho hy hz hi
   go_enter Tryz.func73,Tryz.ntmps73
   go_upto_region 3 with (go_at_call 114;refine cF.out.mono ?_;rintro e w1 ⟨rfl,ho⟩;have HO:=Lib.hid ho;clear ho c9 c11 cF)
   obtain ⟨F1,r1,s1,h1,m1,d1⟩:=HO.out
   have HA1:=Lib.hid (HA.out.1.move HA.out.2 m1)
   have cW1:=cW h1 HA1.out.2
   obtain ⟨-,-,-,-,-,-,-,-,-,c9,-,c11,-⟩:=h1.cells
   have M1:=Lib.hid m1
   have D1:=Lib.hid d1
   clear h1 m1 d1 HO HA HA1 cW
   go_upto_region 4 with (go_at_call 113;refine cW1.out.mono ?_;rintro e w2 ⟨rfl,ho⟩;have HO:=Lib.hid ho;clear ho c9 c11 cW1)
   obtain ⟨F2,r2,s2,h2,m2,d2⟩:=HO.out
   have cU1:=cU h2
   obtain ⟨-,-,-,-,-,-,-,-,-,c9,-,c11,-⟩:=h2.cells
   have M2:=Lib.hid (M1.out.trans m2)
   have D2:Hid ((r<=r2/\r2<=r+0)/\s<=s2/\s2<=s+1):=by have:=D1.out;unfold Hid;omega
   clear h2 m2 d2 HO D1 M1 cU
   go_wp2_with (go_at_call 49;refine cU1.out.mono ?_;rintro e w3 ⟨rfl,ho⟩;have HO:=Lib.hid ho;clear ho c9 c11 cU1)
   go_end0
   exact ⟨rfl,Out.then M2.out D2.out.1 D2.out.2 HO.out⟩
def LdP (c:Cfg) (f:Nat->List UInt8) (i:Nat) (n:Nd) (E:Int):Prop:=(thr c i/\DecP c (f i) n E)\/(¬thr c i/\n=nilN/\E=4)
theorem nodU:Tryz.prog.underlying 43=some (.struct (Tryz.prog.fieldsOf 43)):=by kernel_rfl
theorem nodS {C:Array Value} (h:C.size=5):(Tryz.prog.info? 43).map (·.size)=some C.size:=by
 rw [h]
 kernel_rfl
theorem nd_one (n:Nd) (a:At):∀v∈(ndCs n a).toList,v.oneCell'=true:=by simp [ndCs,Value.oneCell']
theorem Load_c (h:Sv W w F z c tb kp (kpF kp) f K r s) (hc:Okc c) (hT:Tab W) (hK:K<=900000) (i:Nat) (h32:i<4294967296):Calls Tryz.prog 14 #[.pointer (some ⟨z.p,0,none⟩), .int .u32 (i:Int)] w fun e w'=>(∃n E a,e= .returned (.tuple #[.agg (ndCs n a), .int .i64 E])/\NdIn w' n a/\LdP c f i n E)/\Out W w w' F z c tb kp (kpF kp) f (K+2) r s (if i=kp then 0 else 1) (if i=kp then 0 else 1):=by
 have hb1:Below w.heap.size w (w.alloc (.cells #[.int .i64 0, .slice none 0 0, .slice none 0 0, .slice none 0 0, .slice none 0 0] 43)):=(Below.refl _ _).alloc (Nat.le_refl _) _
 have hx:=BoxAt.new 43 w #[.int .i64 0, .slice none 0 0, .slice none 0 0, .slice none 0 0, .slice none 0 0]
 have hn:=h.new
 have hW:=h.below.size
 have h1:=h.kept hT hb1
 have cM:=Lib.hid (place_c h1 hc i)
 have H0:=Lib.hid h
 clear h
 by_cases ht:thr c i
 . simp only [if_pos ht] at cM
   have hR:=kp_cost (kp:=kp) ht.1
   have cP:Hid (Calls Tryz.prog 47 #[.pointer (some ⟨z.k,0,none⟩), .int .u32 (i:Int)] (w.alloc (.cells #[.int .i64 0, .slice none 0 0, .slice none 0 0, .slice none 0 0, .slice none 0 0] 43)) fun e w'=>e= .returned (.int .i64 0)/\Out W (w.alloc (.cells #[.int .i64 0, .slice none 0 0, .slice none 0 0, .slice none 0 0, .slice none 0 0] 43)) w' F z c tb kp (upF (kpF kp) i (kpF kp i+1)) f (K+2) r s (if i=kp then 0 else 1) (if i=kp then 0 else 1)):=by
    have:=SPin h1 hc hT (by omega) (few_kp kp) ht.2
    rw [hR] at this
    exact this
   generalize (if i=kp then 0 else 1)=R at*
   have cR:∀{w F r s},Sv W w F z c tb kp (upF (kpF kp) i (kpF kp i+1)) f (K+2) r s->Hid (Calls Tryz.prog 48 #[.pointer (some ⟨z.k,0,none⟩), .int .u32 (i:Int)] w fun e w'=>(∃A k,e= .returned (.tuple #[.slice A (f i).length k, .int .i64 0])/\BL w' A (f i)/\∀a,A=some a->w.heap.size<=a.block)/\Below w.heap.size w w'):=fun h=>SRead h h32 (by rw [up_at];omega)
   have cU:∀{w F r s},Sv W w F z c tb kp (upF (kpF kp) i (kpF kp i+1)) f (K+2) r s->Hid (Calls Tryz.prog 49 #[.pointer (some ⟨z.k,0,none⟩), .int .u32 (i:Int)] w fun e w'=>e= .returned (.int .i64 0)/\Out W w w' F z c tb kp (kpF kp) f (K+2) r s 0 0):=fun h=>by
    have:=SUnpin h hT (by omega) h32 (by rw [up_at];omega)
    rw [up_back] at this
    exact this
   have hfl:=h1.many hc ht.2
   obtain ⟨-,-,-,-,-,-,hY3,-⟩:=hc.nat
   have cD:∀{w A cap},BL w A (f i)->Hid (Calls Tryz.prog 28 #[.agg (cfCs c), .slice A (f i).length cap] w fun e w'=>(∃v,e= .returned v/\EvDec c (f i) v w')/\Below w.heap.size w w'):=fun hA=>Decode_b c hA (by omega) hY3
   obtain ⟨m,hm⟩:∃m,m=(f i).length:=⟨_,rfl⟩
   simp only [<-hm] at cR cD
   have HT:=Lib.hid ht
   clear hR hfl hY3 hm ht
   go_enter Tryz.func14,Tryz.ntmps14
   go_upto_region 1 with fail
   generalize w.alloc (.cells #[.int .i64 0, .slice none 0 0, .slice none 0 0, .slice none 0 0, .slice none 0 0] 43)=w1 at*
   obtain ⟨g,hg⟩:∃g,g=w.heap.size:=⟨_,rfl⟩
   rw [<-hg] at hx hn
   simp only [<-hg]
   have HX:=Lib.hid (And.intro hx hn)
   have HB:=Lib.hid (And.intro hg (And.intro hb1 hW))
   obtain ⟨-,-,-,-,-,-,-,-,-,c9,-⟩:=h1.cells
   have H1:=Lib.hid h1
   clear hx hn hg hb1 hW h1
   go_upto_region 5 with (first
    |(go_at_call 46;refine cM.out.mono ?_;rintro e w' ⟨rfl,rfl⟩)
    |(go_at_call 47;refine cP.out.mono ?_;rintro e w2 ⟨rfl,ho⟩;have HO:=Lib.hid ho;clear ho c9 cP cM))
   obtain ⟨F2,r2,s2,h2,m2,d2⟩:=HO.out
   replace HX:=Lib.hid (m2.box HX.out.1 HX.out.2)
   have HM:=Lib.hid ((Mv.below z F HB.out.2.1).trans m2)
   have HD:=Lib.hid d2
   have cR2:=cR h2
   obtain ⟨-,-,-,-,-,-,-,-,-,c9,-⟩:=h2.cells
   have H2:=Lib.hid h2
   clear HO h2 m2 d2 cR H1
   go_upto_region 6 with (go_at_call 48;refine cR2.out.mono ?_;rintro e w3 ⟨⟨A,cap,rfl,hA,hA0⟩,hb⟩;have HA:=Lib.hid (And.intro hA hA0);have HB3:=Lib.hid hb;clear hA hA0 hb cR2 c9)
   have h3:=H2.out.kept hT HB3.out
   replace HX:=Lib.hid (And.intro (HX.out.1.kept HB3.out) HX.out.2)
   replace HA:Hid (BL w3 A (f i)/\Off z F2 A (f i)):=⟨HA.out.1,fun _ a ha hh=>by have:=HA.out.2 a ha;have:=H2.out.lt a.block (by simp only [List.mem_cons] at hh ⊢;rcases hh with hh|hh|hh<;>simp [hh]);omega⟩
   replace HM:=Lib.hid (HM.out.trans (Mv.below z F2 HB3.out))
   have cU3:=cU h3
   obtain ⟨-,-,-,-,-,-,-,-,-,c9,-⟩:=h3.cells
   clear h3 cU H2 HB3
   go_upto_region 7 with (go_at_call 49;refine cU3.out.mono ?_;rintro e w4 ⟨rfl,ho⟩;have HO:=Lib.hid ho;clear ho c9 cU3)
   obtain ⟨F4,r4,s4,h4,m4,d4⟩:=HO.out
   replace HX:=Lib.hid (m4.box HX.out.1 HX.out.2)
   have cD4:=cD (cap:=cap) (HA.out.2.move HA.out.1 m4).2
   replace HM:=Lib.hid (HM.out.trans m4)
   replace HD:Hid ((r<=r4/\r4<=r+R)/\s<=s4/\s4<=s+R):=by have:=HD.out;unfold Hid;omega
   have H4:=Lib.hid h4
   have HS:=Lib.hid h4.box
   clear h4 m4 d4 HO HA cD
   go_wp2_with (first
    |(refine wpList_load_pre rfl (.tmp 39) 23 rfl cfgU z.p (shCs c z kp) (cfCs c) (cfgS rfl) rfl HS.out (sh_pre c z kp) (Nat.le_of_ble_eq_true rfl) ?_)
    |(go_at_call 28;refine cD4.out.mono ?_;rintro e w5 ⟨⟨v,rfl,n,E,a,rfl,hn,hd⟩,hb⟩;have HN:=Lib.hid hn;have HE:=Lib.hid hd;have H5:=Lib.hid (H4.out.kept hT hb);replace HM:=Lib.hid (HM.out.trans (Mv.below z F4 hb));replace HX:=Lib.hid (And.intro (HX.out.1.kept hb) HX.out.2);clear hn hd hb HS H4 cD4)
    |(refine wpList_store_box rfl (.tmp 4) (.tmp 43) 43 rfl rfl g #[.int .i64 0, .slice none 0 0, .slice none 0 0, .slice none 0 0, .slice none 0 0] (ndCs n a) (nodS rfl) rfl (nd_one n a) rfl rfl HX.out.1 ?_;intro w6 HZ hi;have HI:=Lib.hid hi;clear hi))
   have hl:=run_var_box (P:=Tryz.prog) nodU (nodS (C:=ndCs n a) rfl) HZ.out
   refine bodyPost_ret (v:= .tuple #[.agg (ndCs n a), .int .i64 E]) (by simp [results,Tryz.results14,asAddr,hl]) rfl ⟨⟨n,E,a,rfl,nd_box HN.out HI.out (IsBox.one (IsBox.of HX.out.1)), .inl ⟨HT.out,HE.out⟩⟩,?_⟩
   obtain ⟨rfl,-,hW⟩:=HB.out
   exact ⟨F4,r4,s4,H5.out.far hT HI.out HX.out.2 hW,HM.out.off HI.out (Nat.le_refl _),HD.out⟩
 . simp only [if_neg ht] at cM
   generalize (if i=kp then 0 else 1)=R at*
   clear h1
   go_enter Tryz.func14,Tryz.ntmps14
   go_upto_region 1 with fail
   generalize w.alloc (.cells #[.int .i64 0, .slice none 0 0, .slice none 0 0, .slice none 0 0, .slice none 0 0] 43)=w1 at*
   obtain ⟨g,hg⟩:∃g,g=w.heap.size:=⟨_,rfl⟩
   rw [<-hg] at hx
   simp only [<-hg]
   have HX:=Lib.hid hx
   have HB:=Lib.hid (And.intro hg hb1)
   clear hx hg hb1
   go_wp2_with (first
    |(go_at_call 46;refine cM.out.mono ?_;rintro e w' ⟨rfl,rfl⟩)
    |(refine wpList_store_box rfl (.tmp 4) (.tmp 14) 43 rfl rfl g #[.int .i64 0, .slice none 0 0, .slice none 0 0, .slice none 0 0, .slice none 0 0] (ndCs nilN ⟨none,0,none,0,none,0,none,0⟩) (nodS rfl) rfl (nd_one _ _) rfl rfl HX.out ?_;intro w6 HZ hi;have HI:=Lib.hid hi;clear hi))
   have hl:=run_var_box (P:=Tryz.prog) nodU (nodS (C:=ndCs nilN ⟨none,0,none,0,none,0,none,0⟩) rfl) HZ.out
   refine bodyPost_ret (v:= .tuple #[.agg (ndCs nilN ⟨none,0,none,0,none,0,none,0⟩), .int .i64 4]) (by simp [results,Tryz.results14,asAddr,hl]) rfl ⟨⟨nilN,4,_,rfl,NdIn.nil _, .inr ⟨ht,rfl,rfl⟩⟩,?_⟩
   obtain ⟨rfl,hb⟩:=HB.out
   have hi:=HI.out
   exact (Out.same (H0.out.mono (Nat.le_add_right _ 2)) hT (hb.trans ⟨hi.os,hi.tape,hi.output,hi.size,fun k hk=>hi.block k (Nat.lt_of_lt_of_le hk hb.size) (by simp only [List.mem_singleton];omega)⟩) _ _)
end
end Sh
end Go.Proofs.YtjpjjnalpdpljaaGreatDoor
namespace Go.Proofs.YtjpjjnalpdpljaaGreatDoor
open Go.RowKit
namespace Sh
open Mem No Bt Po
open Ca (upF Few)
theorem fit_sz {n:Nd} (h:Fit n):Sz n:=⟨fun p hp=>Nat.le_trans (h.pk p hp) (by decide),fun m hm=>Nat.le_trans (h.bk m hm) (by decide),fun m hm=>Nat.le_trans (h.qk m hm) (by decide),Nat.le_trans h.kids (by decide),Nat.le_trans h.piv (by decide),Nat.le_trans h.buf (by decide),Nat.le_trans h.prs (by decide)⟩
section
variable {W w w1:World} {F F1:List Nat} {z:Ad} {c:Cfg} {tb:List Bool} {kp:Nat} {P:Nat->Nat} {f:Nat->List UInt8} {K r s:Nat} {A:Option Addr} {y:List UInt8}
structure NdA (w:World) (n:Nd) (a:At):Prop where
 nd:NdIn w n a
 fit:Fit n
 kid:∀k,k∈n.kids->k<4294967296
theorem NdA.kept {w w':World} {n:Nd} {a:At} (h:NdA w n a) (hb:Below w.heap.size w w'):NdA w' n a:=⟨h.nd.kept hb,h.fit,h.kid⟩
theorem off_new (h:Sv W w F z c tb kp P f K r s) (ha:FrB w1 w.heap.size A y):Off z F A y:=fun h0 a e hh=>by
 obtain ⟨g,o,C,e2,hg,-⟩:=ha.own h0
 rw [e] at e2
 cases e2
 have:=h.lt g (by simp only [List.mem_cons] at hh ⊢;rcases hh with hh|hh|hh<;>simp [hh])
 omega
theorem nod_cells {g:Nat} {n:Nd} {a:At} (hx:BoxAt 43 w g (ndCs n a)):w.cell? ⟨g,0,none⟩=some (.int .i64 n.lv)/\w.cell? ⟨g,1,none⟩=some (.slice a.kA n.kids.length a.kc)/\w.cell? ⟨g,2,none⟩=some (.slice a.pA n.piv.length a.pc)/\w.cell? ⟨g,3,none⟩=some (.slice a.bA n.buf.length a.bc)/\w.cell? ⟨g,4,none⟩=some (.slice a.qA n.prs.length a.qc):=⟨hx.cell rfl,hx.cell rfl,hx.cell rfl,hx.cell rfl,hx.cell rfl⟩
def EvEn (B m:Nat) (f0:Int) (s0:List UInt8) (v:Value) (w:World):Prop:=∃A cap,v= .tuple #[.slice A m cap, .int .i64 f0]/\FrB w B A s0
theorem enc_c {n:Nd} {a:At} (hc:Okc c) (hn:NdA w n a) {s0:List UInt8} {f0:Int} (he:EncP c n s0 f0) {m:Nat} (hm:m=s0.length) (hb:Below w.heap.size w w1):Hid (Calls Tryz.prog 71 #[.agg (cfCs c), .agg (ndCs n a)] w1 fun e w'=>(∃A cap,e= .returned (.tuple #[.slice A m cap, .int .i64 f0])/\FrB w' w1.heap.size A s0)/\Below w1.heap.size w1 w'):=by
 refine (Encode_c c (hn.nd.kept hb) (fit_sz hn.fit) hn.fit.kids hn.kid hc.2.1 he).mono ?_
 rintro e w' ⟨⟨A,cap,h1,h2,-⟩,h3⟩
 exact ⟨⟨A,cap,by rw [hm];exact h1,h2⟩,h3⟩
theorem enc_is {n:Nd} (hc:Okc c) {t:Bool} (hr:t=true↔RightA c n) {s0:List UInt8} {f0:Int} (he:EncP c n s0 f0):(t=true->s0=blockL c n/\f0=0/\(s0.length:Int)=c.bytes)/\(t=false->f0=3):=by
 refine ⟨fun e=>?_,fun e=>?_⟩
 . obtain ⟨rfl,rfl⟩:=he.one (.inr (.inr ⟨hr.1 e,rfl,rfl⟩))
   refine ⟨rfl,rfl,?_⟩
   rw [(block_cand (hr.1 e)).1]
   exact hc.nat.2.1
 . refine (he.one (.inr (.inl ⟨hc.1,fun hh=>?_,rfl,rfl⟩))).2
   rw [hr.2 hh] at e
   cases e
theorem Save_c (h:Sv W w F z c tb kp (kpF kp) f K r s) (hc:Okc c) (hT:Tab W) (hK:K<=900000) (i:Nat) {n:Nd} {a:At} (hn:NdA w n a) (t:Bool) (hr:t=true↔RightA c n):Calls Tryz.prog 35 #[.pointer (some ⟨z.p,0,none⟩), .int .u32 (i:Int), .agg (ndCs n a)] w fun e w'=>e= .returned (.int .i64 (if thr c i then (if t=true then 0 else 3) else 4))/\Out W w w' F z c tb kp (kpF kp) (if thr c i/\t=true then upF f i (blockL c n) else f) (K+2) r s 0 1:=by
 have hb1:Below w.heap.size w (w.alloc (.cells (ndCs n a) 43)):=(Below.refl _ _).alloc (Nat.le_refl _) _
 have hx:=BoxAt.new 43 w (ndCs n a)
 have h1:=h.kept hT hb1
 have cM:=Lib.hid (place_c h1 hc i)
 have H0:=Lib.hid h
 clear h
 by_cases ht:thr c i
 . simp only [if_pos ht] at cM
   obtain ⟨s0,f0,he⟩:=EncP.some c n
   obtain ⟨m,hm⟩:∃m,m=s0.length:=⟨_,rfl⟩
   have HE:=Lib.hid (And.intro hm (And.intro ht (enc_is hc hr he)))
   have cE:=fun {w1} (hb:Below w.heap.size w w1)=>enc_c hc hn he hm hb
   simp only [ht,true_and,if_true]
   clear hr he hn ht hm
   go_enter Tryz.func35,Tryz.ntmps35
   go_upto_region 1 with fail
   generalize w.alloc (.cells (ndCs n a) 43)=w1 at*
   obtain ⟨g,hg⟩:∃g,g=w.heap.size:=⟨_,rfl⟩
   rw [<-hg] at hx
   simp only [<-hg]
   have HB:=Lib.hid hb1
   have HX:=Lib.hid hx
   have H1:=Lib.hid h1
   clear hx hg hb1 h1
   go_upto_region 4 with (go_at_call 46;refine cM.out.mono ?_;rintro e w' ⟨rfl,rfl⟩)
   obtain ⟨c0,c1,c2,c3,c4,c5,c6,c7,-⟩:=H1.out.cells
   obtain ⟨e0,e1,e2,e3,e4⟩:=nod_cells HX.out
   have t0:=fun q:Drift.Tide [] w1 []=>Drift.Tide.cell c0 (by simp) q
   have t1:=fun q:Drift.Tide [] w1 []=>Drift.Tide.cell c1 (by simp) q
   have t2:=fun q:Drift.Tide [] w1 []=>Drift.Tide.cell c2 (by simp) q
   have t3:=fun q:Drift.Tide [] w1 []=>Drift.Tide.cell c3 (by simp) q
   have t4:=fun q:Drift.Tide [] w1 []=>Drift.Tide.cell c4 (by simp) q
   have t5:=fun q:Drift.Tide [] w1 []=>Drift.Tide.cell c5 (by simp) q
   have t6:=fun q:Drift.Tide [] w1 []=>Drift.Tide.cell c6 (by simp) q
   have t7:=fun q:Drift.Tide [] w1 []=>Drift.Tide.cell c7 (by simp) q
   have u0:=fun q:Drift.Tide [] w1 []=>Drift.Tide.cell e0 (by simp) q
   have u1:=fun q:Drift.Tide [] w1 []=>Drift.Tide.cell e1 (by simp) q
   have u2:=fun q:Drift.Tide [] w1 []=>Drift.Tide.cell e2 (by simp) q
   have u3:=fun q:Drift.Tide [] w1 []=>Drift.Tide.cell e3 (by simp) q
   have u4:=fun q:Drift.Tide [] w1 []=>Drift.Tide.cell e4 (by simp) q
   clear c0 c1 c2 c3 c4 c5 c6 c7 e0 e1 e2 e3 e4 HX cM
   refine Drift.wp_region_drift [] [(0,[]),(1,[]),(2,[]),(3,[]),(4,[]),(5,[]),(6,[]),(7,[]),(8,[]),(9,[]),(10,[])] [5] [] (by kernel_rfl) (by kernel_rfl) (by simp) ?_
   simp only [Drift.pick,Drift.opsAt,List.getElem?_toArray,List.getElem?_cons_zero,List.getElem?_cons_succ,List.cons_append,List.nil_append,List.filterMap_nil]
   repeat (refine Drift.walk_step (fun K hK=>?_);go_simp;(refine hK _ ?_;clear hK K))
   refine Drift.walk_event rfl Drift.mkwalk_nil (EvEn w1.heap.size m f0 s0) (fun W2 hk _=>?_) (fun y w4 hv hI _ hTd=>?_)
   . go_simp
     have hk2:Below w1.heap.size w1 W2:=hk
     go_at_call 71
     refine (cE (HB.out.trans (hk2.mono HB.out.size))).out.mono ?_
     rintro e w' ⟨⟨A,cap,rfl,hA⟩,hb⟩
     exact ⟨_,rfl,⟨A,cap,rfl,hA.mono hk2.size⟩,Flow.Into.of_below hb⟩
   obtain ⟨A,cap,rfl,hA⟩:=hv
   clear cE t0 t1 t2 t3 t4 t5 t6 t7 u0 u1 u2 u3 u4
   repeat (refine Drift.walk_step (fun K hK=>?_);go_simp;(refine hK _ ?_;clear hK K))
   refine Drift.walk_nil ?_
   intro w5 hb5 _
   have hb4:Below w1.heap.size w1 w5:=hI.below.trans ((show Below w4.heap.size w4 w5 from hb5).mono hI.below.size)
   have HA:=Lib.hid (And.intro (hA.bl.below hb5) (off_new H1.out hA))
   have H4:=Lib.hid (H1.out.kept hT hb4)
   have HB4:=Lib.hid (HB.out.trans (hb4.mono HB.out.size))
   clear hA hb5 hI hTd hb4 H1 HB
   simp only [List.length_cons,List.length_nil,List.drop_succ_cons,List.drop_zero,Nat.zero_add,Nat.reduceAdd]
   go_upto_region 5 with fail
   obtain ⟨hm,ht,hy,hn⟩:=HE.out
   cases t with
   |true=>
    obtain ⟨rfl,rfl,hl⟩:=hy rfl
    have cW4:=Lib.hid (write_c (cap:=cap) H4.out hc hT hK ht HA.out.1 hl HA.out.2)
    rw [<-hm] at cW4
    clear hm ht hy hn hl HE HA
    go_wp2_with (go_at_call 73;refine cW4.out.mono ?_;rintro e w5 ⟨rfl,ho⟩;have HO:=Lib.hid ho;clear ho cW4)
    go_ret
    obtain ⟨F',r',s',h5,h6,h7,h8⟩:=HO.out
    exact ⟨rfl,F',r',s',h5,(Mv.below z F HB4.out).trans h6,h7,h8⟩
   |false=>
    obtain rfl:=hn rfl
    clear hm ht hy hn HE HA
    go_wp2_with fail
    go_ret
    exact ⟨rfl,Out.same (H0.out.mono (Nat.le_add_right _ 2)) hT HB4.out _ _⟩
 . simp only [if_neg ht] at cM ⊢
   simp only [ht,false_and,if_false]
   clear h1
   go_enter Tryz.func35,Tryz.ntmps35
   go_upto_region 1 with fail
   generalize w.alloc (.cells (ndCs n a) 43)=w1 at*
   have HB:=Lib.hid hb1
   clear hx hb1
   go_wp2_with (go_at_call 46;refine cM.out.mono ?_;rintro e w' ⟨rfl,rfl⟩)
   go_ret
   exact ⟨rfl,Out.same (H0.out.mono (Nat.le_add_right _ 2)) hT HB.out _ _⟩
def MkP (c:Cfg) (tb:List Bool) (f:Nat->List UInt8) (n:Nd) (t:Bool) (k:Nat) (E:Int) (tb':List Bool) (f':Nat->List UInt8):Prop:=
 (t=false/\k=0/\E=3/\tb'=tb/\f'=f)\/(t=true/\free tb=0/\k=0/\E=11/\tb'=tb/\f'=f)\/(t=true/\Got tb 1 tb' [k]/\E=0/\f'=upF f k (blockL c n))
theorem Make_c (h:Sv W w F z c tb kp (kpF kp) f K r s) (hc:Okc c) (hT:Tab W) (hK:K<=900000) {n:Nd} {a:At} (hn:NdA w n a) (t:Bool) (hr:t=true↔RightA c n):Calls Tryz.prog 34 #[.pointer (some ⟨z.p,0,none⟩), .agg (ndCs n a)] w fun e w'=>∃(k:Nat) (E:Int) (tb':List Bool) (f':Nat->List UInt8),e= .returned (.tuple #[.int .u32 (k:Int), .int .i64 E])/\MkP c tb f n t k E tb' f'/\Out W w w' F z c tb' kp (kpF kp) f' (K+2) r s 0 1:=by
 have hb1:Below w.heap.size w (w.alloc (.cells (ndCs n a) 43)):=(Below.refl _ _).alloc (Nat.le_refl _) _
 have hx:=BoxAt.new 43 w (ndCs n a)
 have h1:=h.kept hT hb1
 have cM:=Lib.hid (isMade_c h1)
 have H0:=Lib.hid h
 clear h
 obtain ⟨s0,f0,he⟩:=EncP.some c n
 obtain ⟨m,hm⟩:∃m,m=s0.length:=⟨_,rfl⟩
 have HE:=Lib.hid (And.intro hm (enc_is hc hr he))
 have cE:=fun {w1} (hb:Below w.heap.size w w1)=>enc_c hc hn he hm hb
 clear hr he hn hm
 go_enter Tryz.func34,Tryz.ntmps34
 go_upto_region 1 with fail
 generalize w.alloc (.cells (ndCs n a) 43)=w1 at*
 obtain ⟨g,hg⟩:∃g,g=w.heap.size:=⟨_,rfl⟩
 rw [<-hg] at hx
 simp only [<-hg]
 have HB:=Lib.hid hb1
 have HX:=Lib.hid hx
 have H1:=Lib.hid h1
 clear hx hg hb1 h1
 go_upto_region 3 with (go_at_call 55;refine cM.out.mono ?_;rintro e w' ⟨rfl,rfl⟩)
 obtain ⟨c0,c1,c2,c3,c4,c5,c6,c7,-⟩:=H1.out.cells
 obtain ⟨e0,e1,e2,e3,e4⟩:=nod_cells HX.out
 have t0:=fun q:Drift.Tide [] w1 []=>Drift.Tide.cell c0 (by simp) q
 have t1:=fun q:Drift.Tide [] w1 []=>Drift.Tide.cell c1 (by simp) q
 have t2:=fun q:Drift.Tide [] w1 []=>Drift.Tide.cell c2 (by simp) q
 have t3:=fun q:Drift.Tide [] w1 []=>Drift.Tide.cell c3 (by simp) q
 have t4:=fun q:Drift.Tide [] w1 []=>Drift.Tide.cell c4 (by simp) q
 have t5:=fun q:Drift.Tide [] w1 []=>Drift.Tide.cell c5 (by simp) q
 have t6:=fun q:Drift.Tide [] w1 []=>Drift.Tide.cell c6 (by simp) q
 have t7:=fun q:Drift.Tide [] w1 []=>Drift.Tide.cell c7 (by simp) q
 have u0:=fun q:Drift.Tide [] w1 []=>Drift.Tide.cell e0 (by simp) q
 have u1:=fun q:Drift.Tide [] w1 []=>Drift.Tide.cell e1 (by simp) q
 have u2:=fun q:Drift.Tide [] w1 []=>Drift.Tide.cell e2 (by simp) q
 have u3:=fun q:Drift.Tide [] w1 []=>Drift.Tide.cell e3 (by simp) q
 have u4:=fun q:Drift.Tide [] w1 []=>Drift.Tide.cell e4 (by simp) q
 clear c0 c1 c2 c3 c4 c5 c6 c7 e0 e1 e2 e3 e4 HX cM
 refine Drift.wp_region_drift [] [(0,[]),(1,[]),(2,[]),(3,[]),(4,[]),(5,[]),(6,[]),(7,[]),(8,[]),(9,[]),(10,[])] [5] [] (by kernel_rfl) (by kernel_rfl) (by simp) ?_
 simp only [Drift.pick,Drift.opsAt,List.getElem?_toArray,List.getElem?_cons_zero,List.getElem?_cons_succ,List.cons_append,List.nil_append,List.filterMap_nil]
 repeat (refine Drift.walk_step (fun K hK=>?_);go_simp;(refine hK _ ?_;clear hK K))
 refine Drift.walk_event rfl Drift.mkwalk_nil (EvEn w1.heap.size m f0 s0) (fun W2 hk _=>?_) (fun y w4 hv hI _ hTd=>?_)
 . go_simp
   have hk2:Below w1.heap.size w1 W2:=hk
   go_at_call 71
   refine (cE (HB.out.trans (hk2.mono HB.out.size))).out.mono ?_
   rintro e w' ⟨⟨A,cap,rfl,hA⟩,hb⟩
   exact ⟨_,rfl,⟨A,cap,rfl,hA.mono hk2.size⟩,Flow.Into.of_below hb⟩
 obtain ⟨A,cap,rfl,hA⟩:=hv
 clear cE t0 t1 t2 t3 t4 t5 t6 t7 u0 u1 u2 u3 u4
 repeat (refine Drift.walk_step (fun K hK=>?_);go_simp;(refine hK _ ?_;clear hK K))
 refine Drift.walk_nil ?_
 intro w5 hb5 _
 have hb4:Below w1.heap.size w1 w5:=hI.below.trans ((show Below w4.heap.size w4 w5 from hb5).mono hI.below.size)
 have HA:=Lib.hid (And.intro (hA.bl.below hb5) (off_new H1.out hA))
 have H4:=Lib.hid (H1.out.kept hT hb4)
 have HB4:=Lib.hid (HB.out.trans (hb4.mono HB.out.size))
 clear hA hb5 hI hTd hb4 H1 HB
 simp only [List.length_cons,List.length_nil,List.drop_succ_cons,List.drop_zero,Nat.zero_add,Nat.reduceAdd]
 go_upto_region 4 with fail
 obtain ⟨hm,hy,hn⟩:=HE.out
 cases t with
 |false=>
  obtain rfl:=hn rfl
  clear hm hy hn HE HA
  go_wp2_with fail
  exact bodyPost_ret (v:= .tuple #[.int .u32 ((0:Nat):Int), .int .i64 3]) (by simp [results,Tryz.results34,go_sem]) rfl ⟨0,3,tb,f,rfl, .inl ⟨rfl,rfl,rfl,rfl,rfl⟩,Out.same (H0.out.mono (Nat.le_add_right _ 2)) hT HB4.out _ _⟩
 |true=>
  obtain ⟨rfl,rfl,hl⟩:=hy rfl
  obtain ⟨-,-,-,-,-,-,-,-,-,-,c10,-⟩:=H4.out.cells
  by_cases hf:free tb=0
  . have cK:=Lib.hid (Take_full H4.out.pw hf)
    clear hm hy hn HE HA hl
    go_wp2_with (go_at_call 72;refine cK.out.mono ?_;rintro e w' ⟨rfl,rfl⟩)
    exact bodyPost_ret (v:= .tuple #[.int .u32 ((0:Nat):Int), .int .i64 11]) (by simp [results,Tryz.results34,go_sem]) rfl ⟨0,11,tb,f,rfl, .inr (.inl ⟨rfl,hf,rfl,rfl,rfl,rfl⟩),Out.same (H0.out.mono (Nat.le_add_right _ 2)) hT HB4.out _ _⟩
  . have cK:=Lib.hid (Take_ok H4.out.pw hT (by omega))
    have HL:=Lib.hid (And.intro hm hl)
    clear hm hy hn HE hl hf
    go_upto_region 9 with (go_at_call 72;refine cK.out.mono ?_;rintro e w5 ⟨t,k,rfl,hg,hp,hi⟩;have HG:=Lib.hid hg;have HP:=Lib.hid (And.intro hp hi);clear hg hp hi cK c10)
    obtain ⟨g1,g2,g3⟩:=got_first HG.out H4.out.tb0
    obtain ⟨F',r',s',h5,m5,d5⟩:=H4.out.pool HP.out.1 HP.out.2 g1 g2
    obtain ⟨ho,hA⟩:=HA.out.2.move HA.out.1 m5
    have hk:thr c k:=⟨g3,by have:=HG.out.lt (x:=k) (by simp);have:=H4.out.len;omega⟩
    have cW5:=Lib.hid (write_c (cap:=cap) h5 hc hT hK hk hA HL.out.2 ho)
    rw [<-HL.out.1] at cW5
    have HM:=Lib.hid (And.intro ((Mv.below z F HB4.out).trans m5) d5)
    clear g1 g2 g3 h5 m5 d5 ho hA hk HL HA HP
    go_wp2_with (go_at_call 73;refine cW5.out.mono ?_;rintro e w6 ⟨rfl,ho⟩;have HO:=Lib.hid ho;clear ho cW5)
    refine bodyPost_ret (v:= .tuple #[.int .u32 (k:Int), .int .i64 0]) (by simp [results,Tryz.results34,go_sem]) rfl ⟨k,0,t,_,rfl, .inr (.inr ⟨rfl,HG.out,rfl,rfl⟩),?_⟩
    have h9:=Out.then HM.out.1 HM.out.2.1 HM.out.2.2 HO.out
    exact h9.mono (by omega) (by omega)
end
end Sh
end Go.Proofs.YtjpjjnalpdpljaaGreatDoor
namespace Go.Proofs.YtjpjjnalpdpljaaGreatDoor
open Go.RowKit
namespace Sh
open Mem No Bt Po
open Ca (upF Few)
def zer (c:Cfg):List (List UInt8):=List.replicate c.blocks.toNat (List.replicate c.bytes.toNat 0)
def BegP (W w w':World) (c:Cfg) (e:Ending):Prop:=(∃F z,e= .returned (.tuple #[.pointer (some ⟨z.p,0,none⟩), .pointer (some ⟨z.g,0,none⟩)])/\Sv W w' F z c (tbN c.blocks.toNat) 0 (kpF 0) (fls (zer c)) 0 0 0)/\Below w.heap.size w w'
section
variable {W w:World} {c:Cfg}
theorem Begun_c (hc:Okc c) (hT:Tab W) (hW:Below W.heap.size W w):Calls Tryz.prog 9 #[.agg (cfCs c)] w fun e w'=>BegP W w w' c e:=by
 have hn:=hc.nat
 have cD:∀w,Hid (Calls Tryz.prog 29 #[.int .i64 c.blocks, .int .i64 c.bytes] w fun e w'=>Dv.Made w w' c.bytes.toNat (zer c) 0 0 e/\Below w.heap.size w w'):=fun w=>by
  have:=Dv.New_in c.blocks.toNat c.bytes.toNat w (by omega) (by omega) (by omega) (by omega)
  rw [hn.1,hn.2.1] at this
  exact this
 have cN:∀{w S g},Below W.heap.size W w->Dv.Dev w S g c.bytes.toNat (zer c) 0 0->(∀x,x∈S->W.heap.size<=x)->Hid (Calls Tryz.prog 30 #[.agg (cfCs c), .pointer (some ⟨g,0,none⟩)] w fun e w'=>(∃F z,e= .returned (.tuple #[.pointer (some ⟨z.p,0,none⟩), .int .i64 0])/\z.g=g/\Sv W w' F z c (tbN c.blocks.toNat) 0 (kpF 0) (fls (zer c)) 0 0 0)/\Below w.heap.size w w'):=fun hb hd hS=>New_c hc hT hb hd (by unfold zer;rw [List.length_replicate];exact hn.1) hn.2.1 hS ⟨Nat.le_refl _,Nat.le_refl _⟩
 have hx:=BoxAt.new 23 w (cfCs c)
 have hb1:Below w.heap.size w (w.alloc (.cells (cfCs c) 23)):=(Below.refl _ _).alloc (Nat.le_refl _) _
 clear hc hn
 go_enter Tryz.func9,Tryz.ntmps9
 go_upto_region 1 with fail
 generalize w.alloc (.cells (cfCs c) 23)=w1 at*
 obtain ⟨a,ha⟩:∃a,a=w.heap.size:=⟨_,rfl⟩
 rw [<-ha] at hx
 simp only [<-ha]
 obtain ⟨d0,d1,-⟩:=cfg_cells hx
 have HX:=Lib.hid hx
 have HB:=Lib.hid hb1
 clear hx hb1 ha
 go_upto_region 2 with (go_at_call 29;refine (cD _).out.mono ?_;rintro e w2 ⟨⟨g,S,rfl,hd,hS⟩,hb⟩;have HD:=Lib.hid (And.intro hd (And.intro hS HB.out.size));replace HB:=Lib.hid (HB.out.trans (hb.mono HB.out.size));replace HX:=Lib.hid (HX.out.kept hb);clear hd hS hb cD d0 d1)
 have cN2:=cN (hW.trans (HB.out.mono hW.size)) HD.out.1 (fun x hx=>Nat.le_trans hW.size (Nat.le_trans HD.out.2.2 (HD.out.2.1 x hx)))
 clear cN HD
 go_upto_region 3 with (first
  |(refine wpList_load_box rfl (.tmp 1) 23 rfl cfgU a (cfCs c) (cfgS rfl) rfl HX.out ?_)
  |(go_at_call 30;refine cN2.out.mono ?_;rintro e w3 ⟨⟨F,z,rfl,hz,hs⟩,hb⟩;have HS:=Lib.hid (And.intro hz hs);replace HB:=Lib.hid (HB.out.trans (hb.mono HB.out.size));clear hz hs hb cN2 HX))
 go_wp2_with fail
 refine bodyPost_ret (v:= .tuple #[.pointer (some ⟨z.p,0,none⟩), .pointer (some ⟨g,0,none⟩)]) (by simp [results,Tryz.results9,go_sem]) rfl ⟨⟨F,z,?_,HS.out.2⟩,HB.out⟩
 rw [HS.out.1]
def cLe:Cfg:=⟨9,200,8,8,16,16,2,1⟩
theorem least_any (W:World):Calls Tryz.prog 39 #[] W fun e w'=>e= .returned (.agg (cfCs cLe))/\Below W.heap.size W w':=by
 have hb1:Below W.heap.size W (W.alloc (.cells #[.int .i64 0, .int .i64 0, .int .i64 0, .int .i64 0, .int .i64 0, .int .i64 0, .int .i64 0, .int .i64 0] 23)):=(Below.refl _ _).alloc (Nat.le_refl _) _
 have hx:=BoxAt.new 23 W #[.int .i64 0, .int .i64 0, .int .i64 0, .int .i64 0, .int .i64 0, .int .i64 0, .int .i64 0, .int .i64 0]
 go_enter Tryz.func39,Tryz.ntmps39
 go_upto_region 1 with fail
 generalize W.alloc (.cells #[.int .i64 0, .int .i64 0, .int .i64 0, .int .i64 0, .int .i64 0, .int .i64 0, .int .i64 0, .int .i64 0] 23)=w1 at*
 have HX:=Lib.hid hx
 have HB:=Lib.hid hb1
 clear hx hb1
 go_wp2_with (refine wpList_store_box rfl (.tmp 0) (.tmp 1) 23 rfl rfl W.heap.size #[.int .i64 0, .int .i64 0, .int .i64 0, .int .i64 0, .int .i64 0, .int .i64 0, .int .i64 0, .int .i64 0] (cfCs cLe) (cfgS rfl) rfl (cfg_one cLe) rfl rfl HX.out ?_;intro w3 HZ hi;have HI:=Lib.hid hi;clear hi)
 have hl:=run_var_box (P:=Tryz.prog) cfgU (cfgS (C:=cfCs cLe) rfl) HZ.out
 refine bodyPost_ret (v:= .agg (cfCs cLe)) (by simp [results,Tryz.results39,asAddr,hl]) rfl ⟨rfl,?_⟩
 have hb:=HB.out
 have hi:=HI.out
 exact hb.trans ⟨hi.os,hi.tape,hi.output,hi.size,fun k hk=>hi.block k (Nat.lt_of_lt_of_le hk hb.size) (by simp only [List.mem_singleton];omega)⟩
theorem le_ok:Okc cLe:=⟨by unfold Cf.Right Cf.Shape Cf.few Cf.inn Cf.out cLe;decide,by decide,by decide⟩
theorem le_right:RightA cLe nilN:=⟨le_ok.1,fun _=>⟨fun p hp=>(by cases hp),rfl,rfl,rfl,by decide,fun i a b ha=>(by cases ha)⟩,fun h=>absurd rfl h⟩
def tE:List Bool:=[true,true,false,false,false,false,false,false,false]
def fE:Nat->List UInt8:=upF (fls (zer cLe)) 1 (blockL cLe nilN)
theorem le_made {k:Nat} {E:Int} {tb':List Bool} {f':Nat->List UInt8} (h:MkP cLe (tbN 9) (fls (zer cLe)) nilN true k E tb' f'):k=1/\E=0/\tb'=tE/\f'=fE:=by
 rcases h with ⟨h,-⟩|⟨-,h,-⟩|⟨-,h,rfl,rfl⟩
 . cases h
 . exact absurd h (by decide)
 . have hg:Got (tbN 9) 1 tE [1]:=⟨2,by decide,by decide,by decide,rfl⟩
   obtain ⟨rfl,h2⟩:=h.one hg
   obtain rfl:k=1:=by simpa using h2
   exact ⟨rfl,rfl,rfl,rfl⟩
theorem le_none {n:Nd} {E:Int} (h:LdP cLe fE 2 n E):n=nilN/\E=12:=by
 rcases h with ⟨-,h⟩|⟨h,-⟩
 . have hf:fE 2=List.replicate 200 0:=by
    unfold fE upF
    rw [if_neg (by decide)]
    unfold fls zer
    rw [List.getElem?_replicate,if_pos (by decide)]
    rfl
   rw [hf] at h
   exact h.one (.inr (.inl ⟨le_ok.1,fun m hm=>block_zero _ _ _ hm.2,rfl,rfl⟩))
 . exact absurd (show thr cLe 2 from by decide) h
theorem nda_nil (w:World):NdA w nilN ⟨none,0,none,0,none,0,none,0⟩:=⟨NdIn.nil w,⟨by decide,by decide,by decide,by decide,fun p hp=>(by cases hp),fun p hp=>(by cases hp),fun p hp=>(by cases hp)⟩,fun k hk=>by cases hk⟩
theorem Awake_any (W:World) (hT:Tab W):Calls Tryz.prog 8 #[] W fun e w'=>e= .returned (.bool true)/\Below W.heap.size W w':=by
 have cL:=fun w=>Lib.hid (least_any w)
 have cB:∀{w},Below W.heap.size W w->Hid (Calls Tryz.prog 9 #[.agg (cfCs cLe)] w fun e w'=>BegP W w w' cLe e):=fun hb=>Begun_c le_ok hT hb
 have cM:∀{w F z},Sv W w F z cLe (tbN 9) 0 (kpF 0) (fls (zer cLe)) 0 0 0->Hid (Calls Tryz.prog 34 #[.pointer (some ⟨z.p,0,none⟩), .agg #[.int .i64 0, .slice none 0 0, .slice none 0 0, .slice none 0 0, .slice none 0 0]] w fun e w'=>e= .returned (.tuple #[.int .u32 1, .int .i64 0])/\∃F' r s,Sv W w' F' z cLe tE 0 (kpF 0) fE 2 r s):=fun h=>(Make_c h le_ok hT (Nat.zero_le _) (nda_nil _) true ⟨fun _=>le_right,fun _=>rfl⟩).mono fun e w' ⟨k,E,tb',f',he,hm,F',r,s,hs,_⟩=>by
  obtain ⟨rfl,rfl,rfl,rfl⟩:=le_made hm
  exact ⟨he,F',r,s,hs⟩
 have cD:∀{w F z r s},Sv W w F z cLe tE 0 (kpF 0) fE 2 r s->Hid (Calls Tryz.prog 14 #[.pointer (some ⟨z.p,0,none⟩), .int .u32 2] w fun e w'=>(∃a,e= .returned (.tuple #[.agg (ndCs nilN a), .int .i64 12]))/\∃F' r' s',Sv W w' F' z cLe tE 0 (kpF 0) fE 4 r' s'):=fun h=>(Load_c h le_ok hT (by decide) 2 (by decide)).mono fun e w' ⟨⟨n,E,a,he,_,hd⟩,F',r,s,hs,_⟩=>by
  obtain ⟨rfl,rfl⟩:=le_none hd
  exact ⟨⟨a,he⟩,F',r,s,hs⟩
 have cF:∀{w F z r s},Sv W w F z cLe tE 0 (kpF 0) fE 4 r s->Hid (Calls Tryz.prog 17 #[.pointer (some ⟨z.p,0,none⟩)] w fun e w'=>e= .returned (.int .i64 7)/\w=w'):=fun h=>Left_c h
 have cH:∀{w F z r s},Sv W w F z cLe tE 0 (kpF 0) fE 4 r s->Hid (Calls Tryz.prog 22 #[.pointer (some ⟨z.p,0,none⟩), .int .u32 1] w fun e w'=>e= .returned (.bool true)/\Below w.heap.size w w'):=fun h=>Has_c h hT 1 (by decide)
 go_enter Tryz.func8,Tryz.ntmps8
 go_upto_region 5 with (first
  |(go_at_call 39;refine (cL _).out.mono ?_;rintro e w1 ⟨rfl,hb⟩;have HB:=Lib.hid hb;clear hb cL)
  |(go_at_call 9;refine (cB HB.out).out.mono ?_;rintro e w2 ⟨⟨F,z,rfl,hs⟩,-⟩;have HS:=Lib.hid hs;clear hs cB HB)
  |(go_at_call 34;refine (cM HS.out).out.mono ?_;rintro e w3 ⟨rfl,F3,r3,s3,hs⟩;have HS3:=Lib.hid hs;clear hs cM HS))
 go_upto_region 6 with (first
  |(go_at_call 14;refine (cD HS3.out).out.mono ?_;rintro e w4 ⟨⟨a,rfl⟩,F4,r4,s4,hs⟩;have HS4:=Lib.hid hs;clear hs cD HS3)
  |(refine wpList_store_box rfl (.tmp 5) (.tmp 23) 43 rfl rfl w4.heap.size #[.int .i64 0, .slice none 0 0, .slice none 0 0, .slice none 0 0, .slice none 0 0] (ndCs nilN a) (nodS rfl) rfl (nd_one nilN a) rfl rfl (BoxAt.new _ _ _) ?_;intro w5 HZ hi;have HI:=Lib.hid hi;clear hi HZ))
 have hb5:Below w4.heap.size w4 w5:=by
  have hi:=HI.out
  have hz:(w4.alloc (.cells #[.int .i64 0, .slice none 0 0, .slice none 0 0, .slice none 0 0, .slice none 0 0] 43)).heap.size=w4.heap.size+1:=by simp
  have h0:Below w4.heap.size w4 (w4.alloc (.cells #[.int .i64 0, .slice none 0 0, .slice none 0 0, .slice none 0 0, .slice none 0 0] 43)):=(Below.refl _ _).alloc (Nat.le_refl _) _
  exact h0.trans ⟨hi.os,hi.tape,hi.output,hi.size,fun k hk=>hi.block k (by omega) (by simp only [List.mem_singleton];omega)⟩
 have cF5:=cF (HS4.out.kept hT hb5)
 have cH5:=cH (HS4.out.kept hT hb5)
 have HS5:=Lib.hid (HS4.out.kept hT hb5)
 clear HS4 HI hb5 cF cH
 go_wp2_with (first
  |(go_at_call 17;refine cF5.out.mono ?_;rintro e w6 ⟨rfl,rfl⟩)
  |(go_at_call 22;refine cH5.out.mono ?_;rintro e w7 ⟨rfl,hb⟩;have HB7:=Lib.hid (HS5.out.kept hT hb).below;clear hb))
 go_ret
 exact ⟨rfl,HB7.out⟩
end
end Sh
end Go.Proofs.YtjpjjnalpdpljaaGreatDoor
