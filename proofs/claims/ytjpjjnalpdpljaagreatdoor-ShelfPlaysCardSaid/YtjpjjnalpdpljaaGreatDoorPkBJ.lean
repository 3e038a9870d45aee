import Derived.Test.YtjpjjnalpdpljaaGreatDoorPkBE
import Derived.Test.YtjpjjnalpdpljaaGreatDoorPqCodeD7
import Derived.Test.YtjpjjnalpdpljaaGreatDoorPkAS
import Derived.Test.YtjpjjnalpdpljaaGreatDoorPkAV
import Derived.Test.YtjpjjnalpdpljaaGreatDoorPqDrift
set_option maxHeartbeats 8000000
set_option maxRecDepth 100000
namespace Go.Proofs.YtjpjjnalpdpljaaGreatDoor
open Go.RowKit
open Go.Lib (hid)
namespace No
open Mem Lx Bu Lf Fa
def RdT (c:Cfg) (b:List UInt8) (lv:Int) (z:At) (kn pn bn qn:Nat) (ok:Bool) (w:World):Prop:=∃n,(n.lv=lv/\n.kids.length=kn/\n.piv.length=pn/\n.buf.length=bn/\n.prs.length=qn)/\gK w n z/\lV c b n ok
theorem zH (c:Cfg) {A:Option Addr} {cap:Nat} {b:List UInt8} {W:World} (h:BL W A b) (hb:b.length<=4000) (hc:c.bytes<=3000):Calls Tryz.prog 28 #[.agg (aZ c),.slice A b.length cap] W fun e w'=>(∃v,e=.returned v/\xV c b v w')/\Bw W w':=by
 by_cases hcr:Cf.Right c.blocks c.bytes c.frames c.fan c.buffer c.leaf c.key c.val
 case neg=>
  have cQ:∀w,Hid (CB 61 #[.agg (aZ c)] w (.int .i64 2)):=fun w=>Cf.yZ c.blocks c.bytes c.frames c.fan c.buffer c.leaf c.key c.val w hcr
  have HN:Hid (∀{w},xV c b (.tuple #[.agg #[(0:Int),(),(),(),()],(2:Int)]) w):=fun {w}=>⟨qm,2,⟨none,0,none,0,none,0,none,0⟩,rfl,gK.nil w,.inl ⟨hcr,rfl,rfl⟩⟩;generalize xV c b=E at*;generalize b.length=bn at*;clear h hb hc hcr;obtain ⟨cB,cY,cF,cN,cU,cL,cKy,cV⟩:=c;unfold aZ at*;simp only at*;go_enter Tryz.func28,Tryz.ntmps28
  go_upto_region 1 with fail
  have HB:=hid (Bx2.new W (.cells #[cB,cY,cF,cN,cU,cL,cKy,cV] 23) (.cells #[(0:Int),(),(),(),()] 43));generalize (W.alloc (.cells #[cB,cY,cF,cN,cU,cL,cKy,cV] 23)).alloc (.cells #[(0:Int),(),(),(),()] 43)=w1 at*;obtain ⟨g,hg⟩:∃g,g=W.heap.size:=⟨_,rfl⟩
  rw [<-hg] at HB;have HWG:Hid (W.heap.size<=g):=Nat.le_of_eq hg.symm;simp only [<-hg];clear hg;obtain ⟨g0,g1,g2,g3,g4,g5,g6,g7⟩:=aT HB.out.x;go_upto_region 2 with (go_at_call 61;refine (cQ _).out.mono ?_;rintro e w2 ⟨rfl,hb⟩;replace HB:=hid (HB.out.kept hb);clear hb cQ g0 g1 g2 g3 g4 g5 g6 g7)
  obtain ⟨y0,y1,y2,y3,y4⟩:=aG HB.out.y;have f0:=bG HB.out.y 0;have f1:=bG HB.out.y 1;have f2:=bG HB.out.y 2;have f3:=bG HB.out.y 3;have f4:=bG HB.out.y 4
  have HU:=hid (eP HB.out.y (.int .i64 0) (.slice none 0 0) (.slice none 0 0) (.slice none 0 0) (.slice none 0 0));have HBW:=hid (fM HB.out.below (Nat.le_succ_of_le HWG.out) (.int .i64 0) (.slice none 0 0) (.slice none 0 0) (.slice none 0 0) (.slice none 0 0));unfold sN at HU HBW;go_wp2_with fail
  generalize ((((w2.setCell ⟨g+1,0,none⟩ (0:Int)).setCell ⟨g+1,1,none⟩ ()).setCell ⟨g+1,2,none⟩ ()).setCell ⟨g+1,3,none⟩ ()).setCell ⟨g+1,4,none⟩ ()=w91 at*;clear y0 y1 y2 y3 y4 f0 f1 f2 f3 f4;obtain ⟨y0,y1,y2,y3,y4⟩:=aG HU.out;exact bodyPost_ret (v:= .tuple #[.agg #[(0:Int),(),(),(),()],(2:Int)]) (by simp [results,Tryz.results28,go_sem,y0,y1,y2,y3,y4]) rfl ⟨⟨_,rfl,HN.out⟩,HBW.out⟩
 have cQ:∀w,Hid (CB 61 #[.agg (aZ c)] w (.int .i64 0)):=fun w=>Cf.pq c.blocks c.bytes c.frames c.fan c.buffer c.leaf c.key c.val w hcr
 obtain ⟨F,Bf,Lf',K,V,hs⟩:=uS hcr
 have cRd:∀w,Bw W w->Hid (Calls Tryz.prog 62 #[.agg (aZ c),.slice A b.length cap] w fun e w'=>(∃lv kA kn kc pA pn pc bA bn bc qA qn qc ok,e=.returned (.tuple #[.agg #[(lv:Int),.slice kA kn kc,.slice pA pn pc,.slice bA bn bc,.slice qA qn qc],.bool ok])/\RdT c b lv ⟨kA,kc,pA,pc,bA,bc,qA,qc⟩ kn pn bn qn ok w')/\Bw w w'):=fun w hw=>by
  have hl:b.length=c.bytes.toNat\/b.length≠c.bytes.toNat:=by omega
  have h9:Calls Tryz.prog 62 #[.agg (aZ c),.slice A b.length cap] w fun e w'=>∃n z ok,e=.returned (.tuple #[.agg (bL n z),.bool ok])/\gK w' n z/\Bw w w'/\lV c b n ok:=by
   rcases hl with hl|hl
   . exact Fb c hs (h.below hw) hb hc hl
   . exact Bo c hs (h.below hw) hb hc hl
  exact h9.mono fun e w' ⟨n,z,ok,he,h1,h2,h3⟩=>⟨⟨n.lv,z.kA,n.kids.length,z.kc,z.pA,n.piv.length,z.pc,z.bA,n.buf.length,z.bc,z.qA,n.prs.length,z.qc,ok,he,n,⟨rfl,rfl,rfl,rfl,rfl⟩,h1,h3⟩,h2⟩
 have cIs:∀n,∃t:Bool,(t=true↔gI c ⟨#[]⟩ ⟨#[]⟩ true n)/\∀z w,gK w n z->Sz n->n.kids.length<=80->(∀k,k∈n.kids->k<4294967296)->Hid (CB 63 #[.agg (aZ c),.agg (bL n z)] w (.bool t)):=fun n=>by
  obtain ⟨t,ht⟩:=bU (gI c ⟨#[]⟩ ⟨#[]⟩ true n);exact ⟨t,ht,fun z w h1 h2 h3 h4=>pU c h1 h2 h3 h4 t ht⟩
 have HN:Hid (∀{w},(∀m,¬(bQ c m/\aJ c m=b))->xV c b (.tuple #[.agg #[(0:Int),(),(),(),()],(12:Int)]) w):=fun {w} hno=>⟨qm,12,⟨none,0,none,0,none,0,none,0⟩,rfl,gK.nil w,.inr (.inl ⟨hcr,hno,rfl,rfl⟩)⟩;have HY:Hid (∀{w n z},gK w n z->gI c ⟨#[]⟩ ⟨#[]⟩ true n->aJ c n=b->xV c b (.tuple #[.agg (bL n z),(0:Int)]) w):=fun {w n z} h1 h2 h3=>⟨n,0,z,rfl,h1,.inr (.inr ⟨⟨hcr,h2⟩,h3,rfl⟩)⟩;generalize xV c b=E at*;generalize hbl:b.length=bl at*;clear h hb hc hs hcr hbl;have HCC:Hid (∃c',c'=c):=⟨c,rfl⟩;obtain ⟨c',hcc⟩:=HCC.out;rw [<-hcc] at cIs cRd HN HY;obtain ⟨cB,cY,cF,cN,cU,cL,cKy,cV⟩:=c;have hcf:aZ c'= #[.int .i64 cB,.int .i64 cY,.int .i64 cF,.int .i64 cN,.int .i64 cU,.int .i64 cL,.int .i64 cKy,.int .i64 cV]:=by rw [hcc];rfl
 rw [hcf] at cRd;unfold aZ at cQ;simp only [hcf] at cIs;unfold aZ;simp only at*;clear HCC hcc hcf;go_enter Tryz.func28,Tryz.ntmps28
 go_upto_region 1 with fail
 have HB:=hid (Bx2.new W (.cells #[cB,cY,cF,cN,cU,cL,cKy,cV] 23) (.cells #[(0:Int),(),(),(),()] 43));generalize (W.alloc (.cells #[cB,cY,cF,cN,cU,cL,cKy,cV] 23)).alloc (.cells #[(0:Int),(),(),(),()] 43)=w1 at*;obtain ⟨g,hg⟩:∃g,g=W.heap.size:=⟨_,rfl⟩
 rw [<-hg] at HB;have HWG:Hid (W.heap.size<=g):=Nat.le_of_eq hg.symm;simp only [<-hg];clear hg;obtain ⟨g0,g1,g2,g3,g4,g5,g6,g7⟩:=aT HB.out.x;go_upto_region 3 with (go_at_call 61;refine (cQ _).out.mono ?_;rintro e w2 ⟨rfl,hb⟩;replace HB:=hid (HB.out.kept hb);clear hb cQ g0 g1 g2 g3 g4 g5 g6 g7)
 obtain ⟨g0,g1,g2,g3,g4,g5,g6,g7⟩:=aT HB.out.x;go_upto_region 4 with (go_at_call 62;refine (cRd _ HB.out.below).out.mono ?_;rintro e w3 ⟨⟨lv,kA,kn,kc,pA,pn,pc,bA,bn,bc,qA,qn,qc,ok,rfl,n,heq,hni,her⟩,hb⟩;replace HB:=hid (HB.out.kept hb);have HEQ:=hid heq;have HNI:=hid hni;have HER:=hid her;clear heq hni her hb cRd g0 g1 g2 g3 g4 g5 g6 g7)
 have hxn:=heap_alloc_new w3 (.cells #[lv,.slice kA kn kc,.slice pA pn pc,.slice bA bn bc,.slice qA qn qc] 43);have hbl:Bw w3 (w3.alloc (.cells #[lv,.slice kA kn kc,.slice pA pn pc,.slice bA bn bc,.slice qA qn qc] 43)):=bAx;have HNB:Hid (g+1<w3.heap.size):=(Array.getElem?_eq_some_iff.1 HB.out.y).1;generalize w3.alloc (.cells #[lv,.slice kA kn kc,.slice pA pn pc,.slice bA bn bc,.slice qA qn qc] 43)=w4 at*;obtain ⟨nb,hnb⟩:∃nb,nb=w3.heap.size:=⟨_,rfl⟩
 rw [<-hnb] at hxn HNB;simp only [<-hnb];have HXN:=hid hxn;replace HB:=hid (HB.out.kept hbl);replace HNI:=hid (HNI.out.kept hbl);clear hxn hbl hnb;cases ok with
 |false=>
  have HN2:Hid (∀{w},E (.tuple #[.agg #[(0:Int),(),(),(),()],(12:Int)]) w):=HN.out fun m hm=>HER.out.2 rfl m hm.1 hm.2;clear HN HY cIs HER;go_upto_region 5 with fail
  obtain ⟨y0,y1,y2,y3,y4⟩:=aG HB.out.y;have f0:=bG HB.out.y 0;have f1:=bG HB.out.y 1;have f2:=bG HB.out.y 2;have f3:=bG HB.out.y 3;have f4:=bG HB.out.y 4
  have HU:=hid (eP HB.out.y (.int .i64 0) (.slice none 0 0) (.slice none 0 0) (.slice none 0 0) (.slice none 0 0));have HBW:=hid (fM HB.out.below (Nat.le_succ_of_le HWG.out) (.int .i64 0) (.slice none 0 0) (.slice none 0 0) (.slice none 0 0) (.slice none 0 0));unfold sN at HU HBW;go_wp2_with fail
  generalize ((((w4.setCell ⟨g+1,0,none⟩ (0:Int)).setCell ⟨g+1,1,none⟩ ()).setCell ⟨g+1,2,none⟩ ()).setCell ⟨g+1,3,none⟩ ()).setCell ⟨g+1,4,none⟩ ()=w91 at*;clear y0 y1 y2 y3 y4 f0 f1 f2 f3 f4;obtain ⟨y0,y1,y2,y3,y4⟩:=aG HU.out;exact bodyPost_ret (v:= .tuple #[.agg #[(0:Int),(),(),(),()],(12:Int)]) (by simp [results,Tryz.results28,go_sem,y0,y1,y2,y3,y4]) rfl ⟨⟨_,rfl,HN2.out⟩,HBW.out⟩
 |true=>
  obtain ⟨h1,⟨h2,h3,h4⟩,h5⟩:=HER.out.1 rfl;obtain ⟨t,ht,cI⟩:=cIs n
  have cI2:∀w,gK w n ⟨kA,kc,pA,pc,bA,bc,qA,qc⟩->Hid (CB 63 #[.agg #[cB,cY,cF,cN,cU,cL,cKy,cV],.agg #[lv,.slice kA kn kc,.slice pA pn pc,.slice bA bn bc,.slice qA qn qc]] w (.bool t)):=fun w h=>by
   have h9:=cI _ w h h2 h3 h4;obtain ⟨q1,q2,q3,q4,q5⟩:=HEQ.out;unfold bL at h9;simp only [q1,q2,q3,q4,q5] at h9;exact h9
  obtain ⟨g0,g1,g2,g3,g4,g5,g6,g7⟩:=aT HB.out.x;obtain ⟨z0,z1,z2,z3,z4⟩:=aG HXN.out;have HB1:=hid h1;have HB5:=hid h5;have HT:=hid ht;clear h1 h2 h3 h4 h5 ht cI cIs HER;cases t with
  |false=>
   have HN2:Hid (∀{w},E (.tuple #[.agg #[(0:Int),(),(),(),()],(12:Int)]) w):=HN.out fun m hm=>by
    have h9:=HB5.out m hm.1 hm.2;subst h9;cases HT.out.2 hm.1.2
   clear HN HY HB5 HT;go_upto_region 5 with (go_at_call 63;refine (cI2 _ HNI.out).out.mono ?_;rintro e w5 ⟨rfl,hb⟩;replace HB:=hid (HB.out.kept hb);clear hb cI2 g0 g1 g2 g3 g4 g5 g6 g7 z0 z1 z2 z3 z4)
   obtain ⟨y0,y1,y2,y3,y4⟩:=aG HB.out.y;(have f0:=bG HB.out.y 0;have f1:=bG HB.out.y 1;have f2:=bG HB.out.y 2;have f3:=bG HB.out.y 3;have f4:=bG HB.out.y 4);have HU:=hid (eP HB.out.y (.int .i64 0) (.slice none 0 0) (.slice none 0 0) (.slice none 0 0) (.slice none 0 0));have HBW:=hid (fM HB.out.below (Nat.le_succ_of_le HWG.out) (.int .i64 0) (.slice none 0 0) (.slice none 0 0) (.slice none 0 0) (.slice none 0 0));unfold sN at HU HBW;go_wp2_with fail
   generalize ((((w5.setCell ⟨g+1,0,none⟩ (0:Int)).setCell ⟨g+1,1,none⟩ ()).setCell ⟨g+1,2,none⟩ ()).setCell ⟨g+1,3,none⟩ ()).setCell ⟨g+1,4,none⟩ ()=w91 at*;clear y0 y1 y2 y3 y4 f0 f1 f2 f3 f4;obtain ⟨y0,y1,y2,y3,y4⟩:=aG HU.out;exact bodyPost_ret (v:= .tuple #[.agg #[(0:Int),(),(),(),()],(12:Int)]) (by simp [results,Tryz.results28,go_sem,y0,y1,y2,y3,y4]) rfl ⟨⟨_,rfl,HN2.out⟩,HBW.out⟩
  |true=>
   go_upto_region 6 with (go_at_call 63;refine (cI2 _ HNI.out).out.mono ?_;rintro e w5 ⟨rfl,hb⟩;replace HB:=hid (HB.out.kept hb);replace HNI:=hid (HNI.out.kept hb);replace HXN:=hid (aC HXN.out hb);clear hb cI2 g0 g1 g2 g3 g4 g5 g6 g7 z0 z1 z2 z3 z4)
   obtain ⟨z0,z1,z2,z3,z4⟩:=aG HXN.out;have hnb:g+1<nb:=HNB.out;obtain ⟨y0,y1,y2,y3,y4⟩:=aG HB.out.y;(have f0:=bG HB.out.y 0;have f1:=bG HB.out.y 1;have f2:=bG HB.out.y 2;have f3:=bG HB.out.y 3;have f4:=bG HB.out.y 4);have HU:=hid (eP HB.out.y (.int .i64 lv) (.slice kA kn kc) (.slice pA pn pc) (.slice bA bn bc) (.slice qA qn qc));have HBW:=hid (fM HB.out.below (Nat.le_succ_of_le HWG.out) (.int .i64 lv) (.slice kA kn kc) (.slice pA pn pc) (.slice bA bn bc) (.slice qA qn qc));have HI9:=hid (fH w5 (g+1) (.int .i64 lv) (.slice kA kn kc) (.slice pA pn pc) (.slice bA bn bc) (.slice qA qn qc));have HNF:Hid (gK (sN w5 (g+1) (.int .i64 lv) (.slice kA kn kc) (.slice pA pn pc) (.slice bA bn bc) (.slice qA qn qc)) n ⟨kA,kc,pA,pc,bA,bc,qA,qc⟩):=Je HNI.out HI9.out (kG.of HB.out.y).one;unfold sN at HU HBW HNF HI9;go_wp2_with fail
   generalize ((((w5.setCell ⟨g+1,0,none⟩ lv).setCell ⟨g+1,1,none⟩ (.slice kA kn kc)).setCell ⟨g+1,2,none⟩ (.slice pA pn pc)).setCell ⟨g+1,3,none⟩ (.slice bA bn bc)).setCell ⟨g+1,4,none⟩ (.slice qA qn qc)=w91 at*;clear y0 y1 y2 y3 y4 f0 f1 f2 f3 f4 z0 z1 z2 z3 z4;obtain ⟨y0,y1,y2,y3,y4⟩:=aG HU.out;have hfin:=HY.out HNF.out (HT.out.1 (by simp)) HB1.out;obtain ⟨q1,q2,q3,q4,q5⟩:=HEQ.out;unfold bL at hfin;simp only [q1,q2,q3,q4,q5] at hfin;have GA:=hid hfin;clear hfin q1 q2 q3 q4 q5;exact bodyPost_ret (v:= .tuple #[.agg #[lv,.slice kA kn kc,.slice pA pn pc,.slice bA bn bc,.slice qA qn qc],(0:Int)]) (by simp [results,Tryz.results28,go_sem,y0,y1,y2,y3,y4]) rfl ⟨⟨_,rfl,GA.out⟩,HBW.out⟩
end No
end Go.Proofs.YtjpjjnalpdpljaaGreatDoor
set_option maxHeartbeats 1000000
set_option maxRecDepth 100000
namespace Go.Proofs.YtjpjjnalpdpljaaGreatDoor
open Go.RowKit
open Go.Lib (hid)
namespace Sh
open Mem No Bt Po
open Ca (upF Few)
theorem KX {α:Type} (f:Nat->α) (i:Nat) (x y:α):upF (upF f i x) i y=upF f i y:=by
 funext b;unfold upF;by_cases e:b=i
 . rw [if_pos e,if_pos e]
 . rw [if_neg e,if_neg e,if_neg e]
theorem KY (P:Nat->Nat) (i:Nat) (h:P i=0):upF (upF P i 1) i (upF P i 1 i-1)=P:=by
 funext b;unfold upF;by_cases e:b=i
 . subst e
   simp [h]
 . simp [e]
theorem Ir {α:Type} (f:Nat->α) (i:Nat) (x:α):upF f i x i=x:=by
 unfold upF;rw [if_pos rfl]
def Off (z:Ad) (F:List Nat) (A:Option Addr) (y:List UInt8):Prop:=0<y.length->∀a,A=some a->a.block∉z.p::z.b::F
section
variable {W w w1:World} {F F1:List Nat} {z:Ad} {c:Cfg} {tb:List Bool} {kp:Nat} {P:Nat->Nat} {f:Nat->List UInt8} {K r s:Nat} {A:Option Addr} {y:List UInt8}
theorem Off.move (h:Off z F A y) (hA:BL w A y) (hm:Mv z w w1 F F1):Off z F1 A y/\BL w1 A y:=by
 refine ⟨fun h0 a ha hx=>?_,hA.keep fun h0 a ha=>hm.io.block _ (hA.lt h0 a ha) (h h0 a ha)⟩;have h1:=h h0 a ha;have h2:=hA.lt h0 a ha;simp only [List.mem_cons,not_or] at hx h1;rcases hx with hx|hx|hx
 . exact h1.1 hx
 . exact h1.2.1 hx
 . rcases hm.gr _ hx with h3|h3
   . exact h1.2.2 h3
   . omega
theorem Fe (h:Sv W w F z c tb kp (kpF kp) f K r s) (hc:Okc c) (hT:Tab W) (hK:K<=900000) {i cap:Nat} (hi:thr c i) (hA:BL w A y) (hy:(y.length:Int)=c.bytes) (ho:Off z F A y):Calls Tryz.prog 73 #[z.p,.int .u32 (i:Int),.slice A y.length cap] w fun e w'=>e=.returned (.tuple #[])/\Out W w w' F z c tb kp (kpF kp) (upF f i y) (K+2) r s 0 1:=by
 obtain ⟨-,-,-,n1,n2,-⟩:=hc.nat;have h32:i<4294967296:=by have:=hi.2;omega
 have k32:kp<4294967296:=by
  rcases h.kl with e|e
  . omega
  . have:=e.2;omega
 by_cases e:i=kp
 . subst e
   have cW:=hid (I9 (cap:=cap) h hc hT h32 (by rw [sV hi.1];decide) hA rfl hy);obtain ⟨-,-,-,-,-,-,-,-,-,c9,-,c11,-⟩:=h.cells;generalize y.length=n at*;clear h hA hy ho;go_enter Tryz.func73,Tryz.ntmps73
   go_wp2_with (go_at_call 113;refine cW.out.mono ?_;rintro e w1 ⟨rfl,ho⟩;have HO:=hid ho;clear ho)
   obtain ⟨F',r',s',h1,h2,h3,h4⟩:=HO.out;exact bodyPost_ret (results_none rfl _ _ _) rfl ⟨rfl,F',r',s',h1.mono (by omega),h2,by omega,by omega⟩
 . have hz:=xB e
   have cF:=hid (M6 h hc hT (by omega) (Eh kp) hi.2 hz)
   have cW:∀{w1 F1 r1 s1},Sv W w1 F1 z c tb kp (upF (kpF kp) i 1) (upF f i (List.replicate c.bytes.toNat 0)) (K+2) r1 s1->BL w1 A y->Hid (Calls Tryz.prog 113 #[z.k,.int .u32 (i:Int),.slice A y.length cap] w1 fun e w'=>e=.returned (0:Int)/\Out W w1 w' F1 z c tb kp (upF (kpF kp) i 1) (upF f i y) (K+2) r1 s1 0 0):=fun h hA=>by
    have:=I9 (cap:=cap) h hc hT h32 (by rw [Ir];decide) hA rfl hy;rw [KX] at this;exact this
   have cU:∀{w1 F1 r1 s1},Sv W w1 F1 z c tb kp (upF (kpF kp) i 1) (upF f i y) (K+2) r1 s1->Hid (Calls Tryz.prog 49 #[z.k,.int .u32 (i:Int)] w1 fun e w'=>e=.returned (0:Int)/\Out W w1 w' F1 z c tb kp (kpF kp) (upF f i y) (K+2) r1 s1 0 0):=fun h=>by
    have:=Ej h hT (by omega) h32 (by rw [Ir];decide);rw [KY _ _ hz] at this;exact this
   obtain ⟨-,-,-,-,-,-,-,-,-,c9,-,c11,-⟩:=h.cells;have HA:=hid (And.intro ho hA);have hne:((i:Int)==(kp:Int))=false:=(by simp;omega);generalize y.length=n at*;clear h hA ho hy hz hi;go_enter Tryz.func73,Tryz.ntmps73
   go_upto_region 3 with (go_at_call 114;refine cF.out.mono ?_;rintro e w1 ⟨rfl,ho⟩;have HO:=hid ho;clear ho c9 c11 cF)
   obtain ⟨F1,r1,s1,h1,m1,d1⟩:=HO.out;have HA1:=hid (HA.out.1.move HA.out.2 m1);have cW1:=cW h1 HA1.out.2;obtain ⟨-,-,-,-,-,-,-,-,-,c9,-,c11,-⟩:=h1.cells;have M1:=hid m1;have D1:=hid d1;clear h1 m1 d1 HO HA HA1 cW;go_upto_region 4 with (go_at_call 113;refine cW1.out.mono ?_;rintro e w2 ⟨rfl,ho⟩;have HO:=hid ho;clear ho c9 c11 cW1)
   obtain ⟨F2,r2,s2,h2,m2,d2⟩:=HO.out;have cU1:=cU h2;obtain ⟨-,-,-,-,-,-,-,-,-,c9,-,c11,-⟩:=h2.cells;have M2:=hid (M1.out.trans m2);have D2:Hid ((r<=r2/\r2<=r+0)/\s<=s2/\s2<=s+1):=(by have:=D1.out;unfold Hid;omega);clear h2 m2 d2 HO D1 M1 cU;go_wp2_with (go_at_call 49;refine cU1.out.mono ?_;rintro e w3 ⟨rfl,ho⟩;have HO:=hid ho;clear ho c9 c11 cU1)
   go_end0
   exact ⟨rfl,Out.then M2.out D2.out.1 D2.out.2 HO.out⟩
def LdP (c:Cfg) (f:Nat->List UInt8) (i:Nat) (n:Nd) (E:Int):Prop:=(thr c i/\KV c (f i) n E)\/(¬thr c i/\n=qm/\E=4)
theorem QK:Tryz.prog.underlying 43=some (.struct (Tryz.prog.fieldsOf 43)):=by kernel_rfl
theorem Jj {C:Array Value} (h:C.size=5):(Tryz.prog.info? 43).map (·.size)=some C.size:=by
 rw [h]
 kernel_rfl
theorem qN (n:Nd) (a:At):∀v∈(bL n a).toList,v.oneCell'=true:=by simp [bL,Value.oneCell']
theorem Jk (h:Sv W w F z c tb kp (kpF kp) f K r s) (hc:Okc c) (hT:Tab W) (hK:K<=900000) (i:Nat) (h32:i<4294967296):Calls Tryz.prog 14 #[z.p,.int .u32 (i:Int)] w fun e w'=>(∃n E a,e=.returned (.tuple #[.agg (bL n a),(E:Int)])/\gK w' n a/\LdP c f i n E)/\Out W w w' F z c tb kp (kpF kp) f (K+2) r s (if i=kp then 0 else 1) (if i=kp then 0 else 1):=by
 have hb1:Bw w (w.alloc (.cells #[(0:Int),(),(),(),()] 43)):=bAx;have hx:=bf.new 43 w #[(0:Int),(),(),(),()];have hn:=h.new;have hW:=h.below.size;have h1:=h.kept hT hb1;have cM:=hid (pJ h1 hc i);have H0:=hid h;clear h;by_cases ht:thr c i
 . simp only [if_pos ht] at cM
   have hR:=Ei (kp:=kp) ht.1
   have cP:Hid (Calls Tryz.prog 47 #[z.k,.int .u32 (i:Int)] (w.alloc (.cells #[(0:Int),(),(),(),()] 43)) fun e w'=>e=.returned (0:Int)/\Out W (w.alloc (.cells #[(0:Int),(),(),(),()] 43)) w' F z c tb kp (upF (kpF kp) i (kpF kp i+1)) f (K+2) r s (if i=kp then 0 else 1) (if i=kp then 0 else 1)):=by
    have:=Qz h1 hc hT (by omega) (Eh kp) ht.2;rw [hR] at this;exact this
   generalize (if i=kp then 0 else 1)=R at*;have cR:∀{w F r s},Sv W w F z c tb kp (upF (kpF kp) i (kpF kp i+1)) f (K+2) r s->Hid (Calls Tryz.prog 48 #[z.k,.int .u32 (i:Int)] w fun e w'=>(∃A k,e=.returned (.tuple #[.slice A (f i).length k,(0:Int)])/\BL w' A (f i)/\∀a,A=some a->w.heap.size<=a.block)/\Bw w w'):=fun h=>Pj h h32 (by rw [Ir];omega)
   have cU:∀{w F r s},Sv W w F z c tb kp (upF (kpF kp) i (kpF kp i+1)) f (K+2) r s->Hid (Calls Tryz.prog 49 #[z.k,.int .u32 (i:Int)] w fun e w'=>e=.returned (0:Int)/\Out W w w' F z c tb kp (kpF kp) f (K+2) r s 0 0):=fun h=>by
    have:=Ej h hT (by omega) h32 (by rw [Ir];omega);rw [KF] at this;exact this
   have hfl:=h1.many hc ht.2;obtain ⟨-,-,-,-,-,-,hY3,-⟩:=hc.nat;have cD:∀{w A cap},BL w A (f i)->Hid (Calls Tryz.prog 28 #[.agg (aZ c),.slice A (f i).length cap] w fun e w'=>(∃v,e=.returned v/\xV c (f i) v w')/\Bw w w'):=fun hA=>zH c hA (by omega) hY3
   obtain ⟨m,hm⟩:∃m,m=(f i).length:=⟨_,rfl⟩
   simp only [<-hm] at cR cD;have HT:=hid ht;clear hR hfl hY3 hm ht;go_enter Tryz.func14,Tryz.ntmps14
   go_upto_region 1 with fail
   generalize w.alloc (.cells #[(0:Int),(),(),(),()] 43)=w1 at*;obtain ⟨g,hg⟩:∃g,g=w.heap.size:=⟨_,rfl⟩
   rw [<-hg] at hx hn;simp only [<-hg];have HX:=hid (And.intro hx hn);have HB:=hid (And.intro hg (And.intro hb1 hW));obtain ⟨-,-,-,-,-,-,-,-,-,c9,-⟩:=h1.cells;have H1:=hid h1;clear hx hn hg hb1 hW h1
   go_upto_region 5 with (first
    |(go_at_call 46;refine cM.out.mono ?_;rintro e w' ⟨rfl,rfl⟩)
    |(go_at_call 47;refine cP.out.mono ?_;rintro e w2 ⟨rfl,ho⟩;have HO:=hid ho;clear ho c9 cP cM))
   obtain ⟨F2,r2,s2,h2,m2,d2⟩:=HO.out;replace HX:=hid (m2.box HX.out.1 HX.out.2);have HM:=hid ((Mv.below z F HB.out.2.1).trans m2);have HD:=hid d2;have cR2:=cR h2;obtain ⟨-,-,-,-,-,-,-,-,-,c9,-⟩:=h2.cells;have H2:=hid h2;clear HO h2 m2 d2 cR H1;go_upto_region 6 with (go_at_call 48;refine cR2.out.mono ?_;rintro e w3 ⟨⟨A,cap,rfl,hA,hA0⟩,hb⟩;have HA:=hid (And.intro hA hA0);have HB3:=hid hb;clear hA hA0 hb cR2 c9)
   have h3:=H2.out.kept hT HB3.out;replace HX:=hid (And.intro (HX.out.1.kept HB3.out) HX.out.2);replace HA:Hid (BL w3 A (f i)/\Off z F2 A (f i)):=⟨HA.out.1,fun _ a ha hh=>by have:=HA.out.2 a ha;have:=H2.out.lt a.block (by simp only [List.mem_cons] at hh ⊢;rcases hh with hh|hh|hh<;>simp [hh]);omega⟩;replace HM:=hid (HM.out.trans (Mv.below z F2 HB3.out));have cU3:=cU h3;obtain ⟨-,-,-,-,-,-,-,-,-,c9,-⟩:=h3.cells;clear h3 cU H2 HB3;go_upto_region 7 with (go_at_call 49;refine cU3.out.mono ?_;rintro e w4 ⟨rfl,ho⟩;have HO:=hid ho;clear ho c9 cU3)
   obtain ⟨F4,r4,s4,h4,m4,d4⟩:=HO.out;replace HX:=hid (m4.box HX.out.1 HX.out.2);have cD4:=cD (cap:=cap) (HA.out.2.move HA.out.1 m4).2;replace HM:=hid (HM.out.trans m4);replace HD:Hid ((r<=r4/\r4<=r+R)/\s<=s4/\s4<=s+R):=(by have:=HD.out;unfold Hid;omega);have H4:=hid h4;have HS:=hid h4.box;clear h4 m4 d4 HO HA cD
   go_wp2_with (first
    |(refine jE rfl (.tmp 39) 23 rfl xC z.p (KE c z kp) (aZ c) (vD rfl) rfl HS.out (Ja c z kp) (Nat.le_of_ble_eq_true rfl) ?_)
    |(go_at_call 28;refine cD4.out.mono ?_;rintro e w5 ⟨⟨v,rfl,n,E,a,rfl,hn,hd⟩,hb⟩;have HN:=hid hn;have HE:=hid hd;have H5:=hid (H4.out.kept hT hb);replace HM:=hid (HM.out.trans (Mv.below z F4 hb));replace HX:=hid (And.intro (HX.out.1.kept hb) HX.out.2);clear hn hd hb HS H4 cD4)
    |(refine aK rfl (.tmp 4) (.tmp 43) 43 rfl rfl g #[.int .i64 0,.slice none 0 0,.slice none 0 0,.slice none 0 0,.slice none 0 0] (bL n a) (Jj rfl) rfl (qN n a) rfl rfl HX.out.1 ?_;intro w6 HZ hi;have HI:=hid hi;clear hi))
   have hl:=eO (P:=Tryz.prog) QK (Jj (C:=bL n a) rfl) HZ.out;refine bodyPost_ret (v:= .tuple #[.agg (bL n a),E]) (by simp [results,Tryz.results14,asAddr,hl]) rfl ⟨⟨n,E,a,rfl,Je HN.out HI.out (kG.one (kG.of HX.out.1)),.inl ⟨HT.out,HE.out⟩⟩,?_⟩;obtain ⟨rfl,-,hW⟩:=HB.out;exact ⟨F4,r4,s4,H5.out.far hT HI.out HX.out.2 hW,HM.out.off HI.out (Nat.le_refl _),HD.out⟩
 . simp only [if_neg ht] at cM
   generalize (if i=kp then 0 else 1)=R at*;clear h1;go_enter Tryz.func14,Tryz.ntmps14
   go_upto_region 1 with fail
   generalize w.alloc (.cells #[(0:Int),(),(),(),()] 43)=w1 at*;obtain ⟨g,hg⟩:∃g,g=w.heap.size:=⟨_,rfl⟩
   rw [<-hg] at hx;simp only [<-hg];have HX:=hid hx;have HB:=hid (And.intro hg hb1);clear hx hg hb1
   go_wp2_with (first
    |(go_at_call 46;refine cM.out.mono ?_;rintro e w' ⟨rfl,rfl⟩)
    |(refine aK rfl (.tmp 4) (.tmp 14) 43 rfl rfl g #[.int .i64 0,.slice none 0 0,.slice none 0 0,.slice none 0 0,.slice none 0 0] (bL qm ⟨none,0,none,0,none,0,none,0⟩) (Jj rfl) rfl (qN _ _) rfl rfl HX.out ?_;intro w6 HZ hi;have HI:=hid hi;clear hi))
   have hl:=eO (P:=Tryz.prog) QK (Jj (C:=bL qm ⟨none,0,none,0,none,0,none,0⟩) rfl) HZ.out;refine bodyPost_ret (v:= .tuple #[.agg (bL qm ⟨none,0,none,0,none,0,none,0⟩),(4:Int)]) (by simp [results,Tryz.results14,asAddr,hl]) rfl ⟨⟨qm,4,_,rfl,gK.nil _,.inr ⟨ht,rfl,rfl⟩⟩,?_⟩;obtain ⟨rfl,hb⟩:=HB.out;have hi:=HI.out;exact (Out.same (H0.out.mono (Nat.le_add_right _ 2)) hT (hb.trans ⟨hi.os,hi.tape,hi.output,hi.size,fun k hk=>hi.block k (Nat.lt_of_lt_of_le hk hb.size) (by simp only [List.mem_singleton];omega)⟩) _ _)
end
end Sh
end Go.Proofs.YtjpjjnalpdpljaaGreatDoor
set_option maxHeartbeats 1000000
set_option maxRecDepth 100000
namespace Go.Proofs.YtjpjjnalpdpljaaGreatDoor
open Go.RowKit
open Go.Lib (hid)
open ah (dL tc)
namespace Sh
open Mem No Bt Po
open Ca (upF Few)
theorem vP {n:Nd} (h:Fit n):Sz n:=⟨fun p hp=>Nat.le_trans (h.pk p hp) (by decide),fun m hm=>Nat.le_trans (h.bk m hm) (by decide),fun m hm=>Nat.le_trans (h.qk m hm) (by decide),Nat.le_trans h.kids (by decide),Nat.le_trans h.piv (by decide),Nat.le_trans h.buf (by decide),Nat.le_trans h.prs (by decide)⟩
section
variable {W w w1:World} {F F1:List Nat} {z:Ad} {c:Cfg} {tb:List Bool} {kp:Nat} {P:Nat->Nat} {f:Nat->List UInt8} {K r s:Nat} {A:Option Addr} {y:List UInt8}
structure NdA (w:World) (n:Nd) (a:At):Prop where
 nd:gK w n a
 fit:Fit n
 kid:∀k,k∈n.kids->k<4294967296
theorem NdA.kept {w w':World} {n:Nd} {a:At} (h:NdA w n a) (hb:Bw w w'):NdA w' n a:=⟨h.nd.kept hb,h.fit,h.kid⟩
theorem Fg (h:Sv W w F z c tb kp P f K r s) (ha:FrB w1 w.heap.size A y):Off z F A y:=fun h0 a e hh=>by
 obtain ⟨g,o,C,e2,hg,-⟩:=ha.own h0;rw [e] at e2;cases e2
 have:=h.lt g (by simp only [List.mem_cons] at hh ⊢;rcases hh with hh|hh|hh<;>simp [hh]);omega
theorem jO {g:Nat} {n:Nd} {a:At} (hx:bf 43 w g (bL n a)):w.cell? ⟨g,0,none⟩=some (.int .i64 n.lv)/\w.cell? ⟨g,1,none⟩=some (.slice a.kA n.kids.length a.kc)/\w.cell? ⟨g,2,none⟩=some (.slice a.pA n.piv.length a.pc)/\w.cell? ⟨g,3,none⟩=some (.slice a.bA n.buf.length a.bc)/\w.cell? ⟨g,4,none⟩=some (.slice a.qA n.prs.length a.qc):=⟨hx.cell rfl,hx.cell rfl,hx.cell rfl,hx.cell rfl,hx.cell rfl⟩
def QL (B m:Nat) (f0:Int) (s0:List UInt8) (v:Value) (w:World):Prop:=∃A cap,v= .tuple #[.slice A m cap,f0]/\FrB w B A s0
theorem NC {n:Nd} {a:At} (hc:Okc c) (hn:NdA w n a) {s0:List UInt8} {f0:Int} (he:Bb c n s0 f0) {m:Nat} (hm:m=s0.length) (hb:Bw w w1):Hid (Calls Tryz.prog 71 #[.agg (aZ c),.agg (bL n a)] w1 fun e w'=>(∃A cap,e=.returned (.tuple #[.slice A m cap,f0])/\FrB w' w1.heap.size A s0)/\Bw w1 w'):=by
 refine (Iq c (hn.nd.kept hb) (vP hn.fit) hn.fit.kids hn.kid hc.2.1 he).mono ?_;rintro e w' ⟨⟨A,cap,h1,h2,-⟩,h3⟩;exact ⟨⟨A,cap,by rw [hm];exact h1,h2⟩,h3⟩
theorem Jl {n:Nd} (hc:Okc c) {t:Bool} (hr:t=true↔bQ c n) {s0:List UInt8} {f0:Int} (he:Bb c n s0 f0):(t=true->s0=aJ c n/\f0=0/\(s0.length:Int)=c.bytes)/\(t=false->f0=3):=by
 refine ⟨fun e=>?_,fun e=>?_⟩
 . obtain ⟨rfl,rfl⟩:=he.one (.inr (.inr ⟨hr.1 e,rfl,rfl⟩))
   refine ⟨rfl,rfl,?_⟩;rw [(iX (hr.1 e)).1];exact hc.nat.2.1
 . refine (he.one (.inr (.inl ⟨hc.1,fun hh=>?_,rfl,rfl⟩))).2
   rw [hr.2 hh] at e;cases e
theorem Jm (h:Sv W w F z c tb kp (kpF kp) f K r s) (hc:Okc c) (hT:Tab W) (hK:K<=900000) (i:Nat) {n:Nd} {a:At} (hn:NdA w n a) (t:Bool) (hr:t=true↔bQ c n):Calls Tryz.prog 35 #[z.p,.int .u32 (i:Int),.agg (bL n a)] w fun e w'=>e=.returned (if thr c i then (if t=true then 0 else 3) else 4:Int)/\Out W w w' F z c tb kp (kpF kp) (if thr c i/\t=true then upF f i (aJ c n) else f) (K+2) r s 0 1:=by
 have hb1:Bw w (w.alloc (.cells (bL n a) 43)):=bAx;have hx:=bf.new 43 w (bL n a);have h1:=h.kept hT hb1;have cM:=hid (pJ h1 hc i);have H0:=hid h;clear h;by_cases ht:thr c i
 . simp only [if_pos ht] at cM
   obtain ⟨s0,f0,he⟩:=Bb.some c n;obtain ⟨m,hm⟩:∃m,m=s0.length:=⟨_,rfl⟩
   have HE:=hid (And.intro hm (And.intro ht (Jl hc hr he)));have cE:=fun {w1} (hb:Bw w w1)=>NC hc hn he hm hb;simp only [ht,true_and,if_true];clear hr he hn ht hm;go_enter Tryz.func35,Tryz.ntmps35
   go_upto_region 1 with fail
   generalize w.alloc (.cells (bL n a) 43)=w1 at*;obtain ⟨g,hg⟩:∃g,g=w.heap.size:=⟨_,rfl⟩
   rw [<-hg] at hx;simp only [<-hg];have HB:=hid hb1;have HX:=hid hx;have H1:=hid h1;clear hx hg hb1 h1;go_upto_region 4 with (go_at_call 46;refine cM.out.mono ?_;rintro e w' ⟨rfl,rfl⟩)
   obtain ⟨c0,c1,c2,c3,c4,c5,c6,c7,-⟩:=H1.out.cells;obtain ⟨e0,e1,e2,e3,e4⟩:=jO HX.out;have t0:=tc c0;have t1:=tc c1;have t2:=tc c2;have t3:=tc c3;have t4:=tc c4;have t5:=tc c5;have t6:=tc c6;have t7:=tc c7;have u0:=tc e0;have u1:=tc e1;have u2:=tc e2;have u3:=tc e3;have u4:=tc e4;clear c0 c1 c2 c3 c4 c5 c6 c7 e0 e1 e2 e3 e4 HX cM;refine ah.aj [] [(0,[]),(1,[]),(2,[]),(3,[]),(4,[]),(5,[]),(6,[]),(7,[]),(8,[]),(9,[]),(10,[])] [5] [] (by kernel_rfl) (by kernel_rfl) (by simp) ?_;simp only [ah.pick,ah.aO,dL]
   repeat (refine ah.ak (fun K hK=>?_);go_simp;(refine hK _ ?_;clear hK K))
   refine ah.aN rfl ah.aF (QL w1.heap.size m f0 s0) (fun W2 hk _=>?_) (fun y w4 hv hI _ hTd=>?_)
   . go_simp
     have hk2:Bw w1 W2:=hk;go_at_call 71
     refine (cE (HB.out.trans (hk2.mono HB.out.size))).out.mono ?_;rintro e w' ⟨⟨A,cap,rfl,hA⟩,hb⟩;exact ⟨_,rfl,⟨A,cap,rfl,hA.mono hk2.size⟩,Flow.Into.of_below hb⟩
   obtain ⟨A,cap,rfl,hA⟩:=hv;clear cE t0 t1 t2 t3 t4 t5 t6 t7 u0 u1 u2 u3 u4
   repeat (refine ah.ak (fun K hK=>?_);go_simp;(refine hK _ ?_;clear hK K))
   refine ah.walk_nil ?_;intro w5 hb5 _;have hb4:Bw w1 w5:=hI.below.trans ((show Bw w4 w5 from hb5).mono hI.below.size);have HA:=hid (And.intro (hA.bl.below hb5) (Fg H1.out hA));have H4:=hid (H1.out.kept hT hb4);have HB4:=hid (HB.out.trans (hb4.mono HB.out.size));clear hA hb5 hI hTd hb4 H1 HB;simp only [lC,List.drop_zero,Nat.zero_add,Nat.reduceAdd];go_upto_region 5 with fail
   obtain ⟨hm,ht,hy,hn⟩:=HE.out;cases t with
   |true=>
    obtain ⟨rfl,rfl,hl⟩:=hy rfl;have cW4:=hid (Fe (cap:=cap) H4.out hc hT hK ht HA.out.1 hl HA.out.2);rw [<-hm] at cW4;clear hm ht hy hn hl HE HA;go_wp2_with (go_at_call 73;refine cW4.out.mono ?_;rintro e w5 ⟨rfl,ho⟩;have HO:=hid ho;clear ho cW4)
    go_ret
    obtain ⟨F',r',s',h5,h6,h7,h8⟩:=HO.out;exact ⟨rfl,F',r',s',h5,(Mv.below z F HB4.out).trans h6,h7,h8⟩
   |false=>
    obtain rfl:=hn rfl;clear hm ht hy hn HE HA;go_wp2_with fail
    go_ret
    exact ⟨rfl,Out.same (H0.out.mono (Nat.le_add_right _ 2)) hT HB4.out _ _⟩
 . simp only [if_neg ht] at cM ⊢
   simp only [ht,false_and,if_false];clear h1;go_enter Tryz.func35,Tryz.ntmps35
   go_upto_region 1 with fail
   generalize w.alloc (.cells (bL n a) 43)=w1 at*;have HB:=hid hb1;clear hx hb1;go_wp2_with (go_at_call 46;refine cM.out.mono ?_;rintro e w' ⟨rfl,rfl⟩)
   go_ret
   exact ⟨rfl,Out.same (H0.out.mono (Nat.le_add_right _ 2)) hT HB.out _ _⟩
def MkP (c:Cfg) (tb:List Bool) (f:Nat->List UInt8) (n:Nd) (t:Bool) (k:Nat) (E:Int) (tb':List Bool) (f':Nat->List UInt8):Prop:=
 (t=false/\k=0/\E=3/\tb'=tb/\f'=f)\/(t=true/\free tb=0/\k=0/\E=11/\tb'=tb/\f'=f)\/(t=true/\Got tb 1 tb' [k]/\E=0/\f'=upF f k (aJ c n))
theorem Jo (h:Sv W w F z c tb kp (kpF kp) f K r s) (hc:Okc c) (hT:Tab W) (hK:K<=900000) {n:Nd} {a:At} (hn:NdA w n a) (t:Bool) (hr:t=true↔bQ c n):Calls Tryz.prog 34 #[z.p,.agg (bL n a)] w fun e w'=>∃(k:Nat) (E:Int) (tb':List Bool) (f':Nat->List UInt8),e=.returned (.tuple #[.int .u32 (k:Int),E])/\MkP c tb f n t k E tb' f'/\Out W w w' F z c tb' kp (kpF kp) f' (K+2) r s 0 1:=by
 have hb1:Bw w (w.alloc (.cells (bL n a) 43)):=bAx;have hx:=bf.new 43 w (bL n a);have h1:=h.kept hT hb1;have cM:=hid (gJ h1);have H0:=hid h;clear h;obtain ⟨s0,f0,he⟩:=Bb.some c n;obtain ⟨m,hm⟩:∃m,m=s0.length:=⟨_,rfl⟩
 have HE:=hid (And.intro hm (Jl hc hr he));have cE:=fun {w1} (hb:Bw w w1)=>NC hc hn he hm hb;clear hr he hn hm;go_enter Tryz.func34,Tryz.ntmps34
 go_upto_region 1 with fail
 generalize w.alloc (.cells (bL n a) 43)=w1 at*;obtain ⟨g,hg⟩:∃g,g=w.heap.size:=⟨_,rfl⟩
 rw [<-hg] at hx;simp only [<-hg];have HB:=hid hb1;have HX:=hid hx;have H1:=hid h1;clear hx hg hb1 h1;go_upto_region 3 with (go_at_call 55;refine cM.out.mono ?_;rintro e w' ⟨rfl,rfl⟩)
 obtain ⟨c0,c1,c2,c3,c4,c5,c6,c7,-⟩:=H1.out.cells;obtain ⟨e0,e1,e2,e3,e4⟩:=jO HX.out;have t0:=tc c0;have t1:=tc c1;have t2:=tc c2;have t3:=tc c3;have t4:=tc c4;have t5:=tc c5;have t6:=tc c6;have t7:=tc c7;have u0:=tc e0;have u1:=tc e1;have u2:=tc e2;have u3:=tc e3;have u4:=tc e4;clear c0 c1 c2 c3 c4 c5 c6 c7 e0 e1 e2 e3 e4 HX cM;refine ah.aj [] [(0,[]),(1,[]),(2,[]),(3,[]),(4,[]),(5,[]),(6,[]),(7,[]),(8,[]),(9,[]),(10,[])] [5] [] (by kernel_rfl) (by kernel_rfl) (by simp) ?_;simp only [ah.pick,ah.aO,dL]
 repeat (refine ah.ak (fun K hK=>?_);go_simp;(refine hK _ ?_;clear hK K))
 refine ah.aN rfl ah.aF (QL w1.heap.size m f0 s0) (fun W2 hk _=>?_) (fun y w4 hv hI _ hTd=>?_)
 . go_simp
   have hk2:Bw w1 W2:=hk;go_at_call 71
   refine (cE (HB.out.trans (hk2.mono HB.out.size))).out.mono ?_;rintro e w' ⟨⟨A,cap,rfl,hA⟩,hb⟩;exact ⟨_,rfl,⟨A,cap,rfl,hA.mono hk2.size⟩,Flow.Into.of_below hb⟩
 obtain ⟨A,cap,rfl,hA⟩:=hv;clear cE t0 t1 t2 t3 t4 t5 t6 t7 u0 u1 u2 u3 u4
 repeat (refine ah.ak (fun K hK=>?_);go_simp;(refine hK _ ?_;clear hK K))
 refine ah.walk_nil ?_;intro w5 hb5 _;have hb4:Bw w1 w5:=hI.below.trans ((show Bw w4 w5 from hb5).mono hI.below.size);have HA:=hid (And.intro (hA.bl.below hb5) (Fg H1.out hA));have H4:=hid (H1.out.kept hT hb4);have HB4:=hid (HB.out.trans (hb4.mono HB.out.size));clear hA hb5 hI hTd hb4 H1 HB;simp only [lC,List.drop_zero,Nat.zero_add,Nat.reduceAdd];go_upto_region 4 with fail
 obtain ⟨hm,hy,hn⟩:=HE.out;cases t with
 |false=>
  obtain rfl:=hn rfl;clear hm hy hn HE HA;go_wp2_with fail
  exact bodyPost_ret (v:= .tuple #[.int .u32 ((0:Nat):Int),(3:Int)]) (by simp [results,Tryz.results34,go_sem]) rfl ⟨0,3,tb,f,rfl,.inl ⟨rfl,rfl,rfl,rfl,rfl⟩,Out.same (H0.out.mono (Nat.le_add_right _ 2)) hT HB4.out _ _⟩
 |true=>
  obtain ⟨rfl,rfl,hl⟩:=hy rfl;obtain ⟨-,-,-,-,-,-,-,-,-,-,c10,-⟩:=H4.out.cells;by_cases hf:free tb=0
  . have cK:=hid (Dz H4.out.pw hf)
    clear hm hy hn HE HA hl;go_wp2_with (go_at_call 72;refine cK.out.mono ?_;rintro e w' ⟨rfl,rfl⟩)
    exact bodyPost_ret (v:= .tuple #[.int .u32 ((0:Nat):Int),(11:Int)]) (by simp [results,Tryz.results34,go_sem]) rfl ⟨0,11,tb,f,rfl,.inr (.inl ⟨rfl,hf,rfl,rfl,rfl,rfl⟩),Out.same (H0.out.mono (Nat.le_add_right _ 2)) hT HB4.out _ _⟩
  . have cK:=hid (Kh H4.out.pw hT (by omega))
    have HL:=hid (And.intro hm hl);clear hm hy hn HE hl hf;go_upto_region 9 with (go_at_call 72;refine cK.out.mono ?_;rintro e w5 ⟨t,k,rfl,hg,hp,hi⟩;have HG:=hid hg;have HP:=hid (And.intro hp hi);clear hg hp hi cK c10)
    obtain ⟨g1,g2,g3⟩:=Em HG.out H4.out.tb0;obtain ⟨F',r',s',h5,m5,d5⟩:=H4.out.pool HP.out.1 HP.out.2 g1 g2;obtain ⟨ho,hA⟩:=HA.out.2.move HA.out.1 m5;have hk:thr c k:=⟨g3,by have:=HG.out.lt (x:=k) (by simp);have:=H4.out.len;omega⟩;have cW5:=hid (Fe (cap:=cap) h5 hc hT hK hk hA HL.out.2 ho);rw [<-HL.out.1] at cW5;have HM:=hid (And.intro ((Mv.below z F HB4.out).trans m5) d5);clear g1 g2 g3 h5 m5 d5 ho hA hk HL HA HP;go_wp2_with (go_at_call 73;refine cW5.out.mono ?_;rintro e w6 ⟨rfl,ho⟩;have HO:=hid ho;clear ho cW5)
    refine bodyPost_ret (v:= .tuple #[.int .u32 (k:Int),(0:Int)]) (by simp [results,Tryz.results34,go_sem]) rfl ⟨k,0,t,_,rfl,.inr (.inr ⟨rfl,HG.out,rfl,rfl⟩),?_⟩;have h9:=Out.then HM.out.1 HM.out.2.1 HM.out.2.2 HO.out;exact h9.mono (by omega) (by omega)
end
end Sh
end Go.Proofs.YtjpjjnalpdpljaaGreatDoor
set_option maxHeartbeats 1000000
set_option maxRecDepth 100000
namespace Go.Proofs.YtjpjjnalpdpljaaGreatDoor
open Go.RowKit
open Go.Lib (hid)
namespace Sh
open Mem No Bt Po
open Ca (upF Few)
section
variable {W w w1:World} {F F1:List Nat} {z:Ad} {c:Cfg} {tb:List Bool} {kp:Nat} {P:Nat->Nat} {f:Nat->List UInt8} {K r s:Nat}
theorem KZ {i:Nat} (hi:thr c i) (hl:(tb.length:Int)=c.blocks):gvE tb i=0\/(gvE tb i=9/\gvT tb i=tb):=by
 obtain ⟨h0,h1⟩:=hi;have hin:inB tb (i:Int)=true:=in_lt (by omega);unfold gvE gvT;rw [if_neg (by omega),if_neg (by omega)];unfold wm ru;rw [hin];simp only [if_true];by_cases hh:hasB tb (i:Int)=true
 . exact .inl (by rw [hh];rfl)
 . refine .inr ⟨by rw [Bool.eq_false_iff.2 hh];rfl,?_⟩
   refine iD (by show i<tb.length;omega) ?_;unfold hasB at hh;simpa using hh
def FrP (tb:List Bool) (f:Nat->List UInt8) (i:Nat) (E:Int) (tb':List Bool) (f':Nat->List UInt8):Prop:=(E≠0/\tb'=tb/\f'=f)\/(E=0/\tb'=gvT tb i/\∃y,f'=upF f i y)
def K3 (c:Cfg) (tb:List Bool) (kp i:Nat):Int:=if thr c i then (if i=kp then 8 else gvE tb i) else 4
theorem ND (h:Sv W w F z c tb kp (kpF kp) f K r s) (hc:Okc c) (hT:Tab W) (i:Nat) (h32:i<4294967296):Calls Tryz.prog 36 #[z.p,.int .u32 (i:Int)] w fun e w'=>e=.returned (K3 c tb kp i:Int)/\∃(tb':List Bool) (f':Nat->List UInt8),FrP tb f i (K3 c tb kp i) tb' f'/\Out W w w' F z c tb' kp (kpF kp) f' K r s 0 0:=by
 have cM:=hid (pJ h hc i);have H:=hid h;unfold K3;by_cases ht:thr c i
 . simp only [if_pos ht] at cM ⊢
   obtain ⟨-,-,-,-,-,-,-,-,-,c9,c10,c11,-⟩:=h.cells;by_cases e:i=kp
   . subst e
     rw [if_pos rfl];clear h ht;go_enter Tryz.func36,Tryz.ntmps36
     go_wp2_with (go_at_call 46;refine cM.out.mono ?_;rintro e w' ⟨rfl,rfl⟩)
     go_ret
     exact ⟨rfl,tb,f,.inl ⟨by decide,rfl,rfl⟩,Out.same H.out hT (Below.refl _ _) 0 0⟩
   . rw [if_neg e]
     have cG:=hid (GN h.pw hT i h32);have hne:((i:Int)==(kp:Int))=false:=(by simp;omega);have HG:=hid (And.intro e (And.intro (KZ ht h.len) (AB (i:=i) h.tb0)));generalize gvE tb i=E at*;obtain ⟨tb',hgv⟩:∃x,x=gvT tb i:=⟨_,rfl⟩
     rw [<-hgv] at HG cG;have HV:=hid hgv;clear hgv;clear h ht e;go_enter Tryz.func36,Tryz.ntmps36
     go_upto_region 7 with (first
      |(go_at_call 46;refine cM.out.mono ?_;rintro e w' ⟨rfl,rfl⟩)
      |(go_at_call 74;refine cG.out.mono ?_;rintro e w2 ⟨rfl,hp,hi⟩;have HP:=hid (And.intro hp hi);clear hp hi c9 c10 c11 cG cM))
     obtain ⟨e,hg,hl,h0⟩:=HG.out;rcases hg with rfl|⟨rfl,rfl⟩
     . obtain ⟨F2,r2,s2,h2,m2,d2⟩:=H.out.pool HP.out.1 HP.out.2 hl h0
       have cD:=hid (Ph h2 hT h32 (xB e));obtain ⟨-,-,-,-,-,-,-,-,-,c9,-⟩:=h2.cells;have HM:=hid (And.intro m2 d2);clear h2 m2 d2 e hl h0 HG HP H;go_wp2_with (go_at_call 75;refine cD.out.mono ?_;rintro e w3 ⟨rfl,ho⟩;have HO:=hid ho;clear ho cD)
       go_ret
       obtain ⟨y,ho⟩:=HO.out;exact ⟨rfl,tb',_,.inr ⟨rfl,HV.out,y,rfl⟩,Out.then HM.out.1 HM.out.2.1 HM.out.2.2 ho⟩
     . have ho:=H.out.pool HP.out.1 HP.out.2 hl h0
       have HO:=hid ho;clear ho e hl h0 HG HP H;go_wp2_with fail
       go_ret
       exact ⟨rfl,tb',f,.inl ⟨by decide,rfl,rfl⟩,HO.out⟩
 . simp only [if_neg ht] at cM ⊢
   clear h ht;go_enter Tryz.func36,Tryz.ntmps36
   go_wp2_with (go_at_call 46;refine cM.out.mono ?_;rintro e w' ⟨rfl,rfl⟩)
   go_ret
   exact ⟨rfl,tb,f,.inl ⟨by decide,rfl,rfl⟩,Out.same H.out hT (Below.refl _ _) 0 0⟩
theorem Sv.keep (h:Sv W w F z c tb kp P f K r s) (hT:Tab W) {i:Nat} (hi:i=0\/thr c i):Sv W (w.setCell ⟨z.p,11,none⟩ (.int .u32 (i:Int))) F z c tb i P f K r s/\Mv z w (w.setCell ⟨z.p,11,none⟩ (.int .u32 (i:Int))) F F:=by
 obtain ⟨⟨st,h1,h2⟩,h3,h4,-⟩:=h;obtain ⟨h5,h6⟩:=h1.keep hT i;exact ⟨⟨⟨st,h5,h2⟩,h3,h4,hi⟩,h6⟩
def Oq (c:Cfg) (i:Nat):Int:=if 0<i/\¬thr c i then 4 else 0
def NG (c:Cfg) (kp i:Nat):Nat:=if 0<i/\¬thr c i then kp else i
theorem NH (h:Sv W w F z c tb kp (kpF kp) f K r s) (hc:Okc c) (hT:Tab W) (hK:K<=900000) (i:Nat) (h32:i<4294967296):Calls Tryz.prog 38 #[z.p,.int .u32 (i:Int)] w fun e w'=>e=.returned (Oq c i:Int)/\Out W w w' F z c tb (NG c kp i) (kpF (NG c kp i)) f (K+2) r s (if i=kp then 0 else 1) (if i=kp then 0 else 1):=by
 have cM:=hid (gJ h);have cL:=hid (pJ h hc i);have H:=hid h
 have k32:kp<4294967296:=by
  rcases h.kl with e|e
  . omega
  . have:=e.2
    have:=hc.nat;omega
 have cU:∀{w F r s} {P:Nat->Nat},Sv W w F z c tb kp P f (K+2) r s->P kp≠0->Hid (Calls Tryz.prog 49 #[z.k,.int .u32 (kp:Int)] w fun e w'=>e=.returned (0:Int)/\Out W w w' F z c tb kp (upF P kp (P kp-1)) f (K+2) r s 0 0):=fun h h0=>Ej h hT (by omega) k32 h0
 unfold Oq NG;by_cases h0:i=0
 . subst h0
   simp only [Nat.lt_irrefl,false_and,if_false];generalize (if 0=kp then 0 else 1)=R at*;by_cases hk:kp=0
   . subst hk
     obtain ⟨hs,hm⟩:=h.keep hT (i:=0) (.inl rfl);have HS:=hid (And.intro hs hm);obtain ⟨-,-,-,-,-,-,-,-,-,-,-,c11,f11⟩:=h.cells;clear h hs hm cU cL H;go_enter Tryz.func38,Tryz.ntmps38
     go_wp2_with (go_at_call 55;refine cM.out.mono ?_;rintro e w' ⟨rfl,rfl⟩)
     go_ret
     exact ⟨rfl,F,r,s,HS.out.1.mono (by omega),HS.out.2,by omega,by omega⟩
   . have hk0:((kp:Int)==0)=false:=by simp;omega
     have hkp:0<kp:=(by omega);clear hk;obtain ⟨-,-,-,-,-,-,-,-,-,-,-,c11,f11⟩:=h.cells;clear h cL;go_enter Tryz.func38,Tryz.ntmps38
     go_upto_region 9 with (go_at_call 55;refine cM.out.mono ?_;rintro e w' ⟨rfl,rfl⟩)
     have h1:=H.out.mono (show K<=K+2 by omega);have HM:=hid (And.intro (Mv.below z F (Below.refl w.heap.size w)) (show (r<=r/\r<=r+R)/\s<=s/\s<=s+R by omega));have HK:=hid (KG kp hkp);have hP:kpF kp kp≠0:=(by rw [sV hkp];decide);have hb3:=Ca.dP w;have h3:=h1.kept hT hb3;have HM3:=hid (HM.out.1.trans (Mv.below z F hb3));have cU3:=cU h3 hP;rw [HK.out] at cU3;obtain ⟨-,-,-,-,-,-,-,-,-,d9,-,d11,-⟩:=h3.cells;refine wp_region_still_tail 8 (by kernel_rfl) (by kernel_rfl) ?_;simp only [List.take_succ_cons,List.take_zero,List.drop_succ_cons,List.drop_zero];clear h1 h3 hb3 hP c11 f11 cU;generalize { w with drawn:=w.drawn+1 }=w3 at*
     repeat (refine wpStill_step (fun K hK=>?_);go_simp;(refine hK _ ?_;clear hK K))
     refine wpStill_nil ?_;go_upto_region 10 with (go_at_call 49;refine cU3.out.mono ?_;rintro e w4 ⟨rfl,ho⟩;have HO4:=hid ho;clear ho d9 d11 cU3)
     obtain ⟨F4,r4,s4,h4,m4,d4⟩:=HO4.out;obtain ⟨hs,hm⟩:=h4.keep hT (i:=0) (.inl rfl);have HS:=hid (And.intro hs (And.intro (HM3.out.trans m4 |>.trans hm) d4));obtain ⟨-,-,-,-,-,-,-,-,-,-,-,c11,f11⟩:=h4.cells;clear h4 m4 d4 hs hm HO4;go_wp2_with fail
     go_ret
     have hd:=HM.out.2;have hd4:=HS.out.2.2;exact ⟨rfl,F4,r4,s4,HS.out.1,HS.out.2.1,by omega,by omega⟩
 . have hi0:((i:Int)==0)=false:=by simp;omega
   by_cases ht:thr c i
   . simp only [if_pos ht] at cL
     simp only [ht,not_true_eq_false,and_false,if_false];have hR:=Ei (kp:=kp) ht.1;have cP:=Qz h hc hT (by omega) (Eh kp) ht.2;rw [hR] at cP;have CP:=hid cP;generalize (if i=kp then 0 else 1)=R at*;have HT:=hid ht;obtain ⟨-,-,-,-,-,-,-,-,-,c9,-,c11,-⟩:=h.cells;clear h cP hR ht h0;go_enter Tryz.func38,Tryz.ntmps38
     go_upto_region 8 with (first
      |(go_at_call 55;refine cM.out.mono ?_;rintro e w' ⟨rfl,rfl⟩)
      |(go_at_call 46;refine cL.out.mono ?_;rintro e w' ⟨rfl,rfl⟩)
      |(go_at_call 47;refine CP.out.mono ?_;rintro e w1 ⟨rfl,ho⟩;have HO:=hid ho;clear ho c9 c11 CP cM cL))
     obtain ⟨F1,r1,s1,h1,m1,d1⟩:=HO.out;have HM:=hid (And.intro m1 d1);by_cases hk:kp=0
     . subst hk
       rw [Hz i HT.out.1] at h1;obtain ⟨hs,hm⟩:=h1.keep hT (.inr HT.out);have HS:=hid (And.intro hs hm);obtain ⟨-,-,-,-,-,-,-,-,-,-,-,c11,f11⟩:=h1.cells;clear h1 m1 d1 hs hm cU HO H;go_wp2_with fail
       go_ret
       exact ⟨rfl,F1,r1,s1,HS.out.1,HM.out.1.trans HS.out.2,HM.out.2⟩
     . have hk0:((kp:Int)==0)=false:=by simp;omega
       have hkp:0<kp:=(by omega);obtain ⟨-,-,-,-,-,-,-,-,-,-,-,c11,f11⟩:=h1.cells;go_upto_region 9 with fail
       have HK:=hid (M5 kp i HT.out.1 hkp)
       have hP:upF (kpF kp) i (kpF kp i+1) kp≠0:=by
        unfold upF;split
        . omega
        . rw [sV hkp];decide
       have hb3:=Ca.dP w1;have h3:=h1.kept hT hb3;have HM3:=hid (HM.out.1.trans (Mv.below z F1 hb3));have cU3:=cU h3 hP;rw [HK.out] at cU3;obtain ⟨-,-,-,-,-,-,-,-,-,d9,-,d11,-⟩:=h3.cells;refine wp_region_still_tail 8 (by kernel_rfl) (by kernel_rfl) ?_;simp only [List.take_succ_cons,List.take_zero,List.drop_succ_cons,List.drop_zero];clear h1 h3 hb3 hP c11 f11 cU;generalize { w1 with drawn:=w1.drawn+1 }=w3 at*
       repeat (refine wpStill_step (fun K hK=>?_);go_simp;(refine hK _ ?_;clear hK K))
       refine wpStill_nil ?_;go_upto_region 10 with (go_at_call 49;refine cU3.out.mono ?_;rintro e w4 ⟨rfl,ho⟩;have HO4:=hid ho;clear ho d9 d11 cU3)
       obtain ⟨F4,r4,s4,h4,m4,d4⟩:=HO4.out;obtain ⟨hs,hm⟩:=h4.keep hT (i:=i) (.inr HT.out);have HS:=hid (And.intro hs (And.intro (HM3.out.trans m4 |>.trans hm) d4));obtain ⟨-,-,-,-,-,-,-,-,-,-,-,c11,f11⟩:=h4.cells;clear h4 m4 d4 hs hm HO4;go_wp2_with fail
       go_ret
       have hd:=HM.out.2;have hd4:=HS.out.2.2;exact ⟨rfl,F4,r4,s4,HS.out.1,HS.out.2.1,by omega,by omega⟩
   . simp only [if_neg ht] at cL
     have hip:0<i:=(by omega);simp only [ht,hip,not_false_eq_true,and_self,if_true];clear h ht cU;generalize (if i=kp then 0 else 1)=R at*;go_enter Tryz.func38,Tryz.ntmps38
     go_wp2_with (first
      |(go_at_call 55;refine cM.out.mono ?_;rintro e w' ⟨rfl,rfl⟩)
      |(go_at_call 46;refine cL.out.mono ?_;rintro e w' ⟨rfl,rfl⟩))
     go_ret
     exact ⟨rfl,Out.same (H.out.mono (Nat.le_add_right _ 2)) hT (Below.refl _ _) _ _⟩
end
end Sh
end Go.Proofs.YtjpjjnalpdpljaaGreatDoor
