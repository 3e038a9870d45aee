import Derived.Test.YtjpjjnalpdpljaaGreatDoorPkAY
import Derived.Test.YtjpjjnalpdpljaaGreatDoorPkAV
import Derived.Test.YtjpjjnalpdpljaaGreatDoorPkAE
set_option maxHeartbeats 4000000
set_option maxRecDepth 100000
namespace Go.Proofs.YtjpjjnalpdpljaaGreatDoor
open Go.RowKit
open Go.Lib (hid)
open ah.aS (cell)
namespace Sh
open Mem No Bt Bu Po
def mkS (s:Ds) (j:Nat) (t:List Bool) (n:Nd) (a:At):Ds:=vH { s with held:=t } j ⟨1,n,a⟩
def EvW (X:Option Addr->Nat->Array Value) (L:List Sl) (w0:World) (v:Value) (w:World):Prop:=∃A c,v= .agg (X A c)/\RC SlK w A c L/\(∀a,A=some a->w0.heap.size<=a.block)/\Bw w0 w
def EvZ (b:Nat) (C:Array Value) (w0:World) (v:Value) (w:World):Prop:=v=undef/\w.heap[b]? =some (.cells C 35 (0,0))/\Flow.Into [b] w0 w
theorem mW (w:World) (b:Nat) (v0 v1 v2 v3 v4 v5 v6 v7 v8 v9 v10:Value):Flow.Into [b] w (eF w b v0 v1 v2 v3 v4 v5 v6 v7 v8 v9 v10):=by
 unfold eF;exact Wd.aV (Wd.aV (Wd.aV (Wd.aV (Wd.aV (Wd.aV (Wd.aV (Wd.aV (Wd.aV (Wd.aV (Wd.aV (Flow.Into.refl _ _) _ _) _ _) _ _) _ _) _ _) _ _) _ _) _ _) _ _) _ _) _ _
theorem Bp (s:Ds) (A:Option Addr) (cl h ch:Nat) (nd:Nd) (at_:At) (w:World) (hR:∀w',Bw w w'->CB 77 #[.agg (aZ s.c),.agg (bL nd at_)] w' (.bool false)):
 CB 42 #[.agg (bY s A cl h ch),.agg (bL nd at_)] w (.tuple #[.agg (bY s A cl h ch),.int .u32 0,(3:Int)]):=by
 obtain ⟨lv,kA,kn,kc,pA,pn,pc,bA,bn,bc,rA,rn,rc,hN⟩:∃lv kA kn kc pA pn pc bA bn bc rA rn rc,bL nd at_= #[.int .i64 lv,.slice kA kn kc,.slice pA pn pc,.slice bA bn bc,.slice rA rn rc]:=⟨_,_,_,_,_,_,_,_,_,_,_,_,_,rfl⟩
 have cR:=fun w' hb=>hid (hR w' hb);rw [hN] at cR ⊢;clear hR hN;obtain ⟨⟨cB,cY,cF,cN,cU,cL,cKy,cV⟩,l,held,kept⟩:=s;unfold bY;unfold aZ at cR;simp only at cR ⊢;generalize l.length=n at*;generalize held.length=m at*;go_enter Tryz.func42,Tryz.ntmps42
 go_upto_region 1 with fail
 generalize hw1:((w.alloc _).alloc _).alloc _=w1
 have HA:Hid (w1.heap[w.heap.size]? =some (.cells #[cB,cY,cF,cN,cU,cL,cKy,cV,.slice A n cl,.slice (some ⟨h,0,none⟩) m ch,.int .u32 (kept:Int)] 35 (0,0))):=by
  rw [<-hw1];exact (aM w _ _ _).1
 have HN:Hid (w1.heap[w.heap.size+1]? =some (.cells #[lv,.slice kA kn kc,.slice pA pn pc,.slice bA bn bc,.slice rA rn rc] 43 (0,0))):=by
  rw [<-hw1];exact (aM w _ _ _).2.1
 have HZ:Hid (w1.heap[w.heap.size+1+1]? =some (.cells #[(0:Int),(0:Int),(0:Int),(0:Int),(0:Int),(0:Int),(0:Int),(0:Int),(),(),.int .u32 0] 35 (0,0))):=by
  rw [<-hw1];exact (aM w _ _ _).2.2.1
 have HB:Hid (Bw w w1):=by
  rw [<-hw1];exact (aM w _ _ _).2.2.2
 clear hw1;obtain ⟨g,hg⟩:∃g,g=w.heap.size:=⟨_,rfl⟩
 rw [<-hg] at HA HZ HN;simp only [<-hg];have HG:Hid (w.heap.size<=g):=by unfold Hid;omega
 clear hg;obtain ⟨a0,a1,a2,a3,a4,a5,a6,a7,a8,a9,a10⟩:=aW HA.out;obtain ⟨n0,n1,n2,n3,n4⟩:=aG HN.out;go_upto_region 2 with (go_at_call 77;refine (cR _ HB.out).out.mono ?_;rintro e w2 ⟨rfl,hb⟩)
 clear a0 a1 a2 a3 a4 a5 a6 a7 a8 a9 a10 n0 n1 n2 n3 n4;replace HZ:=hid (aC HZ.out hb);replace HN:=hid (aC HN.out hb);replace HA:=hid (aC HA.out hb);replace HB:=hid (HB.out.trans (hb.mono HB.out.size));clear hb cR;obtain ⟨a0,a1,a2,a3,a4,a5,a6,a7,a8,a9,a10⟩:=aW HA.out;obtain ⟨n0,n1,n2,n3,n4⟩:=aG HN.out;obtain ⟨z0,z1,z2,z3,z4,z5,z6,z7,z8,z9,z10⟩:=aW HZ.out;have f0:=au HZ.out 0;have f1:=au HZ.out 1;have f2:=au HZ.out 2;have f3:=au HZ.out 3;have f4:=au HZ.out 4;have f5:=au HZ.out 5;have f6:=au HZ.out 6;have f7:=au HZ.out 7;have f8:=au HZ.out 8;have f9:=au HZ.out 9;have f10:=au HZ.out 10;have HU:=hid (bT HZ.out cB cY cF cN cU cL cKy cV (.slice A n cl) (.slice (some ⟨h,0,none⟩) m ch) (.int .u32 (kept:Int)));have HBW:=hid (bB HB.out (show w.heap.size<=g+1+1 by have:=HG.out;omega) cB cY cF cN cU cL cKy cV (.slice A n cl) (.slice (some ⟨h,0,none⟩) m ch) (.int .u32 (kept:Int)));unfold eF at HU HBW;go_wp2_with fail
 obtain ⟨y0,y1,y2,y3,y4,y5,y6,y7,y8,y9,y10⟩:=aW HU.out;exact bodyPost_ret (v:= .tuple #[.agg #[cB,cY,cF,cN,cU,cL,cKy,cV,.slice A n cl,.slice (some ⟨h,0,none⟩) m ch,.int .u32 (kept:Int)],.int .u32 0,(3:Int)]) (by simp [results,Tryz.results42,go_sem,y0,y1,y2,y3,y4,y5,y6,y7,y8,y9,y10]) rfl ⟨rfl,HBW.out⟩
theorem vQ (s:Ds) (A:Option Addr) (cl h ch:Nat) (nd:Nd) (at_:At) (w:World) (hR:∀w',Bw w w'->CB 77 #[.agg (aZ s.c),.agg (bL nd at_)] w' (.bool true)) (hbl:bE w h ch s.held.length s.held) (EX:s.held.length<=65536) (hfr:free s.held=0):
 CB 42 #[.agg (bY s A cl h ch),.agg (bL nd at_)] w (.tuple #[.agg (bY s A cl h ch),.int .u32 0,(11:Int)]):=by
 obtain ⟨lv,kA,kn,kc,pA,pn,pc,bA,bn,bc,rA,rn,rc,hN⟩:∃lv kA kn kc pA pn pc bA bn bc rA rn rc,bL nd at_= #[.int .i64 lv,.slice kA kn kc,.slice pA pn pc,.slice bA bn bc,.slice rA rn rc]:=⟨_,_,_,_,_,_,_,_,_,_,_,_,_,rfl⟩
 have cR:=fun w' hb=>hid (hR w' hb);have cG:∀w',Bw w w'->Hid (CW 79 #[.slice (some ⟨h,0,none⟩) s.held.length ch,(1:Int)] w' (.tuple #[.slice (some ⟨h,0,none⟩) s.held.length ch,(),(11:Int)])):=fun w' hb=>Au h ch _ s.held 1 w' (hbl.kept hb) (by omega) (by omega) (by omega)
 rw [hN] at cR ⊢;clear hR hN hbl EX hfr;obtain ⟨⟨cB,cY,cF,cN,cU,cL,cKy,cV⟩,l,held,kept⟩:=s;unfold bY;unfold aZ at cR;simp only at cR cG ⊢;generalize l.length=n at*;generalize held.length=m at*;go_enter Tryz.func42,Tryz.ntmps42
 go_upto_region 1 with fail
 generalize hw1:((w.alloc _).alloc _).alloc _=w1
 have HA:Hid (w1.heap[w.heap.size]? =some (.cells #[cB,cY,cF,cN,cU,cL,cKy,cV,.slice A n cl,.slice (some ⟨h,0,none⟩) m ch,.int .u32 (kept:Int)] 35 (0,0))):=by
  rw [<-hw1];exact (aM w _ _ _).1
 have HN:Hid (w1.heap[w.heap.size+1]? =some (.cells #[lv,.slice kA kn kc,.slice pA pn pc,.slice bA bn bc,.slice rA rn rc] 43 (0,0))):=by
  rw [<-hw1];exact (aM w _ _ _).2.1
 have HZ:Hid (w1.heap[w.heap.size+1+1]? =some (.cells #[(0:Int),(0:Int),(0:Int),(0:Int),(0:Int),(0:Int),(0:Int),(0:Int),(),(),.int .u32 0] 35 (0,0))):=by
  rw [<-hw1];exact (aM w _ _ _).2.2.1
 have HB:Hid (Bw w w1):=by
  rw [<-hw1];exact (aM w _ _ _).2.2.2
 clear hw1;obtain ⟨g,hg⟩:∃g,g=w.heap.size:=⟨_,rfl⟩
 rw [<-hg] at HA HZ HN;simp only [<-hg];have HG:Hid (w.heap.size<=g):=by unfold Hid;omega
 clear hg;obtain ⟨a0,a1,a2,a3,a4,a5,a6,a7,a8,a9,a10⟩:=aW HA.out;obtain ⟨n0,n1,n2,n3,n4⟩:=aG HN.out;go_upto_region 3 with (go_at_call 77;refine (cR _ HB.out).out.mono ?_;rintro e w2 ⟨rfl,hb⟩)
 clear a0 a1 a2 a3 a4 a5 a6 a7 a8 a9 a10 n0 n1 n2 n3 n4;replace HZ:=hid (aC HZ.out hb);replace HN:=hid (aC HN.out hb);replace HA:=hid (aC HA.out hb);replace HB:=hid (HB.out.trans (hb.mono HB.out.size));clear hb cR;obtain ⟨a0,a1,a2,a3,a4,a5,a6,a7,a8,a9,a10⟩:=aW HA.out;obtain ⟨n0,n1,n2,n3,n4⟩:=aG HN.out;go_upto_region 5 with (go_at_call 79;refine (cG _ HB.out).out.mono ?_;rintro e w3 ⟨rfl,rfl⟩)
 clear cG;obtain ⟨z0,z1,z2,z3,z4,z5,z6,z7,z8,z9,z10⟩:=aW HZ.out;have f0:=au HZ.out 0;have f1:=au HZ.out 1;have f2:=au HZ.out 2;have f3:=au HZ.out 3;have f4:=au HZ.out 4;have f5:=au HZ.out 5;have f6:=au HZ.out 6;have f7:=au HZ.out 7;have f8:=au HZ.out 8;have f9:=au HZ.out 9;have f10:=au HZ.out 10;have HU:=hid (bT HZ.out cB cY cF cN cU cL cKy cV (.slice A n cl) (.slice (some ⟨h,0,none⟩) m ch) (.int .u32 (kept:Int)));have HBW:=hid (bB HB.out (show w.heap.size<=g+1+1 by have:=HG.out;omega) cB cY cF cN cU cL cKy cV (.slice A n cl) (.slice (some ⟨h,0,none⟩) m ch) (.int .u32 (kept:Int)));unfold eF at HU HBW;go_wp2_with fail
 obtain ⟨y0,y1,y2,y3,y4,y5,y6,y7,y8,y9,y10⟩:=aW HU.out;exact bodyPost_ret (v:= .tuple #[.agg #[cB,cY,cF,cN,cU,cL,cKy,cV,.slice A n cl,.slice (some ⟨h,0,none⟩) m ch,.int .u32 (kept:Int)],.int .u32 0,(11:Int)]) (by simp [results,Tryz.results42,go_sem,y0,y1,y2,y3,y4,y5,y6,y7,y8,y9,y10]) rfl ⟨rfl,HBW.out⟩
theorem Bq (s:Ds) (A:Option Addr) (cl h ch B j:Nat) (t:List Bool) (nd:Nd) (at_:At) (w:World) (hR:∀w',Bw w w'->CB 77 #[.agg (aZ s.c),.agg (bL nd at_)] w' (.bool true)) (hrc:RC SlK w A cl s.l) (hll:s.l.length<=65536) (hhl:s.held.length=s.l.length) (hbl:bE w h ch s.held.length s.held) (hB:B<=h) (hBw:B<=w.heap.size) (Lm:Got s.held 1 t [j]) (hfr:1<=free s.held):
 Calls Tryz.prog 42 #[.agg (bY s A cl h ch),.agg (bL nd at_)] w fun e w'=>(∃A' c' h' ch',e=.returned (.tuple #[.agg (bY (mkS s j t nd at_) A' c' h' ch'),.int .u32 (j:Int),(0:Int)])/\bE w' h' ch' s.held.length (mkS s j t nd at_).held/\B<=h'/\RC SlK w' A' c' (mkS s j t nd at_).l/\(∀a,A'=some a->w.heap.size<=a.block))/\Bw w w':=by
 obtain ⟨lv,kA,kn,kc,pA,pn,pc,bA,bn,bc,rA,rn,rc,hN⟩:∃lv kA kn kc pA pn pc bA bn bc rA rn rc,bL nd at_= #[.int .i64 lv,.slice kA kn kc,.slice pA pn pc,.slice bA bn bc,.slice rA rn rc]:=⟨_,_,_,_,_,_,_,_,_,_,_,_,_,rfl⟩
 have HS:Hid ((jY ⟨1,nd,at_⟩).toArray= #[.int .i64 1,.int .i64 lv,.slice kA kn kc,.slice pA pn pc,.slice bA bn bc,.slice rA rn rc]):=by
  unfold Hid;rw [show jY ⟨1,nd,at_⟩= .int .i64 1::(bL nd at_).toList from rfl,hN]
 have cR:=fun w' hb=>hid (hR w' hb);have cG:∀w',Bw w w'->Hid (Calls Tryz.prog 79 #[.slice (some ⟨h,0,none⟩) s.held.length ch,(1:Int)] w' fun e w2=>Qt w' w2 B s.held.length 1 s.held e):=fun w' hb=>GV h ch _ 1 s.held w' (hbl.kept hb) (by omega) hfr B hB (Nat.le_trans hBw hb.size)
 have hjl:j<s.l.length:=by rw [<-hhl];exact Lm.lt (by simp)
 have htl:t.length=s.held.length:=Lm.len.1;have HRc:=hid hrc;have PX:=hid Lm;rw [hN] at cR ⊢;clear hR hN hbl hB hfr hrc Lm;obtain ⟨⟨cB,cY,cF,cN,cU,cL,cKy,cV⟩,l,held,kept⟩:=s;unfold mkS bY vH;unfold aZ at cR;simp only [List.length_set] at cR cG hjl htl hll hhl PX HRc ⊢;obtain ⟨m,hm⟩:∃m,m=held.length:=⟨_,rfl⟩
 obtain ⟨n,hn⟩:∃n,n=l.length:=⟨_,rfl⟩
 have cW:∀(h' ch':Nat) w',Bw w w'->Hid (Calls Tryz.prog 78 #[.agg #[cB,cY,cF,cN,cU,cL,cKy,cV,.slice A n cl,.slice (some ⟨h',0,none⟩) m ch',.int .u32 (kept:Int)],.int .u32 (j:Int),.agg #[(1:Int),lv,.slice kA kn kc,.slice pA pn pc,.slice bA bn bc,.slice rA rn rc]] w' fun e w2=>(∃A' c',e=.returned (.agg #[cB,cY,cF,cN,cU,cL,cKy,cV,.slice A' n c',.slice (some ⟨h',0,none⟩) m ch',.int .u32 (kept:Int)])/\RC SlK w2 A' c' (l.set j ⟨1,nd,at_⟩)/\(∀a,A'=some a->w'.heap.size<=a.block))/\Bw w' w2):=fun h' ch' w' hb=>by
  have h9:=pR ⟨⟨cB,cY,cF,cN,cU,cL,cKy,cV⟩,l,t,kept⟩ A cl h' ch' j ⟨1,nd,at_⟩ hjl (by omega) w' (HRc.out.kept hb) hll;unfold bY vH at h9;simp only [List.length_set,HS.out] at h9;rw [htl,<-hm,<-hn] at h9;exact h9
 rw [<-hm] at cG;simp only [htl,<-hm,<-hn];clear htl hjl hll hhl hm hn HS;go_enter Tryz.func42,Tryz.ntmps42
 go_upto_region 1 with fail
 generalize hw1:((w.alloc _).alloc _).alloc _=w1
 have HA:Hid (w1.heap[w.heap.size]? =some (.cells #[cB,cY,cF,cN,cU,cL,cKy,cV,.slice A n cl,.slice (some ⟨h,0,none⟩) m ch,.int .u32 (kept:Int)] 35 (0,0))):=by
  rw [<-hw1];exact (aM w _ _ _).1
 have HN:Hid (w1.heap[w.heap.size+1]? =some (.cells #[lv,.slice kA kn kc,.slice pA pn pc,.slice bA bn bc,.slice rA rn rc] 43 (0,0))):=by
  rw [<-hw1];exact (aM w _ _ _).2.1
 have HZ:Hid (w1.heap[w.heap.size+1+1]? =some (.cells #[(0:Int),(0:Int),(0:Int),(0:Int),(0:Int),(0:Int),(0:Int),(0:Int),(),(),.int .u32 0] 35 (0,0))):=by
  rw [<-hw1];exact (aM w _ _ _).2.2.1
 have HB:Hid (Bw w w1):=by
  rw [<-hw1];exact (aM w _ _ _).2.2.2
 clear hw1;obtain ⟨g,hg⟩:∃g,g=w.heap.size:=⟨_,rfl⟩
 rw [<-hg] at HA HZ HN;simp only [<-hg];have HG:Hid (w.heap.size<=g):=by unfold Hid;omega
 clear hg;obtain ⟨a0,a1,a2,a3,a4,a5,a6,a7,a8,a9,a10⟩:=aW HA.out;obtain ⟨n0,n1,n2,n3,n4⟩:=aG HN.out;go_upto_region 3 with (go_at_call 77;refine (cR _ HB.out).out.mono ?_;rintro e w2 ⟨rfl,hb⟩)
 clear a0 a1 a2 a3 a4 a5 a6 a7 a8 a9 a10 n0 n1 n2 n3 n4;replace HZ:=hid (aC HZ.out hb);replace HN:=hid (aC HN.out hb);replace HA:=hid (aC HA.out hb);replace HB:=hid (HB.out.trans (hb.mono HB.out.size));clear hb cR;obtain ⟨a0,a1,a2,a3,a4,a5,a6,a7,a8,a9,a10⟩:=aW HA.out;obtain ⟨n0,n1,n2,n3,n4⟩:=aG HN.out;go_upto_region 4 with (go_at_call 79;refine (cG _ HB.out).out.mono ?_;rintro e w3 ⟨h',ch',Aq,cq,t',l',rfl,Lm,hbn,hvo,hlo,hb⟩;obtain ⟨rfl,rfl⟩:=Lm.one PX.out)
 obtain ⟨q,rfl,hqB,how⟩:=hvo.ow (by simp);clear a0 a1 a2 a3 a4 a5 a6 a7 a8 a9 a10 n0 n1 n2 n3 n4;replace HZ:=hid (aC HZ.out hb);replace HN:=hid (aC HN.out hb);replace HA:=hid (aC HA.out hb);replace HB:=hid (HB.out.trans (hb.mono HB.out.size));have HOW:=hid how;have HBN:=hid hbn;have HLN:=hid hlo;clear hb cG Lm hbn hvo hlo how PX hqB;obtain ⟨a0,a1,a2,a3,a4,a5,a6,a7,a8,a9,a10⟩:=aW HA.out;go_upto_region 6 with fail
 have fr:=au HA.out 9;go_upto_region 7 with fail
 clear a0 a1 a2 a3 a4 a5 a6 a7 a8 a9 a10 fr;have HNA:Hid (h'≠g):=jk HBN.out HA.out (by decide);have HNZ:Hid (h'≠g+1+1):=jk HBN.out HZ.out (by decide)
 have HQA:Hid (q≠g):=fun e=>by
  rcases HOW.out.2 with ⟨h9,_⟩|⟨g9,KW,RS,h9,_,hg9,_⟩
  . cases h9
  . obtain ⟨rfl,-⟩:q=g9/\cq=KW:=by simpa using h9
    rw [e,HA.out] at hg9;simp only [Option.some.injEq,Obj.cells.injEq] at hg9;exact absurd hg9.2.1 (by decide)
 have HQZ:Hid (q≠g+1+1):=fun e=>by
  rcases HOW.out.2 with ⟨h9,_⟩|⟨g9,KW,RS,h9,_,hg9,_⟩
  . cases h9
  . obtain ⟨rfl,-⟩:q=g9/\cq=KW:=by simpa using h9
    rw [e,HZ.out] at hg9;simp only [Option.some.injEq,Obj.cells.injEq] at hg9;exact absurd hg9.2.1 (by decide)
 replace HA:=hid (zF HA.out (.slice (some ⟨h',0,none⟩) m ch'));replace HZ:=hid ((aQ (i:=9) (.slice (some ⟨h',0,none⟩) m ch') (show g+1+1≠g by omega)).trans HZ.out);replace HN:=hid ((aQ (i:=9) (.slice (some ⟨h',0,none⟩) m ch') (show g+1≠g by omega)).trans HN.out);replace HBN:=hid (tH (i:=9) HBN.out HNA.out (.slice (some ⟨h',0,none⟩) m ch'));replace HOW:=hid (HOW.out.keep (aQ (i:=9) (.slice (some ⟨h',0,none⟩) m ch') HQA.out));replace HB:Hid (Bw w (w3.setCell ⟨g,9,none⟩ (.slice (some ⟨h',0,none⟩) m ch'))):=HB.out.setCell HG.out _;generalize w3.setCell ⟨g,9,none⟩ (.slice (some ⟨h',0,none⟩) m ch')=w6 at*;have HG3:Hid (g+1+1<w6.heap.size):=(Array.getElem?_eq_some_iff.1 HZ.out).1;have c0:w6.cell? ⟨q,0,none⟩=some (.int .u32 (j:Int)):=HOW.out.cell (by simp);obtain ⟨a0,a1,a2,a3,a4,a5,a6,a7,a8,a9,a10⟩:=aW HA.out;obtain ⟨n0,n1,n2,n3,n4⟩:=aG HN.out;have t0:=fun td:ah.aS [g+1+1] w6 []=>cell a0 (by simp;omega) td;have t1:=fun td:ah.aS [g+1+1] w6 []=>cell a1 (by simp;omega) td;have t2:=fun td:ah.aS [g+1+1] w6 []=>cell a2 (by simp;omega) td;have t3:=fun td:ah.aS [g+1+1] w6 []=>cell a3 (by simp;omega) td;have t4:=fun td:ah.aS [g+1+1] w6 []=>cell a4 (by simp;omega) td;have t5:=fun td:ah.aS [g+1+1] w6 []=>cell a5 (by simp;omega) td;have t6:=fun td:ah.aS [g+1+1] w6 []=>cell a6 (by simp;omega) td;have t7:=fun td:ah.aS [g+1+1] w6 []=>cell a7 (by simp;omega) td;have t8:=fun td:ah.aS [g+1+1] w6 []=>cell a8 (by simp;omega) td;have t9:=fun td:ah.aS [g+1+1] w6 []=>cell a9 (by simp;omega) td;have t10:=fun td:ah.aS [g+1+1] w6 []=>cell a10 (by simp;omega) td;have u0:=fun td:ah.aS [g+1+1] w6 []=>cell n0 (by simp) td;have u1:=fun td:ah.aS [g+1+1] w6 []=>cell n1 (by simp) td;have u2:=fun td:ah.aS [g+1+1] w6 []=>cell n2 (by simp) td;have u3:=fun td:ah.aS [g+1+1] w6 []=>cell n3 (by simp) td;have u4:=fun td:ah.aS [g+1+1] w6 []=>cell n4 (by simp) td;have tq:=fun td:ah.aS [g+1+1] w6 []=>cell c0 (by have:=HQZ.out;simpa using this) td
 have hS:∀k,k∈[g+1+1]->k<w6.heap.size:=fun k hk=>by
  obtain rfl:k=g+1+1:=by simpa using hk
  exact HG3.out
 clear a0 a1 a2 a3 a4 a5 a6 a7 a8 a9 a10 n0 n1 n2 n3 n4 c0 HOW HQA HN;refine ah.aj [g+1+1] [(0,[]),(1,[]),(2,[]),(3,[]),(4,[]),(5,[]),(7,[]),(8,[]),(9,[]),(6,[]),(10,[]),(11,[]),(12,[])] [6,10] [] (by kernel_rfl) (by kernel_rfl) hS ?_;simp only [ah.pick,ah.aO,ah.dL]
 repeat (refine ah.ak (fun K hK=>?_);go_simp;first|(refine hK _ ?_;clear hK K)|(refine ⟨_,fun _=>rfl,hK _ ?_⟩;clear hK K))
 refine ah.aN rfl ah.aF (EvW (fun A' c'=> #[.int .i64 cB,.int .i64 cY,.int .i64 cF,.int .i64 cN,.int .i64 cU,.int .i64 cL,.int .i64 cKy,.int .i64 cV,.slice A' n c',.slice (some ⟨h',0,none⟩) m ch',.int .u32 (kept:Int)]) (l.set j ⟨1,nd,at_⟩) w6) (fun W2 hk _=>?_) (fun y w7 hv hI _ hTd=>?_)
 . go_simp
   go_at_call 78
   refine (cW h' ch' _ (HB.out.trans (hk.mono HB.out.size))).out.mono ?_;rintro e w' ⟨⟨A',c',rfl,KT,hlo2⟩,hb⟩;exact ⟨_,rfl,⟨A',c',rfl,KT,fun a ha=>Nat.le_trans hk.size (hlo2 a ha),(show Bw w6 W2 from hk).trans (hb.mono hk.size)⟩,Flow.Into.of_below hb⟩
 obtain ⟨A',c',rfl,KT,hlo2,hb7⟩:=hv;have HSZ:=hid HB.out.size;replace HZ:=hid (aC HZ.out hb7);replace HB:=hid (HB.out.trans (hb7.mono HB.out.size));replace HBN:=hid (HBN.out.kept hb7);have Nu:=hid hlo2;have Pz:=hid KT;clear hb7 hlo2 KT hI hTd t0 t1 t2 t3 t4 t5 t6 t7 t8 t9 t10 u0 u1 u2 u3 u4 tq cW;refine ah.aN rfl ah.aF (EvZ (g+1+1) #[cB,cY,cF,cN,cU,cL,cKy,cV,.slice A' n c',.slice (some ⟨h',0,none⟩) m ch',.int .u32 (kept:Int)] w7) (fun W2 hk _=>?_) (fun y w9 hv hI _ hTd=>?_)
 . have hz:=aC HZ.out hk
   obtain ⟨z0,z1,z2,z3,z4,z5,z6,z7,z8,z9,z10⟩:=aW hz;have f0:=au hz 0;have f1:=au hz 1;have f2:=au hz 2;have f3:=au hz 3;have f4:=au hz 4;have f5:=au hz 5;have f6:=au hz 6;have f7:=au hz 7;have f8:=au hz 8;have f9:=au hz 9;have f10:=au hz 10;have hs:=bT hz cB cY cF cN cU cL cKy cV (.slice A' n c') (.slice (some ⟨h',0,none⟩) m ch') (.int .u32 (kept:Int));have hi:=mW W2 (g+1+1) cB cY cF cN cU cL cKy cV (.slice A' n c') (.slice (some ⟨h',0,none⟩) m ch') (.int .u32 (kept:Int));unfold eF at hs hi;have HS1:=hid hs;have HI1:=hid hi;have HI2:Hid (Flow.Into [g+1+1] w7 _):=(Flow.Into.of_below hk).trans hi;clear hs hi hz;go_simp
   exact ⟨⟨rfl,HS1.out,HI2.out⟩,HI1.out⟩
 obtain ⟨rfl,av,ai⟩:=hv
 repeat (refine ah.ak (fun K hK=>?_);go_simp;(refine hK _ ?_;clear hK K))
 refine ah.walk_nil ?_;intro w10 yj _;have HU:=hid (aC av yj);have KU:=hid ((mO Pz.out ai (fun a _ ha=>by have h1:=Nu.out a ha;have h2:=HG3.out;simp only [List.mem_singleton];omega)).kept yj);have Ij:=hid ((HBN.out.into ai (by have:=HNZ.out;simpa using this)).kept yj)
 have HBW:Hid (Bw w w10):=by
  have h1:=HB.out;have h2:=HG.out;have h3:Bw w w9:=⟨ai.os.trans h1.os,ai.tape.trans h1.tape,ai.output.trans h1.output,Nat.le_trans h1.size ai.size,fun k hk=>(ai.block k (Nat.lt_of_lt_of_le hk h1.size) (by simp only [List.mem_singleton];omega)).trans (h1.block k hk)⟩;exact h3.trans (yj.mono h3.size)
 clear hI hTd av ai yj hS;simp only [lC,List.drop_nil,Nat.zero_add,Nat.reduceAdd];go_wp2_with fail
 obtain ⟨y0,y1,y2,y3,y4,y5,y6,y7,y8,y9,y10⟩:=aW HU.out;exact bodyPost_ret (v:= .tuple #[.agg #[cB,cY,cF,cN,cU,cL,cKy,cV,.slice A' n c',.slice (some ⟨h',0,none⟩) m ch',.int .u32 (kept:Int)],.int .u32 (j:Int),(0:Int)]) (by simp [results,Tryz.results42,go_sem,y0,y1,y2,y3,y4,y5,y6,y7,y8,y9,y10]) rfl ⟨⟨A',c',h',ch',rfl,Ij.out,HLN.out,KU.out,(fun a ha=>Nat.le_trans HSZ.out (Nu.out a ha))⟩,HBW.out⟩
end Sh
end Go.Proofs.YtjpjjnalpdpljaaGreatDoor
