import Derived.Test.YtjpjjnalpdpljaaGreatDoorPkAX
import Derived.Test.YtjpjjnalpdpljaaGreatDoorPkAE
import Derived.Test.YtjpjjnalpdpljaaGreatDoorPkAV
set_option maxHeartbeats 4000000
set_option maxRecDepth 100000
namespace Go.Proofs.YtjpjjnalpdpljaaGreatDoor
open Go.RowKit
open Go.Lib (hid)
namespace Sh
open Mem No Bt Bu
def svE (s:Ds) (i:Nat) (r:Bool):Int:=if there s i then (if r=true then 0 else 3) else 4
def svS (s:Ds) (i:Nat) (r:Bool) (n:Nd) (a:At):Ds:=if there s i then (if r=true then vH s i ⟨1,n,a⟩ else s) else s
theorem kJ {w:World} {b k:Nat} (v0 v1 v2 v3 v4 v5 v6 v7 v8 v9 v10:Value) (hk:k≠b):(eF w b v0 v1 v2 v3 v4 v5 v6 v7 v8 v9 v10).heap[k]? =w.heap[k]? :=by
 unfold eF;rw [aQ _ hk,aQ _ hk,aQ _ hk,aQ _ hk,aQ _ hk,aQ _ hk,aQ _ hk,aQ _ hk,aQ _ hk,aQ _ hk,aQ _ hk]
theorem tF {α:Type} {K:Kind α} {w:World} {b c:Nat} {A:Option Addr} {L:List α} (h:RC K w A c L) (hb:∀a,A=some a->a.block≠b) (v0 v1 v2 v3 v4 v5 v6 v7 v8 v9 v10:Value):RC K (eF w b v0 v1 v2 v3 v4 v5 v6 v7 v8 v9 v10) A c L:=⟨h.1.keep (by unfold eF;simp) fun a ha=>kJ v0 v1 v2 v3 v4 v5 v6 v7 v8 v9 v10 (hb a ha),h.2⟩
theorem EW (s:Ds) (A:Option Addr) (cl h ch i:Nat) (nd:Nd) (at_:At) (h32:i<4294967296) (w:World) (hr:RC SlK w A cl s.l) (hlen:(s.l.length:Int)=s.c.blocks) (EX:s.l.length<=65536) (r:Bool)
 (hR:∀w',Bw w w'->CB 77 #[.agg (aZ s.c),.agg (bL nd at_)] w' (.bool r)):
 Calls Tryz.prog 41 #[.agg (bY s A cl h ch),.int .u32 (i:Int),.agg (bL nd at_)] w fun e w'=>(∃A' c',e=.returned (.tuple #[.agg (bY (svS s i r nd at_) A' c' h ch),(svE s i r:Int)])/\RC SlK w' A' c' (svS s i r nd at_).l/\(A'=A\/∀a,A'=some a->w.heap.size<=a.block))/\Bw w w':=by
 have cT:∀x:Bool,(x=true↔there s i)->∀w,Hid (CB 50 #[.agg (bY s A cl h ch),.int .u32 (i:Int)] w (.bool x)):=fun x hx w=>iY s A cl h ch i h32 w x hx
 have cR:∀w',Bw w w'->Hid (CB 77 #[.agg (aZ s.c),.agg (bL nd at_)] w' (.bool r)):=hR
 have hin:=fun ht:there s i=>EN hlen ht;clear hR;obtain ⟨lv,kA,kn,kc,pA,pn,pc,bA,bn,bc,rA,rn,rc,hN⟩:∃lv kA kn kc pA pn pc bA bn bc rA rn rc,bL nd at_= #[.int .i64 lv,.slice kA kn kc,.slice pA pn pc,.slice bA bn bc,.slice rA rn rc]:=⟨_,_,_,_,_,_,_,_,_,_,_,_,_,rfl⟩
 have HS:Hid ((jY ⟨1,nd,at_⟩).toArray= #[.int .i64 1,.int .i64 lv,.slice kA kn kc,.slice pA pn pc,.slice bA bn bc,.slice rA rn rc]):=by
  unfold Hid;rw [show jY ⟨1,nd,at_⟩= .int .i64 1::(bL nd at_).toList from rfl,hN]
 rw [hN] at cR ⊢;clear hN;have hE:svE s i r=if there s i then (if r=true then 0 else 3) else 4:=rfl
 have hS:svS s i r nd at_=if there s i then (if r=true then vH s i ⟨1,nd,at_⟩ else s) else s:=rfl
 generalize svE s i r=E at*;generalize svS s i r nd at_=S at*;by_cases ht:there s i
 case neg=>
  rw [if_neg ht] at hE hS;rw [hE,hS];clear hE hS;replace cT:=cT false ⟨fun h=>(by cases h),fun h=>absurd h ht⟩;have HR:=hid hr;obtain ⟨⟨cB,cY,cF,cN,cU,cL,cKy,cV⟩,l,held,kept⟩:=s;unfold bY at cT ⊢;simp only at cT HR ⊢;generalize l.length=n at*;generalize held.length=m at*;clear cR hin ht hlen hr EX HS;go_enter Tryz.func41,Tryz.ntmps41
  go_upto_region 1 with fail
  generalize hw1:((w.alloc _).alloc _).alloc _=w1
  have HA:Hid (w1.heap[w.heap.size]? =some (.cells #[cB,cY,cF,cN,cU,cL,cKy,cV,.slice A n cl,.slice (some ⟨h,0,none⟩) m ch,.int .u32 (kept:Int)] 35 (0,0))):=by
   rw [<-hw1];exact (aM w _ _ _).1
  have HN:Hid (w1.heap[w.heap.size+1]? =some (.cells #[lv,.slice kA kn kc,.slice pA pn pc,.slice bA bn bc,.slice rA rn rc] 43 (0,0))):=by
   rw [<-hw1];exact (aM w _ _ _).2.1
  have HZ:Hid (w1.heap[w.heap.size+1+1]? =some (.cells #[(0:Int),(0:Int),(0:Int),(0:Int),(0:Int),(0:Int),(0:Int),(0:Int),(),(),.int .u32 0] 35 (0,0))):=by
   rw [<-hw1];exact (aM w _ _ _).2.2.1
  have HB:Hid (Bw w w1):=by
   rw [<-hw1];exact (aM w _ _ _).2.2.2
  clear hw1;obtain ⟨g,hg⟩:∃g,g=w.heap.size:=⟨_,rfl⟩
  rw [<-hg] at HA HZ HN;simp only [<-hg];have HG:Hid (w.heap.size<=g):=by unfold Hid;omega
  clear hg;obtain ⟨a0,a1,a2,a3,a4,a5,a6,a7,a8,a9,a10⟩:=aW HA.out;go_upto_region 2 with (go_at_call 50;refine (cT _).out.mono ?_;rintro e w2 ⟨rfl,hb⟩)
  clear a0 a1 a2 a3 a4 a5 a6 a7 a8 a9 a10 cT;replace HZ:=hid (aC HZ.out hb);replace HA:=hid (aC HA.out hb);replace HN:=hid (aC HN.out hb);replace HB:=hid (HB.out.trans (hb.mono HB.out.size));clear hb;obtain ⟨a0,a1,a2,a3,a4,a5,a6,a7,a8,a9,a10⟩:=aW HA.out;obtain ⟨z0,z1,z2,z3,z4,z5,z6,z7,z8,z9,z10⟩:=aW HZ.out;have f0:=au HZ.out 0;have f1:=au HZ.out 1;have f2:=au HZ.out 2;have f3:=au HZ.out 3;have f4:=au HZ.out 4;have f5:=au HZ.out 5;have f6:=au HZ.out 6;have f7:=au HZ.out 7;have f8:=au HZ.out 8;have f9:=au HZ.out 9;have f10:=au HZ.out 10;have HU:=hid (bT HZ.out cB cY cF cN cU cL cKy cV (.slice A n cl) (.slice (some ⟨h,0,none⟩) m ch) (.int .u32 (kept:Int)));have HBW:=hid (bB HB.out (show w.heap.size<=g+1+1 by have:=HG.out;omega) cB cY cF cN cU cL cKy cV (.slice A n cl) (.slice (some ⟨h,0,none⟩) m ch) (.int .u32 (kept:Int)));unfold eF at HU HBW;go_wp2_with fail
  obtain ⟨y0,y1,y2,y3,y4,y5,y6,y7,y8,y9,y10⟩:=aW HU.out;exact bodyPost_ret (v:= .tuple #[.agg #[cB,cY,cF,cN,cU,cL,cKy,cV,.slice A n cl,.slice (some ⟨h,0,none⟩) m ch,.int .u32 (kept:Int)],(4:Int)]) (by simp [results,Tryz.results41,go_sem,y0,y1,y2,y3,y4,y5,y6,y7,y8,y9,y10]) rfl ⟨⟨A,cl,rfl,HR.out.kept HBW.out,.inl rfl⟩,HBW.out⟩
 case pos=>
  have hlt:=hin ht;rw [if_pos ht] at hE hS;replace cT:=cT true ⟨fun _=>ht,fun _=>rfl⟩;have HR:=hid hr;have HF:=hid EX;clear hin ht hlen hr EX;cases r
  case false=>
   rw [if_neg (by decide)] at hE hS;rw [hE,hS];clear hE hS HF HS hlt;obtain ⟨⟨cB,cY,cF,cN,cU,cL,cKy,cV⟩,l,held,kept⟩:=s;unfold bY at cT ⊢;unfold aZ at cR;simp only at cT cR HR ⊢;generalize l.length=n at*;generalize held.length=m at*;go_enter Tryz.func41,Tryz.ntmps41
   go_upto_region 1 with fail
   generalize hw1:((w.alloc _).alloc _).alloc _=w1
   have HA:Hid (w1.heap[w.heap.size]? =some (.cells #[cB,cY,cF,cN,cU,cL,cKy,cV,.slice A n cl,.slice (some ⟨h,0,none⟩) m ch,.int .u32 (kept:Int)] 35 (0,0))):=by
    rw [<-hw1];exact (aM w _ _ _).1
   have HN:Hid (w1.heap[w.heap.size+1]? =some (.cells #[lv,.slice kA kn kc,.slice pA pn pc,.slice bA bn bc,.slice rA rn rc] 43 (0,0))):=by
    rw [<-hw1];exact (aM w _ _ _).2.1
   have HZ:Hid (w1.heap[w.heap.size+1+1]? =some (.cells #[(0:Int),(0:Int),(0:Int),(0:Int),(0:Int),(0:Int),(0:Int),(0:Int),(),(),.int .u32 0] 35 (0,0))):=by
    rw [<-hw1];exact (aM w _ _ _).2.2.1
   have HB:Hid (Bw w w1):=by
    rw [<-hw1];exact (aM w _ _ _).2.2.2
   clear hw1;obtain ⟨g,hg⟩:∃g,g=w.heap.size:=⟨_,rfl⟩
   rw [<-hg] at HA HZ HN;simp only [<-hg];have HG:Hid (w.heap.size<=g):=(by unfold Hid;omega);clear hg;obtain ⟨a0,a1,a2,a3,a4,a5,a6,a7,a8,a9,a10⟩:=aW HA.out;go_upto_region 3 with (go_at_call 50;refine (cT _).out.mono ?_;rintro e w2 ⟨rfl,hb⟩)
   clear a0 a1 a2 a3 a4 a5 a6 a7 a8 a9 a10 cT;replace HZ:=hid (aC HZ.out hb);replace HA:=hid (aC HA.out hb);replace HN:=hid (aC HN.out hb);replace HB:=hid (HB.out.trans (hb.mono HB.out.size));clear hb;obtain ⟨a0,a1,a2,a3,a4,a5,a6,a7,a8,a9,a10⟩:=aW HA.out;obtain ⟨n0,n1,n2,n3,n4⟩:=aG HN.out;go_upto_region 4 with (go_at_call 77;refine (cR _ HB.out).out.mono ?_;rintro e w3 ⟨rfl,hb⟩)
   clear a0 a1 a2 a3 a4 a5 a6 a7 a8 a9 a10 n0 n1 n2 n3 n4 cR;replace HZ:=hid (aC HZ.out hb);replace HA:=hid (aC HA.out hb);replace HN:=hid (aC HN.out hb);replace HB:=hid (HB.out.trans (hb.mono HB.out.size));clear hb;obtain ⟨a0,a1,a2,a3,a4,a5,a6,a7,a8,a9,a10⟩:=aW HA.out;obtain ⟨z0,z1,z2,z3,z4,z5,z6,z7,z8,z9,z10⟩:=aW HZ.out;have f0:=au HZ.out 0;have f1:=au HZ.out 1;have f2:=au HZ.out 2;have f3:=au HZ.out 3;have f4:=au HZ.out 4;have f5:=au HZ.out 5;have f6:=au HZ.out 6;have f7:=au HZ.out 7;have f8:=au HZ.out 8;have f9:=au HZ.out 9;have f10:=au HZ.out 10;have HU:=hid (bT HZ.out cB cY cF cN cU cL cKy cV (.slice A n cl) (.slice (some ⟨h,0,none⟩) m ch) (.int .u32 (kept:Int)));have HBW:=hid (bB HB.out (show w.heap.size<=g+1+1 by have:=HG.out;omega) cB cY cF cN cU cL cKy cV (.slice A n cl) (.slice (some ⟨h,0,none⟩) m ch) (.int .u32 (kept:Int)));unfold eF at HU HBW;go_wp2_with fail
   obtain ⟨y0,y1,y2,y3,y4,y5,y6,y7,y8,y9,y10⟩:=aW HU.out;exact bodyPost_ret (v:= .tuple #[.agg #[cB,cY,cF,cN,cU,cL,cKy,cV,.slice A n cl,.slice (some ⟨h,0,none⟩) m ch,.int .u32 (kept:Int)],(3:Int)]) (by simp [results,Tryz.results41,go_sem,y0,y1,y2,y3,y4,y5,y6,y7,y8,y9,y10]) rfl ⟨⟨A,cl,rfl,HR.out.kept HBW.out,.inl rfl⟩,HBW.out⟩
  case true=>
   rw [if_pos rfl] at hE hS;rw [hE,hS];clear hE hS;obtain ⟨⟨cB,cY,cF,cN,cU,cL,cKy,cV⟩,l,held,kept⟩:=s;unfold bY at cT ⊢;unfold aZ at cR;simp only [vH,List.length_set] at cT cR HR HF hlt ⊢;obtain ⟨n,hn⟩:∃n,n=l.length:=⟨_,rfl⟩
   obtain ⟨m,hm⟩:∃m,m=held.length:=⟨_,rfl⟩
   simp only [<-hn,<-hm] at cT hlt ⊢;have HL:Hid (l.length=n/\i<n):=⟨hn.symm,hlt⟩;have HM:Hid (held.length=m):=hm.symm;clear hn hm hlt;go_enter Tryz.func41,Tryz.ntmps41
   go_upto_region 1 with fail
   generalize hw1:((w.alloc _).alloc _).alloc _=w1
   have HA:Hid (w1.heap[w.heap.size]? =some (.cells #[cB,cY,cF,cN,cU,cL,cKy,cV,.slice A n cl,.slice (some ⟨h,0,none⟩) m ch,.int .u32 (kept:Int)] 35 (0,0))):=by
    rw [<-hw1];exact (aM w _ _ _).1
   have HN:Hid (w1.heap[w.heap.size+1]? =some (.cells #[lv,.slice kA kn kc,.slice pA pn pc,.slice bA bn bc,.slice rA rn rc] 43 (0,0))):=by
    rw [<-hw1];exact (aM w _ _ _).2.1
   have HZ:Hid (w1.heap[w.heap.size+1+1]? =some (.cells #[(0:Int),(0:Int),(0:Int),(0:Int),(0:Int),(0:Int),(0:Int),(0:Int),(),(),.int .u32 0] 35 (0,0))):=by
    rw [<-hw1];exact (aM w _ _ _).2.2.1
   have HB:Hid (Bw w w1):=by
    rw [<-hw1];exact (aM w _ _ _).2.2.2
   clear hw1;obtain ⟨g,hg⟩:∃g,g=w.heap.size:=⟨_,rfl⟩
   rw [<-hg] at HA HZ HN;simp only [<-hg];have HG:Hid (w.heap.size<=g):=(by unfold Hid;omega);clear hg;obtain ⟨a0,a1,a2,a3,a4,a5,a6,a7,a8,a9,a10⟩:=aW HA.out;go_upto_region 3 with (go_at_call 50;refine (cT _).out.mono ?_;rintro e w2 ⟨rfl,hb⟩)
   clear a0 a1 a2 a3 a4 a5 a6 a7 a8 a9 a10 cT;replace HZ:=hid (aC HZ.out hb);replace HA:=hid (aC HA.out hb);replace HN:=hid (aC HN.out hb);replace HB:=hid (HB.out.trans (hb.mono HB.out.size));clear hb;obtain ⟨a0,a1,a2,a3,a4,a5,a6,a7,a8,a9,a10⟩:=aW HA.out;obtain ⟨n0,n1,n2,n3,n4⟩:=aG HN.out;go_upto_region 5 with (go_at_call 77;refine (cR _ HB.out).out.mono ?_;rintro e w3 ⟨rfl,hb⟩)
   clear a0 a1 a2 a3 a4 a5 a6 a7 a8 a9 a10 n0 n1 n2 n3 n4 cR;replace HZ:=hid (aC HZ.out hb);replace HA:=hid (aC HA.out hb);replace HN:=hid (aC HN.out hb);replace HB:=hid (HB.out.trans (hb.mono HB.out.size));clear hb;obtain ⟨a0,a1,a2,a3,a4,a5,a6,a7,a8,a9,a10⟩:=aW HA.out;have cW:=fun W3 hb=>hid (pR ⟨⟨cB,cY,cF,cN,cU,cL,cKy,cV⟩,l,held,kept⟩ A cl h ch i ⟨1,nd,at_⟩ (by have:=HL.out.1;have:=HL.out.2;simp only;omega) h32 W3 (HR.out.kept hb) HF.out);unfold bY vH at cW;simp only [HS.out,HL.out.1,HM.out,List.length_set] at cW;obtain ⟨n0,n1,n2,n3,n4⟩:=aG HN.out;go_wp2_with (go_at_call 78;refine (cW _ HB.out).out.mono ?_;rintro e w4 ⟨⟨A',c',rfl,hr',hA'⟩,hb⟩;have HR':=hid hr';have HA':=hid hA';have HZL:Hid (g+1+1<w3.heap.size):=(Array.getElem?_eq_some_iff.1 HZ.out).1;replace HZ:=hid (aC HZ.out hb);have HB4:=hid (HB.out.trans (hb.mono HB.out.size));have HS3:=hid HB.out.size;clear hr' hA' hb a0 a1 a2 a3 a4 a5 a6 a7 a8 a9 a10 n0 n1 n2 n3 n4 cW;obtain ⟨z0,z1,z2,z3,z4,z5,z6,z7,z8,z9,z10⟩:=aW HZ.out;have f0:=au HZ.out 0;have f1:=au HZ.out 1;have f2:=au HZ.out 2;have f3:=au HZ.out 3;have f4:=au HZ.out 4;have f5:=au HZ.out 5;have f6:=au HZ.out 6;have f7:=au HZ.out 7;have f8:=au HZ.out 8;have f9:=au HZ.out 9;have f10:=au HZ.out 10)
   have HU:=hid (bT HZ.out cB cY cF cN cU cL cKy cV (.slice A' n c') (.slice (some ⟨h,0,none⟩) m ch) (.int .u32 (kept:Int)));have HBW:=hid (bB HB4.out (show w.heap.size<=g+1+1 by have:=HG.out;omega) cB cY cF cN cU cL cKy cV (.slice A' n c') (.slice (some ⟨h,0,none⟩) m ch) (.int .u32 (kept:Int)));unfold eF at HU HBW;obtain ⟨y0,y1,y2,y3,y4,y5,y6,y7,y8,y9,y10⟩:=aW HU.out;refine bodyPost_ret (v:= .tuple #[.agg #[cB,cY,cF,cN,cU,cL,cKy,cV,.slice A' n c',.slice (some ⟨h,0,none⟩) m ch,.int .u32 (kept:Int)],(0:Int)]) (by simp [results,Tryz.results41,go_sem,y0,y1,y2,y3,y4,y5,y6,y7,y8,y9,y10]) rfl ⟨⟨A',c',rfl,?_,.inr fun a ha=>Nat.le_trans HS3.out (HA'.out a ha)⟩,HBW.out⟩;exact tF HR'.out (fun a ha=>by have h1:=HA'.out a ha;have h2:=HZL.out;exact fun e=>absurd h1 (by rw [e];omega)) cB cY cF cN cU cL cKy cV (.slice A' n c') (.slice (some ⟨h,0,none⟩) m ch) (.int .u32 (kept:Int))
end Sh
end Go.Proofs.YtjpjjnalpdpljaaGreatDoor
set_option maxHeartbeats 4000000
set_option maxRecDepth 100000
namespace Go.Proofs.YtjpjjnalpdpljaaGreatDoor
open Go.RowKit
open Go.Lib (hid)
namespace Sh
open Mem No Bt Bu Po
def mrE (s:Ds) (i:Nat):Int:=if there s i then mZ s.held i else 4
def mrS (s:Ds) (i:Nat):Ds:=if there s i then { s with held:=jQ s.held i } else s
theorem zF {w:World} {b:Nat} {u0 u1 u2 u3 u4 u5 u6 u7 u8 u9 u10:Value} {U:TypeId} (h:w.heap[b]? =some (.cells #[u0,u1,u2,u3,u4,u5,u6,u7,u8,u9,u10] U (0,0))) (v:Value):(w.setCell ⟨b,9,none⟩ v).heap[b]? =some (.cells #[u0,u1,u2,u3,u4,u5,u6,u7,u8,v,u10] U (0,0)):=by
 simp [World.setCell,Array.getElem?_modify,h]
theorem jk {w:World} {h c n b:Nat} {tb:List Bool} {C:Array Value} {T:TypeId} (H:bE w h c n tb) (hx:w.heap[b]? =some (.cells C T (0,0))) (hT:T≠4):h≠b:=fun e=>by
 rcases H.ow.2 with ⟨h',_⟩|⟨g',cap,cur,h',_,hg,_⟩
 . cases h'
 . obtain ⟨rfl,-⟩:h=g'/\c=cap:=by simpa using h'
   rw [e,hx] at hg;simp only [Option.some.injEq,Obj.cells.injEq] at hg;exact hT hg.2.1
theorem tH {w:World} {h c n b i:Nat} {tb:List Bool} (H:bE w h c n tb) (hn:h≠b) (v:Value):bE (w.setCell ⟨b,i,none⟩ v) h c n tb:=⟨H.ow.keep (aQ v hn),H.len⟩
theorem qM {w:World} {h c n b:Nat} {tb:List Bool} (H:bE w h c n tb) (hn:h≠b) (v0 v1 v2 v3 v4 v5 v6 v7 v8 v9 v10:Value):bE (eF w b v0 v1 v2 v3 v4 v5 v6 v7 v8 v9 v10) h c n tb:=⟨H.ow.keep (kJ v0 v1 v2 v3 v4 v5 v6 v7 v8 v9 v10 hn),H.len⟩
theorem xR (s:Ds) (A:Option Addr) (cl h ch i B:Nat) (h32:i<4294967296) (w:World) (hbl:bE w h ch s.held.length s.held) (hB:B<=h) (hBw:B<=w.heap.size) (EX:s.held.length<=65536):
 Calls Tryz.prog 44 #[.agg (bY s A cl h ch),.int .u32 (i:Int)] w fun e w'=>(∃h' ch',e=.returned (.tuple #[.agg (bY (mrS s i) A cl h' ch'),(mrE s i:Int)])/\bE w' h' ch' s.held.length (mrS s i).held/\B<=h')/\Bw w w':=by
 have cT:∀x:Bool,(x=true↔there s i)->∀w,Hid (CB 50 #[.agg (bY s A cl h ch),.int .u32 (i:Int)] w (.bool x)):=fun x hx w=>iY s A cl h ch i h32 w x hx
 have cM:∀w',Bw w w'->Hid (Calls Tryz.prog 81 #[.slice (some ⟨h,0,none⟩) s.held.length ch,.int .u32 (i:Int)] w' fun e w2=>Po.Told w' w2 B s.held.length (jQ s.held i) (mZ s.held i) e):=fun w' hb=>DK h ch _ i s.held w' (hbl.kept hb) EX h32 B hB (Nat.le_trans hBw hb.size)
 have HBl:=hid hbl;have HLo:=hid hB;clear hbl hB EX;unfold mrE mrS;have hu:=shU;by_cases ht:there s i
 case neg=>
  rw [if_neg ht,if_neg ht];replace cT:=cT false ⟨fun h=>(by cases h),fun h=>absurd h ht⟩;clear cM ht h32;have hC:=mV s A cl h ch;have h1:=nJ s A cl h ch;have hC9:=shS hC;have HS:=hid (HBl.out.len);generalize hX:bY s A cl h ch=C at*;go_enter Tryz.func44,Tryz.ntmps44
  go_upto_region 1 with fail
  obtain ⟨w1,g,hw1,HB2⟩:=ET w C;rw [hw1.1,hw1.2];clear hw1
  go_upto_region 2 with (first
   |(refine aL rfl (.tmp 2) 35 rfl hu g C hC9 rfl HB2.out.x ?_)
   |(go_at_call 50;refine (cT _).out.mono ?_;rintro e w2 ⟨rfl,hb⟩;replace HB2:=hid (HB2.out.kept hb);clear hb cT))
  go_wp2_with (first
   |(refine aL rfl (.tmp 2) 35 rfl hu g C hC9 rfl HB2.out.x ?_)
   |(refine aK rfl (.tmp 4) (.tmp 12) 35 rfl rfl (g+1) _ C (shS nT) (hC.trans nT.symm) h1 rfl rfl HB2.out.y ?_;intro w3 HZ3 hi3;have HW:=hid (HB2.out.fill hi3);clear hi3))
  have hl:=eO (P:=Tryz.prog) hu hC9 HZ3.out;exact bodyPost_ret (v:= .tuple #[.agg C,(4:Int)]) (by simp [results,Tryz.results44,asAddr,hl]) rfl ⟨⟨h,ch,by rw [hX],HBl.out.kept HW.out,HLo.out⟩,HW.out⟩
 rw [if_pos ht,if_pos ht];replace cT:=cT true ⟨fun _=>ht,fun _=>rfl⟩
 have HLen:Hid ((jQ s.held i).length=s.held.length):=by
  unfold Hid jQ;split
  . rw [List.length_set]
  . rfl
 clear ht h32;generalize jQ s.held i=tb at*;generalize mZ s.held i=te at*;have c9:(bY s A cl h ch)[9]? =some (.slice (some ⟨h,0,none⟩) s.held.length ch):=rfl;have QE:Hid (∀h' ch',(bY s A cl h ch).setIfInBounds 9 (.slice (some ⟨h',0,none⟩) s.held.length ch')=bY { s with held:=tb } A cl h' ch'):=fun h' ch'=>by simp [bY,HLen.out]
 have h1:=nJ { s with held:=tb } A cl;have hs1:=mV { s with held:=tb } A cl;have hC:=mV s A cl h ch;have hC9:=shS hC;generalize s.held.length=m at*;generalize bY s A cl h ch=C at*;generalize hD:bY { s with held:=tb } A cl=D at*;go_enter Tryz.func44,Tryz.ntmps44
 go_upto_region 1 with fail
 obtain ⟨w1,g,hw1,HB2⟩:=ET w C;rw [hw1.1,hw1.2];clear hw1
 go_upto_region 3 with (first
  |(refine aL rfl (.tmp 2) 35 rfl hu g C hC9 rfl HB2.out.x ?_)
  |(go_at_call 50;refine (cT _).out.mono ?_;rintro e w2 ⟨rfl,hb⟩;replace HB2:=hid (HB2.out.kept hb);clear hb cT))
 have d9:=HB2.out.x.cell c9;go_upto_region 4 with (go_at_call 81;refine (cM _ HB2.out.below).out.mono ?_;rintro e w3 ⟨h',ch',rfl,hbn,hlo,hb⟩;replace HB2:=hid (HB2.out.kept hb);have HBN:=hid hbn;have HLN:=hid hlo;clear hb cM hbn hlo d9)
 have d9:=HB2.out.x.cell c9;have f9:=HB2.out.x.free 9;go_upto_region 5 with fail
 replace HBN:=hid (tH (i:=9) HBN.out (jk HBN.out HB2.out.x (by decide)) (.slice (some ⟨h',0,none⟩) m ch'));replace HB2:=hid ((HB2.out.put 9 (.slice (some ⟨h',0,none⟩) m ch')).eq (QE.out h' ch'));generalize w3.setCell ⟨g,9,none⟩ (.slice (some ⟨h',0,none⟩) m ch')=w6 at*;clear d9 f9 QE c9 hC9 hC;have hC9:=shS (hs1 h' ch')
 go_wp2_with (first
  |(refine aL rfl (.tmp 2) 35 rfl hu g (D h' ch') hC9 rfl HB2.out.x ?_)
  |(refine aK rfl (.tmp 4) (.tmp 22) 35 rfl rfl (g+1) _ (D h' ch') (shS nT) ((hs1 h' ch').trans nT.symm) (h1 h' ch') rfl rfl HB2.out.y ?_;intro w7 HZ3 hi3;have HW:=hid (HB2.out.fill hi3);have Ij:=hid (HBN.out.into hi3 (by have:=jk HBN.out HB2.out.y (by decide);simpa using this));clear hi3))
 have hl:=eO (P:=Tryz.prog) hu hC9 HZ3.out;exact bodyPost_ret (v:= .tuple #[.agg (D h' ch'),te]) (by simp [results,Tryz.results44,asAddr,hl]) rfl ⟨⟨h',ch',by rw [<-hD],Ij.out,HLN.out⟩,HW.out⟩
end Sh
end Go.Proofs.YtjpjjnalpdpljaaGreatDoor
set_option maxHeartbeats 4000000
set_option maxRecDepth 100000
namespace Go.Proofs.YtjpjjnalpdpljaaGreatDoor
open Go.RowKit
open Go.Lib (hid)
namespace Sh
open Mem No Bt Bu Po
def frE (s:Ds) (i:Nat):Int:=if there s i then (if i=s.kept then 8 else gvE s.held i) else 4
def frS (s:Ds) (i:Nat):Ds:=if there s i then (if i=s.kept then s else if gvE s.held i=0 then vH { s with held:=gvT s.held i } i ⟨2,nd0,at0⟩ else s) else s
theorem xS (s:Ds) (A:Option Addr) (cl h ch i B:Nat) (h32:i<4294967296) (Nt:s.kept<4294967296) (w:World) (hrc:RC SlK w A cl s.l) (hlen:(s.l.length:Int)=s.c.blocks) (hll:s.l.length<=65536) (hbl:bE w h ch s.held.length s.held) (hB:B<=h) (hBw:B<=w.heap.size) (h1n:1<=s.held.length) (EX:s.held.length<=65536):
 Calls Tryz.prog 43 #[.agg (bY s A cl h ch),.int .u32 (i:Int)] w fun e w'=>(∃A' cl' h' ch',e=.returned (.tuple #[.agg (bY (frS s i) A' cl' h' ch'),(frE s i:Int)])/\bE w' h' ch' s.held.length (frS s i).held/\B<=h'/\RC SlK w' A' cl' (frS s i).l/\(A'=A\/∀a,A'=some a->w.heap.size<=a.block))/\Bw w w':=by
 have cT:∀x:Bool,(x=true↔there s i)->∀w,Hid (CB 50 #[.agg (bY s A cl h ch),.int .u32 (i:Int)] w (.bool x)):=fun x hx w=>iY s A cl h ch i h32 w x hx
 have cG:∀w',Bw w w'->Hid (Calls Tryz.prog 80 #[.slice (some ⟨h,0,none⟩) s.held.length ch,.int .u32 (i:Int)] w' fun e w2=>Po.Told w' w2 B s.held.length (gvT s.held i) (gvE s.held i) e):=fun w' hb=>DL h ch _ i s.held w' (hbl.kept hb) h1n EX h32 B hB (Nat.le_trans hBw hb.size)
 have hin:=fun ht:there s i=>EN hlen ht;have HBl:=hid hbl;have HLo:=hid hB;have HRc:=hid hrc;clear hbl hB EX hrc hlen h1n;unfold frE frS;by_cases ht:there s i
 case neg=>
  rw [if_neg ht,if_neg ht];replace cT:=cT false ⟨fun h=>(by cases h),fun h=>absurd h ht⟩;clear cG ht h32 hin hll Nt;obtain ⟨⟨cB,cY,cF,cN,cU,cL,cKy,cV⟩,l,held,kept⟩:=s;unfold bY at*;simp only at*;generalize l.length=n at*;generalize hm9:held.length=m at*;go_enter Tryz.func43,Tryz.ntmps43
  go_upto_region 1 with fail
  generalize hw1:(w.alloc _).alloc _=w1
  have HA:Hid (w1.heap[w.heap.size]? =some (.cells #[cB,cY,cF,cN,cU,cL,cKy,cV,.slice A n cl,.slice (some ⟨h,0,none⟩) m ch,.int .u32 (kept:Int)] 35 (0,0))):=by
   rw [<-hw1];exact (aR w _ _).1
  have HZ:Hid (w1.heap[w.heap.size+1]? =some (.cells #[(0:Int),(0:Int),(0:Int),(0:Int),(0:Int),(0:Int),(0:Int),(0:Int),(),(),.int .u32 0] 35 (0,0))):=by
   rw [<-hw1];exact (aR w _ _).2.1
  have HB:Hid (Bw w w1):=by
   rw [<-hw1];exact (aR w _ _).2.2
  clear hw1;obtain ⟨g,hg⟩:∃g,g=w.heap.size:=⟨_,rfl⟩
  rw [<-hg] at HA HZ;simp only [<-hg];have HG:Hid (w.heap.size<=g):=by unfold Hid;omega
  have HG2:Hid (g+1<w1.heap.size):=(Array.getElem?_eq_some_iff.1 HZ.out).1;clear hg;obtain ⟨a0,a1,a2,a3,a4,a5,a6,a7,a8,a9,a10⟩:=aW HA.out;go_upto_region 2 with (go_at_call 50;refine (cT _).out.mono ?_;rintro e w2 ⟨rfl,hb⟩)
  clear a0 a1 a2 a3 a4 a5 a6 a7 a8 a9 a10;replace HZ:=hid (aC HZ.out hb);replace HA:=hid (aC HA.out hb);replace HB:=hid (HB.out.trans (hb.mono HB.out.size));clear hb cT;obtain ⟨a0,a1,a2,a3,a4,a5,a6,a7,a8,a9,a10⟩:=aW HA.out;obtain ⟨z0,z1,z2,z3,z4,z5,z6,z7,z8,z9,z10⟩:=aW HZ.out;have f0:=au HZ.out 0;have f1:=au HZ.out 1;have f2:=au HZ.out 2;have f3:=au HZ.out 3;have f4:=au HZ.out 4;have f5:=au HZ.out 5;have f6:=au HZ.out 6;have f7:=au HZ.out 7;have f8:=au HZ.out 8;have f9:=au HZ.out 9;have f10:=au HZ.out 10;have HU:=hid (bT HZ.out cB cY cF cN cU cL cKy cV (.slice A n cl) (.slice (some ⟨h,0,none⟩) m ch) (.int .u32 (kept:Int)));have HBW:=hid (bB HB.out (show w.heap.size<=g+1 by have:=HG.out;omega) cB cY cF cN cU cL cKy cV (.slice A n cl) (.slice (some ⟨h,0,none⟩) m ch) (.int .u32 (kept:Int)));have HRK:=hid (HRc.out.kept HBW.out);unfold eF at HU HBW;go_wp2_with fail
  obtain ⟨y0,y1,y2,y3,y4,y5,y6,y7,y8,y9,y10⟩:=aW HU.out;exact bodyPost_ret (v:= .tuple #[.agg #[cB,cY,cF,cN,cU,cL,cKy,cV,.slice A n cl,.slice (some ⟨h,0,none⟩) m ch,.int .u32 (kept:Int)],(4:Int)]) (by simp [results,Tryz.results43,go_sem,y0,y1,y2,y3,y4,y5,y6,y7,y8,y9,y10]) rfl ⟨⟨A,cl,h,ch,rfl,HBl.out.kept HBW.out,HLo.out,HRc.out.kept HBW.out,.inl rfl⟩,HBW.out⟩
 have hlt:=hin ht;rw [if_pos ht,if_pos ht];replace cT:=cT true ⟨fun _=>ht,fun _=>rfl⟩;by_cases hk:i=s.kept
 case pos=>
  rw [if_pos hk,if_pos hk];replace hk:=hk.symm;clear cG ht h32 hin hll Nt hlt;obtain ⟨⟨cB,cY,cF,cN,cU,cL,cKy,cV⟩,l,held,kept⟩:=s;unfold bY at*;simp only at*;generalize l.length=n at*;generalize hm9:held.length=m at*;subst hk;go_enter Tryz.func43,Tryz.ntmps43
  go_upto_region 1 with fail
  generalize hw1:(w.alloc _).alloc _=w1
  have HA:Hid (w1.heap[w.heap.size]? =some (.cells #[cB,cY,cF,cN,cU,cL,cKy,cV,.slice A n cl,.slice (some ⟨h,0,none⟩) m ch,.int .u32 (kept:Int)] 35 (0,0))):=by
   rw [<-hw1];exact (aR w _ _).1
  have HZ:Hid (w1.heap[w.heap.size+1]? =some (.cells #[(0:Int),(0:Int),(0:Int),(0:Int),(0:Int),(0:Int),(0:Int),(0:Int),(),(),.int .u32 0] 35 (0,0))):=by
   rw [<-hw1];exact (aR w _ _).2.1
  have HB:Hid (Bw w w1):=by
   rw [<-hw1];exact (aR w _ _).2.2
  clear hw1;obtain ⟨g,hg⟩:∃g,g=w.heap.size:=⟨_,rfl⟩
  rw [<-hg] at HA HZ;simp only [<-hg];have HG:Hid (w.heap.size<=g):=by unfold Hid;omega
  have HG2:Hid (g+1<w1.heap.size):=(Array.getElem?_eq_some_iff.1 HZ.out).1;clear hg;obtain ⟨a0,a1,a2,a3,a4,a5,a6,a7,a8,a9,a10⟩:=aW HA.out;go_upto_region 3 with (go_at_call 50;refine (cT _).out.mono ?_;rintro e w2 ⟨rfl,hb⟩)
  clear a0 a1 a2 a3 a4 a5 a6 a7 a8 a9 a10;replace HZ:=hid (aC HZ.out hb);replace HA:=hid (aC HA.out hb);replace HB:=hid (HB.out.trans (hb.mono HB.out.size));clear hb cT;obtain ⟨a0,a1,a2,a3,a4,a5,a6,a7,a8,a9,a10⟩:=aW HA.out;go_upto_region 4 with fail
  obtain ⟨z0,z1,z2,z3,z4,z5,z6,z7,z8,z9,z10⟩:=aW HZ.out;have f0:=au HZ.out 0;have f1:=au HZ.out 1;have f2:=au HZ.out 2;have f3:=au HZ.out 3;have f4:=au HZ.out 4;have f5:=au HZ.out 5;have f6:=au HZ.out 6;have f7:=au HZ.out 7;have f8:=au HZ.out 8;have f9:=au HZ.out 9;have f10:=au HZ.out 10;have HU:=hid (bT HZ.out cB cY cF cN cU cL cKy cV (.slice A n cl) (.slice (some ⟨h,0,none⟩) m ch) (.int .u32 (kept:Int)));have HBW:=hid (bB HB.out (show w.heap.size<=g+1 by have:=HG.out;omega) cB cY cF cN cU cL cKy cV (.slice A n cl) (.slice (some ⟨h,0,none⟩) m ch) (.int .u32 (kept:Int)));have HRK:=hid (HRc.out.kept HBW.out);unfold eF at HU HBW;go_wp2_with fail
  obtain ⟨y0,y1,y2,y3,y4,y5,y6,y7,y8,y9,y10⟩:=aW HU.out;exact bodyPost_ret (v:= .tuple #[.agg #[cB,cY,cF,cN,cU,cL,cKy,cV,.slice A n cl,.slice (some ⟨h,0,none⟩) m ch,.int .u32 (kept:Int)],(8:Int)]) (by simp [results,Tryz.results43,go_sem,y0,y1,y2,y3,y4,y5,y6,y7,y8,y9,y10]) rfl ⟨⟨A,cl,h,ch,rfl,HBl.out.kept HBW.out,HLo.out,HRc.out.kept HBW.out,.inl rfl⟩,HBW.out⟩
 have hkn:¬((i:Int)=(s.kept:Int)):=by omega
 rw [if_neg hk,if_neg hk];have HLen:Hid ((gvT s.held i).length=s.held.length):=wI _ _;by_cases hz:gvE s.held i=0
 case neg=>
  rw [if_neg hz];clear ht h32 hin hk Nt hlt hll;generalize gvT s.held i=tb at*;generalize gvE s.held i=te at*;obtain ⟨⟨cB,cY,cF,cN,cU,cL,cKy,cV⟩,l,held,kept⟩:=s;unfold bY at cT ⊢;simp only at hkn HBl HRc HLen cT cG ⊢;generalize l.length=n at*;generalize hm9:held.length=m at*;go_enter Tryz.func43,Tryz.ntmps43
  go_upto_region 1 with fail
  generalize hw1:(w.alloc _).alloc _=w1
  have HA:Hid (w1.heap[w.heap.size]? =some (.cells #[cB,cY,cF,cN,cU,cL,cKy,cV,.slice A n cl,.slice (some ⟨h,0,none⟩) m ch,.int .u32 (kept:Int)] 35 (0,0))):=by
   rw [<-hw1];exact (aR w _ _).1
  have HZ:Hid (w1.heap[w.heap.size+1]? =some (.cells #[(0:Int),(0:Int),(0:Int),(0:Int),(0:Int),(0:Int),(0:Int),(0:Int),(),(),.int .u32 0] 35 (0,0))):=by
   rw [<-hw1];exact (aR w _ _).2.1
  have HB:Hid (Bw w w1):=by
   rw [<-hw1];exact (aR w _ _).2.2
  clear hw1;obtain ⟨g,hg⟩:∃g,g=w.heap.size:=⟨_,rfl⟩
  rw [<-hg] at HA HZ;simp only [<-hg];have HG:Hid (w.heap.size<=g):=by unfold Hid;omega
  have HG2:Hid (g+1<w1.heap.size):=(Array.getElem?_eq_some_iff.1 HZ.out).1;clear hg;obtain ⟨a0,a1,a2,a3,a4,a5,a6,a7,a8,a9,a10⟩:=aW HA.out;go_upto_region 3 with (go_at_call 50;refine (cT _).out.mono ?_;rintro e w2 ⟨rfl,hb⟩)
  clear a0 a1 a2 a3 a4 a5 a6 a7 a8 a9 a10;replace HZ:=hid (aC HZ.out hb);replace HA:=hid (aC HA.out hb);replace HB:=hid (HB.out.trans (hb.mono HB.out.size));clear hb cT;obtain ⟨a0,a1,a2,a3,a4,a5,a6,a7,a8,a9,a10⟩:=aW HA.out;go_upto_region 5 with fail
  go_upto_region 7 with (go_at_call 80;refine (cG _ HB.out).out.mono ?_;rintro e w3 ⟨h',ch',rfl,hbn,hlo,hb⟩)
  clear hbn hlo;clear a0 a1 a2 a3 a4 a5 a6 a7 a8 a9 a10;replace HZ:=hid (aC HZ.out hb);replace HA:=hid (aC HA.out hb);replace HB:=hid (HB.out.trans (hb.mono HB.out.size));clear hb cG;obtain ⟨a0,a1,a2,a3,a4,a5,a6,a7,a8,a9,a10⟩:=aW HA.out;obtain ⟨z0,z1,z2,z3,z4,z5,z6,z7,z8,z9,z10⟩:=aW HZ.out;have f0:=au HZ.out 0;have f1:=au HZ.out 1;have f2:=au HZ.out 2;have f3:=au HZ.out 3;have f4:=au HZ.out 4;have f5:=au HZ.out 5;have f6:=au HZ.out 6;have f7:=au HZ.out 7;have f8:=au HZ.out 8;have f9:=au HZ.out 9;have f10:=au HZ.out 10;have HU:=hid (bT HZ.out cB cY cF cN cU cL cKy cV (.slice A n cl) (.slice (some ⟨h,0,none⟩) m ch) (.int .u32 (kept:Int)));have HBW:=hid (bB HB.out (show w.heap.size<=g+1 by have:=HG.out;omega) cB cY cF cN cU cL cKy cV (.slice A n cl) (.slice (some ⟨h,0,none⟩) m ch) (.int .u32 (kept:Int)));have HRK:=hid (HRc.out.kept HBW.out);unfold eF at HU HBW;go_wp2_with fail
  obtain ⟨y0,y1,y2,y3,y4,y5,y6,y7,y8,y9,y10⟩:=aW HU.out;exact bodyPost_ret (v:= .tuple #[.agg #[cB,cY,cF,cN,cU,cL,cKy,cV,.slice A n cl,.slice (some ⟨h,0,none⟩) m ch,.int .u32 (kept:Int)],te]) (by simp [results,Tryz.results43,go_sem,y0,y1,y2,y3,y4,y5,y6,y7,y8,y9,y10]) rfl ⟨⟨A,cl,h,ch,rfl,HBl.out.kept HBW.out,HLo.out,HRc.out.kept HBW.out,.inl rfl⟩,HBW.out⟩
 rw [if_pos hz];rw [hz] at cG ⊢;clear hz ht hin hk;generalize hgt:gvT s.held i=tb at*;clear hgt;obtain ⟨⟨cB,cY,cF,cN,cU,cL,cKy,cV⟩,l,held,kept⟩:=s;unfold bY vH at*;simp only [List.length_set] at*;have HLL:Hid ((l.set i ⟨2,nd0,at0⟩).length=l.length):=List.length_set;obtain ⟨m,hm9⟩:∃m,m=held.length:=⟨_,rfl⟩
 obtain ⟨n,hn9⟩:∃n,n=l.length:=⟨_,rfl⟩
 have cW:∀(h' ch':Nat) w',Bw w w'->Hid (Calls Tryz.prog 78 #[.agg #[cB,cY,cF,cN,cU,cL,cKy,cV,.slice A n cl,.slice (some ⟨h',0,none⟩) m ch',.int .u32 (kept:Int)],.int .u32 (i:Int),.agg #[(2:Int),(0:Int),(),(),(),()]] w' fun e w2=>(∃A' c',e=.returned (.agg #[cB,cY,cF,cN,cU,cL,cKy,cV,.slice A' n c',.slice (some ⟨h',0,none⟩) m ch',.int .u32 (kept:Int)])/\RC SlK w2 A' c' (l.set i ⟨2,nd0,at0⟩)/\(∀a,A'=some a->w'.heap.size<=a.block))/\Bw w' w2):=fun h' ch' w' hb=>by
  have h9:=pR ⟨⟨cB,cY,cF,cN,cU,cL,cKy,cV⟩,l,tb,kept⟩ A cl h' ch' i ⟨2,nd0,at0⟩ hlt h32 w' (HRc.out.kept hb) hll;unfold bY vH at h9;simp only [List.length_set] at h9;rw [HLen.out,<-hm9,<-hn9] at h9;exact h9
 rw [<-hm9] at HBl HLen cG;rw [<-hn9] at cT HLL hlt hll;rw [<-hm9] at cT;simp only [HLen.out,<-hm9,<-hn9];clear h32 hlt hll hm9 hn9;go_enter Tryz.func43,Tryz.ntmps43
 go_upto_region 1 with fail
 generalize hw1:(w.alloc _).alloc _=w1
 have HA:Hid (w1.heap[w.heap.size]? =some (.cells #[cB,cY,cF,cN,cU,cL,cKy,cV,.slice A n cl,.slice (some ⟨h,0,none⟩) m ch,.int .u32 (kept:Int)] 35 (0,0))):=by
  rw [<-hw1];exact (aR w _ _).1
 have HZ:Hid (w1.heap[w.heap.size+1]? =some (.cells #[(0:Int),(0:Int),(0:Int),(0:Int),(0:Int),(0:Int),(0:Int),(0:Int),(),(),.int .u32 0] 35 (0,0))):=by
  rw [<-hw1];exact (aR w _ _).2.1
 have HB:Hid (Bw w w1):=by
  rw [<-hw1];exact (aR w _ _).2.2
 clear hw1;obtain ⟨g,hg⟩:∃g,g=w.heap.size:=⟨_,rfl⟩
 rw [<-hg] at HA HZ;simp only [<-hg];have HG:Hid (w.heap.size<=g):=by unfold Hid;omega
 have HG2:Hid (g+1<w1.heap.size):=(Array.getElem?_eq_some_iff.1 HZ.out).1;clear hg;obtain ⟨a0,a1,a2,a3,a4,a5,a6,a7,a8,a9,a10⟩:=aW HA.out;go_upto_region 3 with (go_at_call 50;refine (cT _).out.mono ?_;rintro e w2 ⟨rfl,hb⟩)
 clear a0 a1 a2 a3 a4 a5 a6 a7 a8 a9 a10;replace HZ:=hid (aC HZ.out hb);replace HA:=hid (aC HA.out hb);replace HB:=hid (HB.out.trans (hb.mono HB.out.size));clear hb cT;obtain ⟨a0,a1,a2,a3,a4,a5,a6,a7,a8,a9,a10⟩:=aW HA.out;go_upto_region 5 with fail
 go_upto_region 8 with (go_at_call 80;refine (cG _ HB.out).out.mono ?_;rintro e w3 ⟨h',ch',rfl,hbn,hlo,hb⟩)
 clear a0 a1 a2 a3 a4 a5 a6 a7 a8 a9 a10;replace HZ:=hid (aC HZ.out hb);replace HA:=hid (aC HA.out hb);replace HB:=hid (HB.out.trans (hb.mono HB.out.size));clear hb cG;have HBN:=hid hbn;have HLN:=hid hlo;clear hbn hlo;obtain ⟨a0,a1,a2,a3,a4,a5,a6,a7,a8,a9,a10⟩:=aW HA.out;have fr:=au HA.out 9;go_upto_region 9 with fail
 clear a0 a1 a2 a3 a4 a5 a6 a7 a8 a9 a10 fr;have HNA:Hid (h'≠g):=jk HBN.out HA.out (by decide);have HNZ:Hid (h'≠g+1):=jk HBN.out HZ.out (by decide);replace HA:=hid (zF HA.out (.slice (some ⟨h',0,none⟩) m ch'));replace HZ:=hid ((aQ (i:=9) (.slice (some ⟨h',0,none⟩) m ch') (show g+1≠g by omega)).trans HZ.out);replace HBN:=hid (tH (i:=9) HBN.out HNA.out (.slice (some ⟨h',0,none⟩) m ch'));replace HB:Hid (Bw w (w3.setCell ⟨g,9,none⟩ (.slice (some ⟨h',0,none⟩) m ch'))):=HB.out.setCell HG.out _;have HG3:Hid (g+1<(w3.setCell ⟨g,9,none⟩ (.slice (some ⟨h',0,none⟩) m ch')).heap.size):=(Array.getElem?_eq_some_iff.1 HZ.out).1;generalize w3.setCell ⟨g,9,none⟩ (.slice (some ⟨h',0,none⟩) m ch')=w6 at*;obtain ⟨a0,a1,a2,a3,a4,a5,a6,a7,a8,a9,a10⟩:=aW HA.out;go_wp2_with (go_at_call 78;refine (cW h' ch' _ HB.out).out.mono ?_;rintro e w7 ⟨⟨A',c',rfl,KT,hlo2⟩,hb⟩;have Nu:=hid hlo2;have Pz:=hid KT;have HSZ:=hid HB.out.size;replace HZ:=hid (aC HZ.out hb);replace HB:=hid (HB.out.trans (hb.mono HB.out.size));replace HBN:=hid (HBN.out.kept hb);clear hb KT hlo2 a0 a1 a2 a3 a4 a5 a6 a7 a8 a9 a10;obtain ⟨z0,z1,z2,z3,z4,z5,z6,z7,z8,z9,z10⟩:=aW HZ.out;have f0:=au HZ.out 0;have f1:=au HZ.out 1;have f2:=au HZ.out 2;have f3:=au HZ.out 3;have f4:=au HZ.out 4;have f5:=au HZ.out 5;have f6:=au HZ.out 6;have f7:=au HZ.out 7;have f8:=au HZ.out 8;have f9:=au HZ.out 9;have f10:=au HZ.out 10;have HU:=hid (bT HZ.out cB cY cF cN cU cL cKy cV (.slice A' n c') (.slice (some ⟨h',0,none⟩) m ch') (.int .u32 (kept:Int)));have HBW:=hid (bB HB.out (show w.heap.size<=g+1 by have:=HG.out;omega) cB cY cF cN cU cL cKy cV (.slice A' n c') (.slice (some ⟨h',0,none⟩) m ch') (.int .u32 (kept:Int)));have Ij:=hid (qM HBN.out HNZ.out cB cY cF cN cU cL cKy cV (.slice A' n c') (.slice (some ⟨h',0,none⟩) m ch') (.int .u32 (kept:Int)));have KU:=hid (tF (b:=g+1) Pz.out (fun a ha=>by have h1:=Nu.out a ha;have h2:=HG3.out;omega) cB cY cF cN cU cL cKy cV (.slice A' n c') (.slice (some ⟨h',0,none⟩) m ch') (.int .u32 (kept:Int)));unfold eF at HU HBW Ij KU)
 obtain ⟨y0,y1,y2,y3,y4,y5,y6,y7,y8,y9,y10⟩:=aW HU.out;exact bodyPost_ret (v:= .tuple #[.agg #[cB,cY,cF,cN,cU,cL,cKy,cV,.slice A' n c',.slice (some ⟨h',0,none⟩) m ch',.int .u32 (kept:Int)],(0:Int)]) (by simp [results,Tryz.results43,go_sem,y0,y1,y2,y3,y4,y5,y6,y7,y8,y9,y10]) rfl ⟨⟨A',c',h',ch',rfl,Ij.out,HLN.out,KU.out,.inr (fun a ha=>Nat.le_trans HSZ.out (Nu.out a ha))⟩,HBW.out⟩
end Sh
end Go.Proofs.YtjpjjnalpdpljaaGreatDoor
set_option maxRecDepth 100000
namespace Go.Proofs.YtjpjjnalpdpljaaGreatDoor
open Go.RowKit Go.WideShapes Go.ChangeShapes Go.Deep
namespace No
open Mem
theorem one_cell {u:Value} {L:List Value} {j:Nat} (h:L[j]? =some u):(L.drop j).take 1=[u]:=by
 rw [List.getElem?_eq_some_iff] at h;obtain ⟨h2,h3⟩:=h;rw [List.drop_eq_getElem_cons h2,h3];rfl
theorem PD {α:Type} {cs:List α} (h:cs.length=5):∃c0 c1 c2 c3 c4,cs=[c0,c1,c2,c3,c4]:=by
 match cs,h with
 |[c0,c1,c2,c3,c4],_=>exact ⟨c0,c1,c2,c3,c4,rfl⟩
theorem PE {α:Type} {cs:List α} (h:cs.length=7):∃c0 c1 c2 c3 c4 c5 c6,cs=[c0,c1,c2,c3,c4,c5,c6]:=by
 match cs,h with
 |[c0,c1,c2,c3,c4,c5,c6],_=>exact ⟨c0,c1,c2,c3,c4,c5,c6,rfl⟩
theorem xU {H:Type} {enc:TypeId × Value->H} {W:World} {cs:List Value} {y:DataW H × List MemPlace} {fuel:Nat} (hf:DataW.trod enc Tryz.prog W 0 (fun _=>true) true fuel 43 cs=some y) (hw:∀n∈y.1.weights Tryz.prog 43,n<=reachBytes):
 ∃(n:Nd) (a:At),cs=(bL n a).toList/\gK W n a/\Ol n:=by
 have hu:Tryz.prog.underlying 43=some (.struct (Tryz.prog.fieldsOf 43)):=by kernel_rfl
 have h5:Tryz.prog.cellsOf 43=5:=by kernel_rfl
 obtain ⟨ys,n',_,hD,hlen,hyl,hfl⟩:=DataW.trod_struct hu hf;rw [h5] at hlen
 have each:∀(j:Nat) (u:Value) (T:TypeId),cs[j]? =some u->((Tryz.prog.fieldsOf 43)[j]?.map fun f=>f.type)=some T->∃y:DataW H × List MemPlace,DataW.trod enc Tryz.prog W 0 (fun _=>true) true n' T [u]=some y/\∀k∈y.1.weights Tryz.prog T,k<=reachBytes:=fun j u T hj hT=>by
  rw [Option.map_eq_some_iff] at hT;obtain ⟨f,hfj,rfl⟩:=hT;obtain ⟨ho,hk⟩:=hone_of Ia j f hfj;have h1:=hfl j f hfj;rw [ho,hk,one_cell hj] at h1
  have hj':j<ys.length:=by
   rw [hyl];exact (Array.getElem?_eq_some_iff.1 hfj).1
  rw [List.getElem?_eq_getElem hj'] at h1;refine ⟨_,h1,fun k hk=>hw k ?_⟩;rw [hD];simp only [DataW.weights,hu];refine Args.Cy (j:=j) (t:=f.type) (d:=(ys[j]'hj').1) ?_ ?_ k hk
  . rw [List.getElem?_map,Array.getElem?_toList,hfj];rfl
  . rw [List.getElem?_map,List.getElem?_eq_getElem hj'];rfl
 obtain ⟨c0,c1,c2,c3,c4,rfl⟩:=PD hlen;obtain ⟨⟨y0,q0⟩,k0,-⟩:=each 0 c0 3 rfl (by decide+kernel);obtain ⟨⟨y1,q1⟩,k1,-⟩:=each 1 c1 38 rfl (by decide+kernel);obtain ⟨⟨y2,q2⟩,k2,-⟩:=each 2 c2 39 rfl (by decide+kernel);obtain ⟨⟨y3,q3⟩,k3,-⟩:=each 3 c3 40 rfl (by decide+kernel);obtain ⟨⟨y4,q4⟩,k4,w4⟩:=each 4 c4 41 rfl (by decide+kernel);obtain ⟨z,hz,-,hwf⟩:=DataW.trod_int Tryz.underlying3 k0;obtain rfl:c0=_:=by simpa using hz
 obtain ⟨kA,K,kc,rfl,hK,lK,mK,bK⟩:=xM k1;obtain ⟨pA,P,pc,rfl,hP,lP,mP⟩:=Fa.xL k2;obtain ⟨bA,B,bc,rfl,hB,lB,mB⟩:=Bu.xK k3;obtain ⟨qA,Q,qc,rfl,hQ,lQ,mQ,wQ⟩:=Lf.AQ k4;exact ⟨⟨z,K,P,B,Q⟩,⟨kA,kc,pA,pc,bA,bc,qA,qc⟩,rfl,⟨hK,hP,hB,hQ⟩,⟨Args.Af hwf,Nat.le_trans lK mK,Nat.le_trans lP mP,Nat.le_trans lB mB,Nat.le_trans lQ mQ,bK,fun m hm=>w4 _ (wQ m hm).2⟩⟩
end No
namespace Sh
open Mem No
structure Ac where
 kd:Int
 i:Nat
 n:Nd
 a:At
def A8 (x:Ac):List Value:= .int .i64 x.kd:: .int .u32 (x.i:Int)::(bL x.n x.a).toList
def AcK:Kind Ac:=⟨45,7,A8,fun _=>rfl,fun m u hu=>by
 simp only [A8,bL,List.mem_cons,List.not_mem_nil,or_false] at hu
 rcases hu with rfl|rfl|rfl|rfl|rfl|rfl|rfl<;>rfl⟩
structure AcL (W:World) (A:Option Addr) (l:List Ac):Prop where
 rd:RdK AcK W A l
 nd:∀x,x∈l->gK W x.n x.a
 ok:∀x,x∈l->Ol x.n
 lt:∀x,x∈l->x.i<4294967296
theorem AcL.kept {W W':World} {A:Option Addr} {l:List Ac} (h:AcL W A l) (hb:Bw W W'):AcL W' A l:=⟨h.rd.kept hb,fun x hx=>(h.nd x hx).kept hb,h.ok,h.lt⟩
theorem vK {H:Type} {enc:TypeId × Value->H} {W:World} {v:Value} {d:DataW H} {p:List MemPlace} {r:Reach} {b0:Nat} (hv:Value.okWide Tryz.prog W r b0 24 v) (h:DataW.Trod enc Tryz.prog W 0 (fun _=>true) true 24 v d p)
 (hz:∀n∈d.weights Tryz.prog 24,n<=reachBytes):
 ∃(A:Option Addr) (l:List Ac) (c:Nat),v= .slice A l.length c/\AcL W A l/\l.length<=c/\c<=maxLen:=by
 have hu:Tryz.prog.underlying 45=some (.struct (Tryz.prog.fieldsOf 45)):=by kernel_rfl
 obtain ⟨A,len,c,rfl,hl,hm,hc⟩:=Args.qd Tryz.underlying24 hu (show Tryz.prog.cellsOf 45=7 by kernel_rfl) (by decide) hv h;by_cases h0:0<len
 case neg=>
  obtain rfl:len=0:=by omega
  exact ⟨A,[],c,rfl,⟨RdK.nil _ _,(by simp),(by simp),(by simp)⟩,Nat.zero_le _,hm⟩
 obtain ⟨b,o,rfl,hb,hcell⟩:=hc h0
 have each:∀i,∃x:Ac,i<len->((∀(j:Nat) (u:Value),(A8 x)[j]? =some u->W.cell? ⟨b,o+(i*7+j),none⟩=some u)/\gK W x.n x.a/\Ol x.n/\x.i<4294967296):=fun i=>by
  by_cases hi:i<len
  case neg=>exact ⟨⟨0,0,⟨0,[],[],[],[]⟩,⟨none,0,none,0,none,0,none,0⟩⟩,fun h=>absurd h hi⟩
  obtain ⟨cs,hlen,hcs,hfl⟩:=hcell i hi
  have top:∀(j:Nat) (T:TypeId) (f k:Nat),((Tryz.prog.fieldsOf 45)[j]?.map fun f=>(f.type,f.offset,Tryz.prog.cellsOf f.type))=some (T,f,k)->∃y n,DataW.trod enc Tryz.prog W 0 (fun _=>true) true n T ((cs.drop f).take k)=some y/\∀k∈y.1.weights Tryz.prog T,k<=reachBytes:=fun j T o k hT=>by
   rw [Option.map_eq_some_iff] at hT;obtain ⟨f,hfj,he⟩:=hT;simp only [Prod.mk.injEq] at he;obtain ⟨rfl,rfl,rfl⟩:=he;obtain ⟨y,n,h1,h2⟩:=hfl j f hfj;exact ⟨y,n,h1,fun k hk=>hz k (h2 k hk)⟩
  obtain ⟨y0,n0,g0,-⟩:=top 0 3 0 1 (by decide+kernel);obtain ⟨y1,n1,g1,-⟩:=top 1 25 1 1 (by decide+kernel);obtain ⟨y2,n2,g2,w2⟩:=top 2 43 2 5 (by decide+kernel);clear top hfl;obtain ⟨c0,c1,c2,c3,c4,c5,c6,rfl⟩:=PE hlen;simp only [List.drop_zero,List.drop_succ_cons,List.take_succ_cons,List.take_zero] at g0 g1 g2;obtain ⟨z0,e0,_,_⟩:=DataW.trod_int Tryz.underlying3 g0;obtain ⟨z1,e1,_,m1⟩:=DataW.trod_int Tryz.underlying25 g1;obtain rfl:c0=_:=by simpa using e0
  obtain rfl:c1=_:=by simpa using e1
  obtain ⟨j1,rfl,b1⟩:=Args.mq m1;obtain ⟨nd,at_,en,hin,hok⟩:=xU g2 w2;refine ⟨⟨z0,j1,nd,at_⟩,fun _=>⟨fun j u hu=>hcs j u ?_,hin,hok,b1⟩⟩;rw [<-hu,en];rfl
 let F:=fun i=>Classical.choose (each i)
 have hF:=fun i=>Classical.choose_spec (each i);refine ⟨some ⟨b,o,none⟩,(List.range len).map F,c,by simp,⟨fun _=>⟨b,o,rfl,hb,fun i x hx j u hu=>?_⟩,fun x hx=>?_,fun x hx=>?_,fun x hx=>?_⟩,by simpa using hl,hm⟩
 . rw [List.getElem?_map,Option.map_eq_some_iff] at hx
   obtain ⟨i',hi',rfl⟩:=hx;obtain ⟨h1,h2⟩:=List.getElem?_eq_some_iff.1 hi';rw [List.getElem_range] at h2;rw [List.length_range] at h1;subst h2;exact (hF _ h1).1 j u hu
 all_goals
  obtain ⟨i,hi,rfl⟩:=List.mem_map.1 hx;have hi:i<len:=by simpa using hi
  have:=hF i hi
 . exact this.2.1
 . exact this.2.2.1
 . exact this.2.2.2
end Sh
end Go.Proofs.YtjpjjnalpdpljaaGreatDoor
