import Derived.Test.YtjpjjnalpdpljaaGreatDoorPkBL
import Derived.Test.YtjpjjnalpdpljaaGreatDoorPkAY
import Derived.Test.YtjpjjnalpdpljaaGreatDoorPkAE
import Derived.Test.YtjpjjnalpdpljaaGreatDoorPkAX
import Derived.Test.YtjpjjnalpdpljaaGreatDoorPkAV
import Derived.Test.YtjpjjnalpdpljaaGreatDoorPkAM
import Derived.Test.YtjpjjnalpdpljaaGreatDoorPkAG
import Derived.Test.YtjpjjnalpdpljaaGreatDoorPkAW
import Derived.Test.YtjpjjnalpdpljaaGreatDoorPkBB
set_option maxHeartbeats 2000000
set_option maxRecDepth 100000
namespace Go.Proofs.YtjpjjnalpdpljaaGreatDoor
open Go.RowKit
open Go.Lib (hid)
namespace Sh
open Mem No Bt Po
open Ca (upF Few)
theorem Fz {w:World} {g:Nat} {kd:Int} {i:Nat} {n:Nd} {a:At} (hx:bf 45 w g (A8 ⟨kd,i,n,a⟩).toArray):w.cell? ⟨g,0,none⟩=some (.int .i64 kd)/\w.cell? ⟨g,1,none⟩=some (.int .u32 (i:Int))/\w.cell? ⟨g,2,none⟩=some (.int .i64 n.lv)/\w.cell? ⟨g,3,none⟩=some (.slice a.kA n.kids.length a.kc)/\w.cell? ⟨g,4,none⟩=some (.slice a.pA n.piv.length a.pc)/\w.cell? ⟨g,5,none⟩=some (.slice a.bA n.buf.length a.bc)/\w.cell? ⟨g,6,none⟩=some (.slice a.qA n.prs.length a.qc):=⟨hx.cell rfl,hx.cell rfl,hx.cell rfl,hx.cell rfl,hx.cell rfl,hx.cell rfl,hx.cell rfl⟩
def PI (W w w':World) (F:List Nat) (z:Ad) (s:Ds) (x:Ac) (t:Bool) (f:Nat->List UInt8) (K r u:Nat) (e:Ending):Prop:=∃(k:Nat) (E:Int) (tb':List Bool) (kp':Nat) (f':Nat->List UInt8),e=.returned (.tuple #[.int .u32 (k:Int),E])/\Both s x t f k E tb' kp' f'/\Out W w w' F z s.c tb' kp' (kpF kp') f' (K+64) r u (tL x s.kept) (tN s.c x s.kept)
section
variable {W w w1:World} {F:List Nat} {z:Ad} {s:Ds} {t:Bool} {f:Nat->List UInt8} {K r u:Nat}
theorem gy {c:Cfg} {tb:List Bool} {kp:Nat} {P:Nat->Nat} {K' R S R' S':Nat} {w2:World} (hb:Bw w w1) (h:Out W w1 w2 F z c tb kp P f K' r u R S) (hK:K'<=K) (hR:R<=R') (hS:S<=S'):Out W w w2 F z c tb kp P f K r u R' S':=by
 obtain ⟨F',r',s',h1,h2,h3,h4⟩:=h;exact ⟨F',r',s',h1.mono hK,(Mv.below z F hb).trans h2,by omega,by omega⟩
theorem NK (h:Sv W w F z s.c s.held s.kept (kpF s.kept) f K r u) (hc:Okc s.c) (hT:Tab W) (hK:K<=900000) (x:Ac) (hi:x.i<4294967296) (hn:NdA w x.n x.a) (hr:t=true↔bQ s.c x.n):Calls Tryz.prog 13 #[z.p,.agg (A8 x).toArray] w fun e w'=>PI W w w' F z s x t f K r u e:=by
 obtain ⟨kd,i,n,a⟩:=x;have hb1:Bw w (w.alloc (.cells (A8 ⟨kd,i,n,a⟩).toArray 45)):=bAx;have hx:=bf.new 45 w (A8 ⟨kd,i,n,a⟩).toArray;have h1:=h.kept hT hb1;have hn1:=hn.kept hb1;clear h hn;simp only at hi hr hn1;go_enter Tryz.func13,Tryz.ntmps13
 go_upto_region 1 with fail
 generalize w.alloc (.cells (A8 ⟨kd,i,n,a⟩).toArray 45)=w1 at*;obtain ⟨g,hg⟩:∃g,g=w.heap.size:=⟨_,rfl⟩
 rw [<-hg] at hx;simp only [<-hg];have HB:=hid hb1;obtain ⟨d0,d1,d2,d3,d4,d5,d6⟩:=Fz hx;clear hx hb1 hg;by_cases k0:kd=0
 . subst k0
   have cX:=hid (Jm h1 hc hT hK i hn1 t hr);have HBo:=hid (Fx (s:=s) (x:=⟨0,i,n,a⟩) (t:=t) (f:=f) (.inl rfl));clear h1 hn1 hr;generalize (if thr s.c i then (if t=true then (0:Int) else 3) else 4)=E at*;go_wp2_with (go_at_call 35;refine cX.out.mono ?_;rintro e w2 ⟨rfl,ho⟩;have HO:=hid ho;clear ho cX d0 d1 d2 d3 d4 d5 d6)
   exact bodyPost_ret (v:= .tuple #[.int .u32 ((0:Nat):Int),E]) (by simp [results,Tryz.results13,go_sem]) rfl ⟨0,E,_,_,_,rfl,HBo.out,gy HB.out HO.out (by omega) (by simp [tL]) (by simp [tN])⟩
 by_cases k1:kd=1
 . subst k1
   have cX:=hid (Jm h1 hc hT hK i hn1 t hr);have HBo:=hid (Fx (s:=s) (x:=⟨1,i,n,a⟩) (t:=t) (f:=f) (.inr rfl));clear h1 hn1 hr;generalize (if thr s.c i then (if t=true then (0:Int) else 3) else 4)=E at*;go_wp2_with (go_at_call 35;refine cX.out.mono ?_;rintro e w2 ⟨rfl,ho⟩;have HO:=hid ho;clear ho cX d0 d1 d2 d3 d4 d5 d6)
   exact bodyPost_ret (v:= .tuple #[.int .u32 ((0:Nat):Int),E]) (by simp [results,Tryz.results13,go_sem]) rfl ⟨0,E,_,_,_,rfl,HBo.out,gy HB.out HO.out (by omega) (by simp [tL]) (by simp [tN])⟩
 by_cases k2:kd=2
 . subst k2
   have cX:=hid (Jo h1 hc hT hK hn1 t hr);clear h1 hn1 hr;go_wp2_with (go_at_call 34;refine cX.out.mono ?_;rintro e w2 ⟨k,E,tb',f',rfl,hm,ho⟩;have HM:=hid hm;have HO:=hid ho;clear ho hm cX d0 d1 d2 d3 d4 d5 d6)
   exact bodyPost_ret (v:= .tuple #[.int .u32 (k:Int),E]) (by simp [results,Tryz.results13,go_sem]) rfl ⟨k,E,tb',s.kept,f',rfl,K7 (x:=⟨2,i,n,a⟩) rfl HM.out,gy HB.out HO.out (by omega) (by simp [tL]) (by simp [tN])⟩
 by_cases k3:kd=3
 . subst k3
   have cX:=hid (ND h1 hc hT i hi);clear h1 hn1 hr;go_wp2_with (go_at_call 36;refine cX.out.mono ?_;rintro e w2 ⟨rfl,tb',f',hm,ho⟩;have HM:=hid hm;have HO:=hid ho;clear ho hm cX d0 d1 d2 d3 d4 d5 d6)
   exact bodyPost_ret (v:= .tuple #[.int .u32 ((0:Nat):Int),(K3 s.c s.held s.kept i:Int)]) (by simp [results,Tryz.results13,go_sem]) rfl ⟨0,_,tb',s.kept,f',rfl,K8 (x:=⟨3,i,n,a⟩) rfl HM.out,gy HB.out HO.out (by omega) (by simp [tL]) (by simp [tN])⟩
 by_cases k4:kd=4
 . subst k4
   have cX:=hid (Na h1 hc hT i hi);have HBo:=hid (K9 (s:=s) (x:=⟨4,i,n,a⟩) (t:=t) (f:=f) rfl);clear h1 hn1 hr;generalize (if thr s.c i then mZ s.held (i:Int) else 4)=E at*;go_wp2_with (go_at_call 37;refine cX.out.mono ?_;rintro e w2 ⟨rfl,ho⟩;have HO:=hid ho;clear ho cX d0 d1 d2 d3 d4 d5 d6)
   exact bodyPost_ret (v:= .tuple #[.int .u32 ((0:Nat):Int),E]) (by simp [results,Tryz.results13,go_sem]) rfl ⟨0,E,_,_,_,rfl,HBo.out,gy HB.out HO.out (by omega) (by simp [tL]) (by simp [tN])⟩
 by_cases k5:kd=5
 . subst k5
   have cX:=hid (NH h1 hc hT hK i hi);have HBo:=hid (La (s:=s) (x:=⟨5,i,n,a⟩) (t:=t) (f:=f) rfl);clear h1 hn1 hr;generalize Oq s.c i=E at*;go_wp2_with (go_at_call 38;refine cX.out.mono ?_;rintro e w2 ⟨rfl,ho⟩;have HO:=hid ho;clear ho cX d0 d1 d2 d3 d4 d5 d6)
   exact bodyPost_ret (v:= .tuple #[.int .u32 ((0:Nat):Int),E]) (by simp [results,Tryz.results13,go_sem]) rfl ⟨0,E,_,_,_,rfl,HBo.out,gy HB.out HO.out (by omega) (by simp [tL]) (by simp [tN])⟩
 by_cases k6:kd=6
 . subst k6
   have cX:=hid (En h1 hT hK);clear h1 hn1 hr;go_wp2_with (go_at_call 26;refine cX.out.mono ?_;rintro e w2 ⟨rfl,ho,-⟩;have HO:=hid ho;clear ho cX d0 d1 d2 d3 d4 d5 d6)
   exact bodyPost_ret (v:= .tuple #[.int .u32 ((0:Nat):Int),(0:Int)]) (by simp [results,Tryz.results13,go_sem]) rfl ⟨0,0,s.held,s.kept,f,rfl,Fy (x:=⟨6,i,n,a⟩) (.inr (by show (5:Int)<6;decide)),gy HB.out HO.out (by omega) (by simp [tL]) (by simp [tN])⟩
 have HS:=hid h1;have hk:kd<0\/5<kd:=by omega
 clear h1 hn1 hr;go_wp2_with fail
 exact bodyPost_ret (v:= .tuple #[.int .u32 ((0:Nat):Int),(0:Int)]) (by simp [results,Tryz.results13,go_sem]) rfl ⟨0,0,s.held,s.kept,f,rfl,Fy (x:=⟨kd,i,n,a⟩) hk,gy HB.out (Out.same HS.out hT (Below.refl _ _) 0 0) (by omega) (Nat.zero_le _) (Nat.zero_le _)⟩
end
end Sh
end Go.Proofs.YtjpjjnalpdpljaaGreatDoor
namespace Go.Proofs.YtjpjjnalpdpljaaGreatDoor
open Go.RowKit
namespace Sh
open Mem No Bt Po
open Ca (upF Few)
structure Dl (B:Nat) (w:World) (F:List Nat) (z:Ad) (s:Ds) (A:Option Addr) (cl h ch g:Nat):Prop where
 dw:DsW w B s A cl h ch
 bx:bf 35 w g (bY s A cl h ch)
 ag:g∉z.p::z.q::z.r::z.b::F
 aA:∀a,A=some a->a.block∉z.p::z.q::z.r::z.b::F
 an:∀a,A=some a->a.block≠g
 pos:5<=s.l.length
 bg:B<=g
section
variable {W w w' w2:World} {F F' F0:List Nat} {z:Ad} {c:Cfg} {tb tb':List Bool} {kp:Nat} {P:Nat->Nat} {f f':Nat->List UInt8} {K r u:Nat} {B:Nat} {s s':Ds} {A A':Option Addr} {cl h ch g cl' h' ch':Nat}
theorem Dl.kept (H:Dl B w F z s A cl h ch g) (hb:Bw w w'):Dl B w' F z s A cl h ch g:=⟨H.dw.kept hb,H.bx.kept hb,H.ag,H.aA,H.an,H.pos,H.bg⟩
theorem Dl.less (H:Dl B w F z s A cl h ch g) (hF:∀x,x∈F0->x∈F):Dl B w F0 z s A cl h ch g:=by
 have key:∀x,x∈z.p::z.q::z.r::z.b::F0->x∈z.p::z.q::z.r::z.b::F:=fun x hx=>by
  simp only [List.mem_cons] at hx ⊢;rcases hx with hx|hx|hx|hx|hx
  . exact .inl hx
  . exact .inr (.inl hx)
  . exact .inr (.inr (.inl hx))
  . exact .inr (.inr (.inr (.inl hx)))
  . exact .inr (.inr (.inr (.inr (hF x hx))))
 exact ⟨H.dw,H.bx,fun hx=>H.ag (key _ hx),fun a ha hx=>H.aA a ha (key _ hx),H.an,H.pos,H.bg⟩
theorem NM {x:Nat} (hm:Mv z w w' F F') (hx:x∉z.p::z.q::z.r::z.b::F) (hl:x<w.heap.size):x∉z.p::z.q::z.r::z.b::F':=by
 simp only [List.mem_cons,not_or] at hx ⊢;obtain ⟨n1,n2,n3,n4,n5⟩:=hx;refine ⟨n1,n2,n3,n4,fun hh=>?_⟩;rcases hm.gr _ hh with h4|h4
 . exact n5 h4
 . omega
theorem Jp {x:Nat} (hx:x∉z.p::z.q::z.r::z.b::F):x∉z.p::z.b::F:=by
 simp only [List.mem_cons,not_or] at hx ⊢;exact ⟨hx.1,hx.2.2.2.1,hx.2.2.2.2⟩
theorem Dl.move (H:Dl B w F z s A cl h ch g) (hm:Mv z w w' F F') (hh:h∉z.p::z.q::z.r::z.b::F):Dl B w' F' z s A cl h ch g:=by
 obtain ⟨h1,h2⟩:=hm.box H.bx H.ag;refine ⟨⟨mO H.dw.rd hm.io (fun y _ hy=>Jp (H.aA y hy)),H.dw.bl.into hm.io (Jp hh),H.dw.len,H.dw.hlen,H.dw.lo,H.dw.hlo,H.dw.few⟩,h1,h2,fun a ha=>?_,H.an,H.pos,H.bg⟩;obtain ⟨b,o,e,hl,-⟩:=H.dw.rd.1 (by have:=H.pos;omega);rw [ha] at e;cases e
 exact NM hm (H.aA _ ha) hl
theorem Lc {m:Nat} (H:bE w h ch m tb):∃C zz,w.heap[h]? =some (.cells C 4 zz):=by
 rcases H.ow.2 with ⟨h',_⟩|⟨g',cap,cur,h',_,hg,_⟩
 . cases h'
 . obtain ⟨rfl,-⟩:h=g'/\ch=cap:=by simpa using h'
   exact ⟨_,_,hg⟩
theorem Sv.shrink (hs:Sv W w F z c tb kp P f K r u) {m:Nat} (H:bE w h ch m tb'):∃F0,Sv W w F0 z c tb kp P f K r u/\(∀x,x∈F0->x∈F)/\h∉z.p::z.q::z.r::z.b::F0:=by
 obtain ⟨⟨st,h1,h2⟩,h3,h4,h5⟩:=hs;obtain ⟨F0,k1,k2,k3⟩:=h1.cl.shrink;obtain ⟨C,zz,hb⟩:=Lc H;refine ⟨F0,⟨⟨st,⟨h1.bx,k1,h1.pw,h1.lo,h1.pb,fun x hx=>h1.ap x (k2 x hx)⟩,h2⟩,h3,h4,h5⟩,k2,?_⟩
 have ne:∀{x:Nat} {D:Array Value} {U:TypeId} {y:Nat × Nat},w.heap[x]? =some (.cells D U y)->U≠4->h≠x:=fun hx hU e=>by
  rw [e,hx] at hb;simp only [Option.some.injEq,Obj.cells.injEq] at hb;exact hU hb.2.1
 simp only [List.mem_cons,not_or];refine ⟨ne h1.bx (by decide),ne h1.pw.hd (by decide),?_,?_,fun hx=>(k3 _ hx).ne hb (by decide) rfl⟩
 . obtain ⟨_,_,hw⟩:=h1.pw.rw.row
   exact ne hw.hd (by decide)
 . obtain ⟨_,_,hw⟩:=h1.pw.rw.row
   rcases hw.ow.2 with ⟨h',_⟩|⟨g2,c2,cur,e2,_,hh2,_⟩
   . cases h'
   . obtain ⟨e3,-⟩:z.b=g2/\_=c2:=by simpa using e2
     rw [e3];exact ne hh2 (by decide)
theorem zI {L:List Sl} (h:RC SlK w A cl L) (hL:5<=L.length) {q:Nat} {C:Array Value} {T:TypeId} {y:Nat × Nat} (hx:w.heap[q]? =some (.cells C T y)) (hC:C.size<=12):∀a,A=some a->a.block≠q:=by
 obtain ⟨b,o,rfl,hb,hc⟩:=h.1 (by omega);rintro a ha rfl;cases ha
 have h1:=hc 4 _ (List.getElem?_eq_getElem (by omega)) 5 _ rfl;simp only [World.cell?,hx,Option.isSome_none,Bool.false_eq_true,if_false] at h1;have hk:SlK.k=6:=rfl;rw [Array.getElem?_eq_none (by omega)] at h1;cases h1
theorem DsW.into (hD:DsW w B s A cl h ch) (h5:5<=s.l.length) {q:Nat} {C:Array Value} (hx:bf 35 w q C) (hC:C.size=11) (hi:Flow.Into [q] w w'):DsW w' B s A cl h ch:=
 ⟨mO hD.rd hi (fun y _ hy=>by simpa using zI hD.rd h5 hx (by omega) y hy),hD.bl.into hi (by simpa using jk hD.bl hx (by decide)),hD.len,hD.hlen,hD.lo,hD.hlo,hD.few⟩
theorem kK.like {x:Ac} {t:Bool} {k:Nat} {E:Int} (h:kK s x t s' k E):Like s s':=by
 rcases h with ⟨_,rfl,-⟩|⟨_,_,rfl,-⟩|⟨_,_,_,rfl,-⟩|⟨_,_,⟨t,hg,rfl⟩,-⟩|⟨_,rfl,-⟩|⟨_,rfl,-⟩|⟨_,rfl,-⟩|⟨_,rfl,-⟩
 . exact mX.1
 . exact Like.refl _
 . exact Like.refl _
 . exact (Fq hg.len.1).1
 . exact tK.1
 . exact pV.1
 . exact tJ.1
 . exact Like.refl _
theorem Iz {t:List Bool} {j:Nat} (hg:Got tb 1 t [j]):free tb≠0:=by
 obtain ⟨p,h1,-,h2,-⟩:=hg;obtain ⟨d,hd⟩:∃d,tb.length=p+d:=⟨tb.length-p,by omega⟩
 have h3:=rz tb p d;rw [<-hd,oz,<-h2] at h3;simp at h3;omega
theorem Dl.want (H:Dl B w F z s A cl h ch g) (hlt:∀x,x∈z.p::z.q::z.r::z.b::F->x<w.heap.size) (hL:Like s s') (hd:DsW w' B s' A' cl' h' ch') (hx:bf 35 w' g (bY s' A' cl' h' ch')) (hA:A'=A\/∀a,A'=some a->w.heap.size<=a.block):Dl B w' F z s' A' cl' h' ch' g:=by
 have h5:5<=s'.l.length:=by rw [hL.l];exact H.pos
 refine ⟨hd,hx,H.ag,fun a ha hh=>?_,zI hd.rd h5 hx (by rw [mV];decide),h5,H.bg⟩;rcases hA with rfl|hA
 . exact H.aA a ha hh
 . have:=hA a ha
   have:=hlt _ hh;omega
def WnE (w0:World) (B:Nat) (s:Ds) (A:Option Addr) (x:Ac) (t:Bool) (v:Value) (w:World):Prop:=∃s' k E A' cl' h' ch',v= .tuple #[.agg (bY s' A' cl' h' ch'),.int .u32 ((k:Nat):Int),(E:Int)]/\kK s x t s' k E/\DsW w B s' A' cl' h' ch'/\(A'=A\/∀a,A'=some a->w0.heap.size<=a.block)
theorem Both.want {x:Ac} {t:Bool} {k k2:Nat} {E E2:Int} (h:Both s x t f k2 E2 tb' kp f') (hw:kK s x t s' k E):k2=k/\E2=E/\s'.held=tb'/\s'.kept=kp/\K6 s x t k E f f':=by
 obtain ⟨s2,h1,h2,h3,h4⟩:=h;obtain ⟨rfl,rfl,rfl⟩:=h1.one hw fun t j hg=>Iz hg;exact ⟨rfl,rfl,h3,h4,h2⟩
end
end Sh
end Go.Proofs.YtjpjjnalpdpljaaGreatDoor
namespace Go.Proofs.YtjpjjnalpdpljaaGreatDoor
open Go.RowKit
namespace Sh
open Mem No Bt Po
open Ca (upF Few)
theorem Both.kept {s:Ds} {x:Ac} {t:Bool} {f f':Nat->List UInt8} {k:Nat} {E:Int} {tb':List Bool} {kp':Nat} (h:Both s x t f k E tb' kp' f'):(x.kd=5/\((E=0/\kp'=x.i)\/(E=4/\kp'=s.kept)))\/(x.kd≠5/\kp'=s.kept):=by
 obtain ⟨s',hw,-,-,rfl⟩:=h;rcases hw with ⟨hk,rfl,-⟩|⟨hk,-,rfl,-⟩|⟨hk,-,-,rfl,-⟩|⟨hk,-,⟨t,-,rfl⟩,-⟩|⟨hk,rfl,-⟩|⟨hk,rfl,-⟩|⟨hk,rfl,-,rfl⟩|⟨hk,rfl,-⟩
 . exact .inr ⟨by omega,mX.2.2⟩
 . exact .inr ⟨by omega,rfl⟩
 . exact .inr ⟨by omega,rfl⟩
 . exact .inr ⟨by omega,rfl⟩
 . exact .inr ⟨by omega,tK.2⟩
 . exact .inr ⟨by omega,pV.2.2⟩
 . refine .inl ⟨hk,?_⟩
   unfold kpE kpS;split
   . exact .inr ⟨rfl,rfl⟩
   . exact .inl ⟨rfl,rfl⟩
 . exact .inr ⟨by omega,rfl⟩
theorem Sv.small {W w:World} {F:List Nat} {z:Ad} {c:Cfg} {tb:List Bool} {kp:Nat} {P:Nat->Nat} {f:Nat->List UInt8} {K r s:Nat} (h:Sv W w F z c tb kp P f K r s):r<=K/\s<=K:=by
 obtain ⟨⟨st,-,h2,rfl,rfl⟩,-⟩:=h;exact ⟨h2.sm.r,h2.sm.s⟩
theorem Jq {W:World} {A:Option Addr} {l:List Ac} (h:AcL W A l) {k:Nat} (hk:k<l.length):∃b o x,A=some ⟨b,o,none⟩/\l[k]? =some x/\x∈l/\∀{w},Bw W w->w.cell? ⟨b,o+k*7,none⟩=some (.int .i64 x.kd)/\w.cell? ⟨b,o+k*7+1,none⟩=some (.int .u32 (x.i:Int))/\w.cell? ⟨b,o+k*7+2,none⟩=some (.int .i64 x.n.lv)/\w.cell? ⟨b,o+k*7+3,none⟩=some (.slice x.a.kA x.n.kids.length x.a.kc)/\w.cell? ⟨b,o+k*7+4,none⟩=some (.slice x.a.pA x.n.piv.length x.a.pc)/\w.cell? ⟨b,o+k*7+5,none⟩=some (.slice x.a.bA x.n.buf.length x.a.bc)/\w.cell? ⟨b,o+k*7+6,none⟩=some (.slice x.a.qA x.n.prs.length x.a.qc):=by
 obtain ⟨b,o,rfl,hb,hc⟩:=h.rd (by omega);have hx:l[k]? =some l[k]:=List.getElem?_eq_getElem hk;refine ⟨b,o,l[k],rfl,hx,List.getElem_mem hk,fun {w} hB=>?_⟩;have hh:∀j,w.cell? ⟨b,j,none⟩=W.cell? ⟨b,j,none⟩:=fun j=>by simp [World.cell?,hB.block b hb]
 simp only [hh];exact ⟨hc k _ hx 0 _ rfl,hc k _ hx 1 _ rfl,hc k _ hx 2 _ rfl,hc k _ hx 3 _ rfl,hc k _ hx 4 _ rfl,hc k _ hx 5 _ rfl,hc k _ hx 6 _ rfl⟩
end Sh
end Go.Proofs.YtjpjjnalpdpljaaGreatDoor
set_option maxHeartbeats 1000000
set_option maxRecDepth 100000
namespace Go.Proofs.YtjpjjnalpdpljaaGreatDoor
open Go.RowKit
open List (replicate)
namespace Sh
open Mem No Bt Po
open Ca (upF Few)
structure Rd (W w1 wr:World) (F:List Nat) (z:Ad) (c:Cfg) (s:Ds) (A:Option Addr) (cl h ch g:Nat) (f:Nat->List UInt8) (K r u:Nat):Prop where
 sc:s.c=c
 sv:Sv w1 wr F z c s.held s.kept (kpF s.kept) f K r u
 dl:Dl w1.heap.size wr F z s A cl h ch g
 sr:Sr W s c.bytes.toNat f
section
variable {W w1 wr w':World} {F:List Nat} {z:Ad} {c:Cfg} {s:Ds} {A:Option Addr} {cl h ch g:Nat} {f:Nat->List UInt8} {K r u:Nat}
theorem Rd.kept (H:Rd W w1 wr F z c s A cl h ch g f K r u) (hT:Tab w1) (hb:Bw wr w'):Rd W w1 w' F z c s A cl h ch g f K r u:=⟨H.sc,H.sv.kept hT hb,H.dl.kept hb,H.sr⟩
theorem Rd.mono {K':Nat} (H:Rd W w1 wr F z c s A cl h ch g f K r u) (hK:K<=K'):Rd W w1 wr F z c s A cl h ch g f K' r u:=⟨H.sc,H.sv.mono hK,H.dl,H.sr⟩
theorem Ld {i:Nat} (hi:i<c.blocks.toNat):fls (zer c) i=replicate c.bytes.toNat 0:=by
 unfold fls zer;rw [List.getElem?_replicate,if_pos hi];rfl
theorem Jr {w3 w4 w5:World} {F:List Nat} {z:Ad} {A:Option Addr} {h ch:Nat} (hc:Okc c) (hT:Tab w1) (hs:Sv w1 w3 F z c (tbN c.blocks.toNat) 0 (kpF 0) (fls (zer c)) 0 0 0) (hb:Bw w3 w4) (hbl:bE w4 h ch c.blocks.toNat (tbN c.blocks.toNat)) (hh:w3.heap.size<=h) (hr:RC SlK w4 A c.blocks.toNat (replicate c.blocks.toNat sl0)) (hA:∀a,A=some a->w3.heap.size<=a.block) (hb2:Bw w4 w5) (hx:bf 35 w5 w4.heap.size (bY ⟨c,replicate c.blocks.toNat sl0,tbN c.blocks.toNat,0⟩ A c.blocks.toNat h ch)):Rd W w1 w5 F z c ⟨c,replicate c.blocks.toNat sl0,tbN c.blocks.toNat,0⟩ A c.blocks.toNat h ch w4.heap.size (fls (zer c)) 0 0 0:=by
 have hn:=hc.nat;have h13:=hs.below.size;have h35:=hb.trans (hb2.mono hb.size);have hl:(replicate c.blocks.toNat sl0).length=c.blocks.toNat:=List.length_replicate;have hdw:DsW w5 w1.heap.size ⟨c,replicate c.blocks.toNat sl0,tbN c.blocks.toNat,0⟩ A c.blocks.toNat h ch:=⟨hr.kept hb2,(by rw [sJ];exact hbl.kept hb2),(by show ((replicate c.blocks.toNat sl0).length:Int)=c.blocks;omega),(by show (tbN c.blocks.toNat).length=_;rw [sJ,hl]),fun a ha=>Nat.le_trans h13 (hA a ha),Nat.le_trans h13 hh,(by show (replicate c.blocks.toNat sl0).length<=65536;omega)⟩;have h5:5<=(replicate c.blocks.toNat sl0).length:=by omega
 refine ⟨rfl,hs.kept hT h35,⟨hdw,hx,fun hm=>?_,fun a ha hm=>?_,zI hdw.rd h5 hx (by rw [mV];decide),h5,Nat.le_trans h13 hb.size⟩,Sr.new c _ _ _ _ fun i hi=>Ld hi⟩
 . have:=hs.lt _ hm
   have:=hb.size;omega
 . have:=hs.lt _ hm
   have:=hA a ha;omega
theorem lW {w:World} (hx:bf 35 w g (bY s A cl h ch)):w.cell? ⟨g,0,none⟩=some (.int .i64 s.c.blocks)/\w.cell? ⟨g,1,none⟩=some (.int .i64 s.c.bytes)/\w.cell? ⟨g,2,none⟩=some (.int .i64 s.c.frames)/\w.cell? ⟨g,3,none⟩=some (.int .i64 s.c.fan)/\w.cell? ⟨g,4,none⟩=some (.int .i64 s.c.buffer)/\w.cell? ⟨g,5,none⟩=some (.int .i64 s.c.leaf)/\w.cell? ⟨g,6,none⟩=some (.int .i64 s.c.key)/\w.cell? ⟨g,7,none⟩=some (.int .i64 s.c.val)/\w.cell? ⟨g,8,none⟩=some (.slice A s.l.length cl)/\w.cell? ⟨g,9,none⟩=some (.slice (some ⟨h,0,none⟩) s.held.length ch)/\w.cell? ⟨g,10,none⟩=some (.int .u32 (s.kept:Int)):=⟨hx.cell rfl,hx.cell rfl,hx.cell rfl,hx.cell rfl,hx.cell rfl,hx.cell rfl,hx.cell rfl,hx.cell rfl,hx.cell rfl,hx.cell rfl,hx.cell rfl⟩
theorem WnE.mono {w0 w2 w:World} {B:Nat} {x:Ac} {t:Bool} {v:Value} (H:WnE w2 B s A x t v w) (hs:w0.heap.size<=w2.heap.size):WnE w0 B s A x t v w:=by
 obtain ⟨s',k,E,A',cl',h',ch',h1,h2,h3,h4⟩:=H;refine ⟨s',k,E,A',cl',h',ch',h1,h2,h3,?_⟩;rcases h4 with h4|h4
 . exact .inl h4
 . exact .inr fun a ha=>Nat.le_trans hs (h4 a ha)
theorem zJ {U:TypeId} {w7 w8:World} {a q n:Nat} {C:Array Value} (hx:bf U w7 a C) (ha:a<n) (hq:n<=q) (hi:Flow.Into [q] w7 w8):bf U w8 a C:=(hi.block a hx.lt (by simp only [List.mem_singleton];omega)).trans hx
theorem Rd.want {w7 w8 w9:World} {q:Nat} {A':Option Addr} {cl' h' ch':Nat} {s':Ds} {x:Ac} {t:Bool} {k:Nat} {E:Int} {C:Array Value} (H:Rd W w1 wr F z c s A cl h ch g f K r u) (hT:Tab w1) (hw:kK s x t s' k E) (h7:Bw wr w7) (hd:DsW w7 w1.heap.size s' A' cl' h' ch') (hA:A'=A\/∀a,A'=some a->wr.heap.size<=a.block) (hq:wr.heap.size<=q) (hx7:bf 35 w7 q C) (hC:C.size=11) (h8:Flow.Into [q] w7 w8) (h9:Flow.Into [g] w8 w9) (hx9:bf 35 w9 g (bY s' A' cl' h' ch')):Dl w1.heap.size w9 F z s' A' cl' h' ch' g/\Sv w1 w9 F z c s.held s.kept (kpF s.kept) f K r u:=by
 have hL:=hw.like;have h5:5<=s'.l.length:=by rw [hL.l];exact H.dl.pos
 have h78:Bw wr w8:=h7.trans ⟨h8.os,h8.tape,h8.output,h8.size,fun k hk=>h8.block k (Nat.lt_of_lt_of_le hk h7.size) (by simp only [List.mem_singleton];omega)⟩;have hx8:=H.dl.bx.kept h78;have hd8:=hd.into h5 hx7 hC h8;have hd9:=hd8.into h5 hx8 (mV _ _ _ _ _) h9;exact ⟨H.dl.want H.sv.lt hL hd9 hx9 hA,(H.sv.kept hT h78).far hT h9 H.dl.ag (Nat.le_trans (Nat.le_refl _) H.dl.bg)⟩
theorem Rd.k32 (H:Rd W w1 wr F z c s A cl h ch g f K r u) (hc:Okc c):s.kept<4294967296/\1<=s.held.length:=by
 have hn:=hc.nat;have h1:=H.dl.dw.hlen;have h2:=H.dl.pos;refine ⟨?_,by omega⟩;rcases H.sv.kl with e|e
 . omega
 . have:=e.2
   omega
end
theorem Js {W w1 w:World} {F:List Nat} {z:Ad} {c:Cfg} {s:Ds} {A:Option Addr} {cl h ch g:Nat} {f:Nat->List UInt8} {K r u:Nat} {t:Bool} {x:Ac} (H:Rd W w1 w F z c s A cl h ch g f K r u) (hc:Okc c) (hn:NdA w x.n x.a) (hx:x.i<4294967296) (ht:t=true↔bQ c x.n):Calls Tryz.prog 12 #[.agg (bY s A cl h ch),.agg (A8 x).toArray] w fun e w'=>(∃v,e=.returned v/\WnE w w1.heap.size s A x t v w')/\Bw w w':=by
 obtain ⟨h1,h2⟩:=H.k32 hc;refine (Iw s A cl h ch w1.heap.size x w H.dl.dw H.sv.below.size h1 hx h2 t fun w' hb=>?_).mono ?_
 . rw [H.sc]
   exact Ba c (hn.nd.kept hb) (vP hn.fit) hn.kid t ht
 . rintro e w' ⟨⟨s',k,E,A',cl',h',ch',he,h3⟩,hb⟩
   exact ⟨⟨_,he,s',k,E,A',cl',h',ch',rfl,h3⟩,hb⟩
theorem Jt {W1 w:World} {F:List Nat} {z:Ad} {c:Cfg} {s:Ds} {f:Nat->List UInt8} {K r u:Nat} {t:Bool} (h:Sv W1 w F z c s.held s.kept (kpF s.kept) f K r u) (sc:s.c=c) (hc:Okc c) (hT:Tab W1) (hK:K<=900000) (x:Ac) (hi:x.i<4294967296) (hn:NdA w x.n x.a) (hr:t=true↔bQ c x.n):Calls Tryz.prog 13 #[z.p,.agg (A8 x).toArray] w fun e w'=>∃(k:Nat) (E:Int) (tb':List Bool) (kp':Nat) (f':Nat->List UInt8),e=.returned (.tuple #[.int .u32 (k:Int),E])/\Both s x t f k E tb' kp' f'/\Out W1 w w' F z c tb' kp' (kpF kp') f' (K+64) r u (tL x s.kept) (tN c x s.kept):=by
 subst sc;exact NK h hc hT hK x hi hn hr
theorem Rd.done {W w1 w9 w10:World} {F F0:List Nat} {z:Ad} {c:Cfg} {s s':Ds} {A':Option Addr} {cl' h' ch' g k k2:Nat} {E E2:Int} {t:Bool} {x:Ac} {f f':Nat->List UInt8} {tb':List Bool} {kp' K r u:Nat} (sc:s.c=c) (hsr:Sr W s c.bytes.toNat f) (hw:kK s x t s' k E) (hdl:Dl w1.heap.size w9 F0 z s' A' cl' h' ch' g) (hh:h'∉z.p::z.q::z.r::z.b::F0) (hb:Both s x t f k2 E2 tb' kp' f') (hsv:Sv w1 w10 F z c tb' kp' (kpF kp') f' K r u) (hm:Mv z w9 w10 F0 F) (ht:t=true↔bQ c x.n) (hn:NdA W x.n x.a):k2=k/\E2=E/\Rd W w1 w10 F z c s' A' cl' h' ch' g f' K r u:=by
 obtain ⟨h1,h2,h3,h4,h5⟩:=hb.want hw;subst h3 h4;refine ⟨h1,h2,hw.like.c.trans sc,hsv,hdl.move hm hh,?_⟩;exact hsr.step hw h5 (fun e=>by rw [sc];exact ht.1 e) ⟨hn.nd,hn.fit,hn.kid⟩
theorem Rd.load {W w1 w:World} {F:List Nat} {z:Ad} {c:Cfg} {s:Ds} {A:Option Addr} {cl h ch g:Nat} {f:Nat->List UInt8} {K r u:Nat} (H:Rd W w1 w F z c s A cl h ch g f K r u) (hc:Okc c) (hT:Tab w1) (hK:K<=900000) (i:Nat) (hi:i<4294967296):Calls Tryz.prog 14 #[z.p,.int .u32 (i:Int)] w fun e w'=>(∃n E a,e=.returned (.tuple #[.agg (bL n a),(E:Int)])/\gK w' n a/\LdP c f i n E)/\∃F' r' u',Rd W w1 w' F' z c s A cl h ch g f (K+2) r' u':=by
 obtain ⟨F0,h1,h2,h3⟩:=H.sv.shrink H.dl.dw.bl;refine (Jk h1 hc hT hK i hi).mono ?_;rintro e w' ⟨he,F',r',u',h4,h5,-⟩;exact ⟨he,F',r',u',H.sc,h4,(H.dl.less h2).move h5 h3,H.sr⟩
theorem Rd.told {W w1 w:World} {F:List Nat} {z:Ad} {c:Cfg} {s:Ds} {A:Option Addr} {cl h ch g:Nat} {f:Nat->List UInt8} {K r u i:Nat} {n:Nd} {E:Int} (H:Rd W w1 w F z c s A cl h ch g f K r u) (hc:Okc c) (hl:LdP c f i n E) (hk:(ldS s i).2.2=true):E=(ldS s i).2.1/\n=(ldS s i).1.n:=by
 have sc:=H.sc;rcases hl with ⟨h1,h2⟩|⟨h1,rfl,rfl⟩
 . subst sc
   exact H.sr.load hc.1 H.dl.dw.len h1 h2 hk
 . have:¬there s i:=by
    intro hh;refine h1 ?_;rw [<-sc];exact hh
   unfold ldS;rw [if_neg this];exact ⟨rfl,rfl⟩
theorem Rd.node {W w1 w:World} {F:List Nat} {z:Ad} {c:Cfg} {s:Ds} {A:Option Addr} {cl h ch g:Nat} {f:Nat->List UInt8} {K r u i:Nat} (H:Rd W w1 w F z c s A cl h ch g f K r u) (hk:(ldS s i).2.2=true):gK W (ldS s i).1.n (ldS s i).1.a/\Sz (ldS s i).1.n:=by
 have nil:gK W sl0.n sl0.a/\Sz sl0.n:=⟨gK.nil W,vP (Fw W).fit⟩;unfold ldS at hk ⊢;by_cases ht:there s i
 . rw [if_pos ht] at hk ⊢
   have hlt:=EN H.dl.dw.len ht;obtain ⟨x,hx⟩:∃x,s.l[i]? =some x:=⟨_,List.getElem?_eq_getElem hlt⟩
   have hg:s.l.getD i sl0=x:=(by rw [List.getD_eq_getElem?_getD,hx];rfl);rw [hg] at hk ⊢;rcases H.sr i x ht.1 hx with ⟨h1,-,-⟩|⟨h1,-,-,h4⟩|h1
   . rw [if_pos h1]
     exact nil
   . rw [if_neg (by omega)]
     exact ⟨h4.nd,vP h4.fit⟩
   . rw [if_neg (by omega)] at hk
     exact absurd (of_decide_eq_true hk) (by omega)
 . rw [if_neg ht]
   exact nil
theorem FB {w:World} {g:Nat} {c:Cfg} (hx:bf 23 w g (aZ c)):w.cell? ⟨g,0,none⟩=some (.int .i64 c.blocks)/\w.cell? ⟨g,1,none⟩=some (.int .i64 c.bytes)/\w.cell? ⟨g,2,none⟩=some (.int .i64 c.frames)/\w.cell? ⟨g,3,none⟩=some (.int .i64 c.fan)/\w.cell? ⟨g,4,none⟩=some (.int .i64 c.buffer)/\w.cell? ⟨g,5,none⟩=some (.int .i64 c.leaf)/\w.cell? ⟨g,6,none⟩=some (.int .i64 c.key)/\w.cell? ⟨g,7,none⟩=some (.int .i64 c.val):=⟨hx.cell rfl,hx.cell rfl,hx.cell rfl,hx.cell rfl,hx.cell rfl,hx.cell rfl,hx.cell rfl,hx.cell rfl⟩
def EvU (n:Nat) (l:List Nat) (v:Value) (w:World):Prop:=∃A m,v= .slice A n m/\UL w A l
theorem NP (c:Cfg) (w:World):(binOp .neq 23 (.agg #[c.blocks,c.bytes,c.frames,c.fan,c.buffer,c.leaf,c.key,c.val]) (.agg #[c.blocks,c.bytes,c.frames,c.fan,c.buffer,c.leaf,c.key,c.val])).run Tryz.prog w= .ok (.bool false) w:=by
 simp [go_sem]
theorem NQ (r u:Int) (w:World):(binOp .neq 65 (.agg #[.int .u64 r,.int .u64 u]) (.agg #[.int .u64 r,.int .u64 u])).run Tryz.prog w= .ok (.bool false) w:=by
 simp [go_sem]
end Sh
end Go.Proofs.YtjpjjnalpdpljaaGreatDoor
