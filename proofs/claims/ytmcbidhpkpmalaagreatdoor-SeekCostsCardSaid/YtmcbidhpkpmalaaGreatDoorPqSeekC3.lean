import Derived.Test.YtmcbidhpkpmalaaGreatDoorPkBH
set_option maxHeartbeats 4000000
set_option maxRecDepth 100000
namespace Go.Proofs.YtmcbidhpkpmalaaGreatDoor
open Go.RowKit
open Go.Lib (hid)
namespace Sk
open Mem Lx Bu Lf Fa No Sh Bt Po
section
variable{c:Cfg}{f:Nat->List UInt8}{i:Nat}{n:Nd}
theorem JD{L:List Pr}(h:qp L):PRi L:=ED.1 h
theorem Has.plain(hc:Okc c)(h:Has c f i n):Plain n:=by obtain⟨hs,hr⟩:=h.rt;obtain⟨F,B,L,K,V,so⟩:=qE hs;have hk:=so.k;have hky:=so.key;(have ko:∀k,nH c k=true->k.size<=1000:=fun k hk'=>by unfold nH at hk';simp only[Bool.and_eq_true,decide_eq_true_eq]at hk';omega);(have hle:L<=1000:=by have h1:=so.out;have h2:=hc.2.1;have h3:L*4<=L*(3+K+V):=Nat.mul_le_mul_left _ (by omega);omega);by_cases h0:n.lv=0;(. have o:=hr.1 h0;have hb:=List.length_eq_zero_iff.1 o.buf;refine⟨by rw[hb];exact .nil,(fun m hm=>by rw[hb]at hm;cases hm),by rw[hb];exact Nat.zero_le _,JD o.rise,(fun m hm=>ko _ (o.each m hm).1),?_⟩;have:=o.few;have:=so.leaf;omega);. have o:=(hr.2 h0).2;have hq:=List.length_eq_zero_iff.1 o.prs;refine⟨Ie.1 o.rise,(fun m hm=>ko _ (o.buf m hm).1),?_,by rw[hq];exact .nil,(fun m hm=>by rw[hq]at hm;cases hm),by rw[hq];exact Nat.zero_le _⟩;have:=o.few;have:=so.buffer;have:=so.b;omega
theorem Has.kid(h:Has c f i n)(h0:n.lv≠0)(key:ByteArray):SRi n.piv/\n.piv.length<=1000/\bX n.piv key<n.kids.length/\0<n.lv/\n.lv<=1000:=by obtain⟨hs,hr⟩:=h.rt;obtain⟨F,B,L,K,V,so⟩:=qE hs;obtain⟨h1,o⟩:=hr.2 h0;have h2:=nG n.piv key;have h3:=o.fewer;have h4:=o.fan;have h5:=so.fan;have h6:=so.f;have h7:=o.lv;exact⟨vP.1 o.right.2,by omega,by omega,h1,by omega⟩
end
structure Path(c:Cfg)(f:Nat->List UInt8)(key:ByteArray)(root:Nat)(PP:List (Nd × Nat)):Prop where
 hd:∀x,PP[0]? =some x->x.2=root
 at_:∀(d:Nat) (x:Nd × Nat),PP[d]? =some x->Has c f x.2 x.1
 nx:∀(d:Nat) (x y:Nd × Nat),PP[d]? =some x->PP[d+1]? =some y->x.1.kids[bX x.1.piv key]? =some y.2/\y.1.lv=x.1.lv-1/\x.1.lv≠0
def Ends(c:Cfg)(f:Nat->List UInt8)(key:ByteArray)(n:Nd)(go:Bool)(D NX:Nat)(E:Int):Prop:=
 (E=0/\NX=D-1/\(go=false\/n.lv=0))\/(E=12/\NX=D/\go=true/\n.lv≠0/\∃b n',n.kids[bX n.piv key]? =some b/\Has c f b n'/\n'.lv≠n.lv-1)
structure Dn(W w0 w:World)(F0 T0:List Nat)(z:Ad)(c:Cfg)(tb:List Bool)(kp:Nat)(f:Nat->List UInt8)(K r0 s0 rt:Nat)(J:Nat->World->List Nat->Prop)(d ld:Nat)(F T:List Nat)(r s:Nat):Prop where
 sv:Sv W w F z c tb kp (kpF kp) f (K+2*ld) r s
 j:J d w T
 lt:∀x,x∈T->x<w.heap.size/\W.heap.size<=x
 ap:Apt z F T
 io:Flow.Into (T0++z.p::z.b::F0) w0 w
 gr:Dv.zC w0 F0 F
 gt:Dv.zC w0 T0 T
 co:(r0<=r/\r+1<=r0+rt+ld)/\s0<=s/\s+1<=s0+rt+ld
section
variable{W w0 w w':World}{F0 T0 F F' T T':List Nat}{z:Ad}{c:Cfg}{tb:List Bool}{kp:Nat}{f:Nat->List UInt8}{K r0 s0 rt d ld r s r' s' m:Nat}{J:Nat->World->List Nat->Prop}
theorem Dn.kept(h:Dn W w0 w F0 T0 z c tb kp f K r0 s0 rt J d ld F T r s)(hT:Tab W)(jk:∀d w w' T,J d w T->Same T w w'->J d w' T)(hb:Bw w w'):Dn W w0 w' F0 T0 z c tb kp f K r0 s0 rt J d ld F T r s:=
 ⟨h.sv.kept hT hb,jk _ _ _ _ h.j (Same.of_below hb fun x hx=>(h.lt x hx).1),fun x hx=>⟨Nat.lt_of_lt_of_le (h.lt x hx).1 hb.size,(h.lt x hx).2⟩,h.ap,h.io.trans ((Flow.Into.of_below (S:=[]) hb).mono fun k hk=>by cases hk),h.gr,h.gt,h.co⟩
theorem Dn.far(h:Dn W w0 w F0 T0 z c tb kp f K r0 s0 rt J d ld F T r s)(hT:Tab W)(jk:∀d w w' T,J d w T->Same T w w'->J d w' T){g:Nat}(hi:Flow.Into [g] w w')(hg:g∉shT z F)(hgT:g∉T)(hw:w0.heap.size<=g)(hW:W.heap.size<=g):Dn W w0 w' F0 T0 z c tb kp f K r0 s0 rt J d ld F T r s:=
 ⟨h.sv.far hT hi hg hW,jk _ _ _ _ h.j (Same.Fu hi fun x hx=>⟨(h.lt x hx).1,by simp only[List.mem_singleton];rintro rfl;exact hgT hx⟩),fun x hx=>⟨Nat.lt_of_lt_of_le (h.lt x hx).1 hi.size,(h.lt x hx).2⟩,h.ap,Dv.bq h.io hi (fun x hx=>by
   simp only[List.mem_singleton]at hx;subst hx
   exact .inr hw),h.gr,h.gt,h.co⟩
theorem Dn.load(h:Dn W w0 w F0 T0 z c tb kp f K r0 s0 rt J d ld F T r s)(jk:∀d w w' T,J d w T->Same T w w'->J d w' T)(hs:Sv W w' F' z c tb kp (kpF kp) f (K+2*ld+2) r' s')(hm:Mv z w w' F F')(hd:(r<=r'/\r'<=r+1)/\s<=s'/\s'<=s+1):Dn W w0 w' F0 T0 z c tb kp f K r0 s0 rt J d (ld+1) F' T r' s':=
 ⟨by rw[show K+2*(ld+1)=K+2*ld+2 from by omega];exact hs,jk _ _ _ _ h.j (Mv.same hm (fun x hx=>(h.lt x hx).1) h.ap),fun x hx=>⟨Nat.lt_of_lt_of_le (h.lt x hx).1 hm.io.size,(h.lt x hx).2⟩,Mv.apt hm (fun x hx=>(h.lt x hx).1) h.ap,Dv.bq h.io hm.io (fun x hx=>by
   simp only[List.mem_cons,List.mem_append]at hx ⊢;rcases hx with hx|hx|hx
   . exact .inl (.inr (.inl hx))
   . exact .inl (.inr (.inr (.inl hx)))
   . exact(h.gr x hx).imp_left fun h=> .inr (.inr (.inr h))),(fun x hx=>by
   rcases hm.gr x hx with h1|h1
   . exact h.gr x h1
   . exact .inr (Nat.le_trans h.io.size h1)),h.gt,by have:=h.co;omega⟩
theorem Dn.call(h:Dn W w0 w F0 T0 z c tb kp f K r0 s0 rt J d ld F T r s)(hT:Tab W){n:Nd}{a:At}(hn:NdV w m n a)(hF:∀x,x∈F->x<m)(hm:w0.heap.size<=m)(hz:∀x,x∈[z.p,z.q,z.r,z.b]->x<m)(hWm:W.heap.size<=m)(hj:J (d+1) w' T')(hl:∀x,x∈T'->x<w'.heap.size)(hg:∀x,x∈T'->x∈T\/x∈kQ n a\/w.heap.size<=x)(hi:Flow.Into T w w'):Dn W w0 w' F0 T0 z c tb kp f K r0 s0 rt J (d+1) ld F T' r s:=by have hw:=h.sv.below.size;have hb:∀x,x∈kQ n a->m<=x:=fun x hx=>(fD.blk (B:=m) ⟨Fr.iN hn.kids,Fr.iN hn.piv,Fr.iN hn.buf,Fr.iN hn.prs⟩ hx).1;refine⟨Sv.PS h.sv hT hi h.ap (fun x hx=>(h.lt x hx).2),hj,fun x hx=>⟨hl x hx,?_⟩,fun x hx hh=>?_,Dv.bq h.io hi (fun x hx=>?_),h.gr,(fun x hx=>?_),h.co⟩;(. rcases hg x hx with h1|h1|h1;(. exact(h.lt x h1).2);(. exact Nat.le_trans hWm (hb x h1));. exact Nat.le_trans hw h1);(. rcases hg x hx with h1|h1|h1;(. exact h.ap x h1 hh);(. have h2:=hb x h1;unfold shT at hh;rcases List.mem_append.1 (show x∈[z.p,z.q,z.r,z.b]++F from hh)with h3|h3;(. have:=hz x h3;omega);. have:=hF x h3;omega);. have:=h.sv.lt x hh;omega);(. rcases h.gt x hx with h1|h1;(. exact .inl (List.mem_append_left _ h1));. exact .inr h1);. rcases hg x hx with h1|h1|h1;(. exact h.gt x h1);(. exact .inr (Nat.le_trans hm (hb x h1)));. exact .inr (Nat.le_trans h.io.size h1)
end
section
variable{W w:World}{F T:List Nat}{z:Ad}{c:Cfg}{tb:List Bool}{kp:Nat}{f:Nat->List UInt8}{K r s root m:Nat}{key:ByteArray}{PP:List (Nd × Nat)}
theorem uX{α:Type}{Kd:Kind α}{g q:Nat}{A:Option Addr}{L:List α}{X:Array Value}{U:TypeId}{fl:Nat × Nat}(h:VK Kd w m A q L)(hx:w.heap[g]? =some (.cells X U fl))(hU:U≠Kd.T):g∉yK A L.length:=fun hy=>by obtain⟨h0,b,rfl,rfl⟩:=fK hy;obtain⟨g2,o,C,e,-,hh⟩:=(Fr.iN h).own h0;cases e;rw[hx]at hh;simp only[Option.some.injEq,Obj.cells.injEq]at hh;exact hU hh.2.1
theorem ME{g:Nat}{n:Nd}{a:At}{X:Array Value}{fl:Nat × Nat}(h:NdV w m n a)(hx:w.heap[g]? =some (.cells X 50 fl)):g∉kQ n a:=fun hy=>by
 unfold kQ at hy;simp only[List.mem_append]at hy;rcases hy with hy|hy|hy|hy
 . exact uX h.kids hx (by decide) hy
 . exact uX h.piv hx (by decide) hy
 . exact uX h.buf hx (by decide) hy
 . exact uX h.prs hx (by decide) hy
structure Nw(W w0 w:World)(z:Ad)(F T:List Nat)(g:Nat)(n:Nd)(a:At)(m:Nat):Prop where
 bx:aH 50 w g (dO n a)
 nv:NdV w m n a
 tm:∀y,y∈T->y<m
 fm:∀y,y∈F->y<m
 lo:w0.heap.size<=m
 hi:m<=w.heap.size
def Gd(W w0:World)(z:Ad)(F T:List Nat)(g:Nat):Prop:=g∉shT z F/\g∉T/\w0.heap.size<=g/\W.heap.size<=g
theorem Gb{n:Nd}{lv:Int}(h:n.lv=lv-1):OI n lv=n/\OJ n lv=0:=⟨if_pos h,if_pos h⟩
theorem J8{n:Nd}{lv:Int}(h:n.lv≠lv-1):OI n lv=ni/\OJ n lv=12:=⟨if_neg h,if_neg h⟩
theorem qW{G:FuncId}{CA:Array Value}(hcf:∀args w,(callFunc G args).run Tryz.prog w= .ok (.enter G args) w)(h:Sv W w F z c tb kp (kpF kp) f K r s)(hc:Okc c)(hT:Tab W)(hP:Path c f key root PP)(go:Nat->Bool){D:Nat}(hD:0<D)(hD2:D<=PP.length)(hD3:D<=50)(hK:K+2*D<=900000)(hgo:∀d,d+1<D->go d=true){E:Int}{NX:Nat}(hE:∀x,PP[D-1]? =some x->Ends c f key x.1 (go (D-1)) D NX E)
 (J:Nat->World->List Nat->Prop) (jk:∀d w w' T,J d w T->Same T w w'->J d w' T) (hJ:J 0 w T) (hl:∀x,x∈T->x<w.heap.size/\W.heap.size<=x) (ha:Apt z F T)
 (je:∀(d:Nat) (w:World) (T:List Nat) (x:Nd × Nat) (a:At) (m:Nat),PP[d]? =some x->d<D->J d w T->NdV w m x.1 a->(∀y,y∈T->y<m)->m<=w.heap.size->Calls Tryz.prog G (#[.int .u32 (x.2:Int),.agg (dO x.1 a)]++CA) w fun e w'=>e=.returned (.bool (go d))/\∃T',J (d+1) w' T'/\(∀y,y∈T'->y<w'.heap.size)/\(∀y,y∈T'->y∈T\/y∈kQ x.1 a\/w.heap.size<=y)/\Flow.Into T w w'):
 Calls Tryz.prog 28 #[z.p,.int .u32 (root:Int),.string key,.func (.func G) #[] CA] w fun e w'=>e=.returned E/\∃F' T' r' s',Dn W w w' F T z c tb kp f K r s (if root=kp then 0 else 1) J D (NX+1) F' T' r' s':=by
 obtain⟨x0,hx0⟩:∃x,PP[0]? =some x:=⟨_,List.getElem?_eq_getElem (by omega)⟩
 have hr0:=hP.hd _ hx0;have cL:=hid (J5 h hc hT (by omega) (hr0▸hP.at_ _ _ hx0));have HP:=hid hP;have HE:=hid hE;have HGO:=hid hgo;have HCF:=hid hcf;have H0:=hid (And.intro h (And.intro hJ (And.intro hl ha)));have HX0:=hid hx0;have hrt:(if root=kp then 0 else 1)<=1:=by split<;>omega
 obtain⟨rt,R8⟩:=eX ((if root=kp then 0 else 1));simp only[<-R8]at hrt cL ⊢;clear hP hE hgo h hJ hl ha hx0 hr0 R8 hcf;go_enter Tryz.func28,Tryz.ntmps28
 go_upto_region 2 with(first
  |(go_at_call 15;refine cL.mono ?_;rintro e w2 ⟨a,m,F2,r2,s2,rfl,hv,hs,hm,hd,hF,hm1,hm2⟩;have HV:=hid hv;have HS:=hid hs;have HM:=hid hm;have HD:=hid hd;have HF:=hid (And.intro hF (And.intro hm1 hm2));clear cL hv hs hm hd hF hm1 hm2)
  |(refine bf rfl (.tmp 9) (.tmp 16) 50 rfl rfl _ #[.int .i64 0,.slice none 0 0,.slice none 0 0,.slice none 0 0,.slice none 0 0] (dO x0.1 a) (BH rfl) rfl (oC x0.1 a) rfl rfl (aH.new _ _ _) ?_;intro w3 HZ hi;have HI:=hid hi;clear hi))
 have hb3:Bw w2 w3:=wN (Nat.le_refl _) HI.out;have hw2:=HM.io.size;have hWw:=H0.1.below.size;have hg2:∀x,x∈T->x<w2.heap.size:=fun x hx=>Nat.lt_of_lt_of_le (H0.2.2.1 x hx).1 hw2
 have HG:Hid (Gd W w z F2 T w2.heap.size):=⟨fun hx=>absurd (HS.lt _ hx) (by omega),fun hx=>absurd (hg2 _ hx) (by omega),hw2,Nat.le_trans hWw hw2⟩;have HDn:Hid (Dn W w w3 F T z c tb kp f K r s rt J 0 (0+1) F2 T r2 s2):=Dn.kept (w:=w2) ⟨HS.out,jk _ _ _ _ H0.2.1 (Mv.same HM.out (fun x hx=>(H0.2.2.1 x hx).1) H0.2.2.2),fun x hx=>⟨hg2 x hx,(H0.2.2.1 x hx).2⟩,Mv.apt HM.out (fun x hx=>(H0.2.2.1 x hx).1) H0.2.2.2,HM.io.mono fun k hk=>List.mem_append_right _ hk,HM.gr,fun x hx=> .inl hx,by have:=HD.out;omega⟩ hT jk hb3;have HZ':=HZ.out;obtain⟨g,hg⟩:=eX w2.heap.size;rw[<-hg]at HG HZ';simp only[<-hg];have HN:Hid (Nw W w w3 z F2 T g x0.1 a m):=⟨HZ',HV.kept hb3,fun y hy=>Nat.lt_of_lt_of_le (H0.2.2.1 y hy).1 HF.2.1,HF.1,HF.2.1,Nat.le_trans HF.2.2 hb3.size⟩;have HZP:Hid (∀y,y∈[z.p,z.q,z.r,z.b]->y<w.heap.size):=fun y hy=>H0.1.lt y (List.mem_append_left F hy);have HWW:=hid hWw;have hr0:x0.2=root:=HP.hd _ HX0.out;subst hr0;clear HV HS HM HD HF HZ HI hb3 hw2 hg2 HZ' hg H0 hWw;go_upto_region 3 with fail
 go_loopg[10,11] (2*D) (fun gk s10 s11 wr=>∃d F' T' r' s',(∃x a m,d<D/\PP[d]? =some x/\gk=2*(D-d)/\s10= .int .i64 0/\s11= .int .u32 (x.2:Int)/\Hid (Dn W w wr F T z c tb kp f K r s rt J d (d+1) F' T' r' s')/\Hid (Nw W w wr z F' T' g x.1 a m)/\Hid (Gd W w z F' T' g))\/(gk=0/\E=12/\s10= .int .i64 12/\(∃b:Nat,s11= .int .u32 (b:Int))/\Hid (Dn W w wr F T z c tb kp f K r s rt J D (NX+1) F' T' r' s')))
 case atStart=>exact⟨0,F2,T,r2,s2,.inl ⟨x0,a,m,hD,HX0.out,by omega,rfl,rfl,HDn,HN,HG⟩⟩
 case round=>
  clear HDn HN HG HX0;obtain⟨d,F1,T1,r1,s1,⟨x,a,m,hd,hx,rfl,rfl,rfl,HDn,HN,HG⟩|⟨rfl,rfl,rfl,⟨b,rfl⟩,HDn⟩⟩:=hrel
  . have Sb:=HP.at_ _ _ hx
    have hE1:d+1=D->Ends c f key x.1 (go d) D NX E:=fun e=>by
     have h1:=HE.out x (by rw[show D-1=d from by omega];exact hx)
     rwa [show D-1=d from by omega]at h1
    have hGd:=HGO.out d;have cJ:=je d wr T1 x a m hx hd HDn.j HN.nv HN.tm HN.hi;have oo:=fun h0=>Sb.kid h0 key
    have HNX:Hid (d+1<D->∃y,PP[d+1]? =some y/\x.1.kids[bX x.1.piv key]? =some y.2/\y.1.lv=x.1.lv-1/\x.1.lv≠0/\Has c f y.2 y.1):=fun h1=>by
     obtain⟨y,hy⟩:∃y,PP[d+1]? =some y:=⟨_,List.getElem?_eq_getElem (by omega)⟩
     obtain⟨h2,h3,h4⟩:=HP.nx d x y hx hy;exact⟨y,hy,h2,h3,h4,HP.at_ _ _ hy⟩
    have HC:∀(w2:World) (T2:List Nat),J (d+1) w2 T2->(∀y,y∈T2->y<w2.heap.size)->(∀y,y∈T2->y∈T1\/y∈kQ x.1 a\/wr.heap.size<=y)->Flow.Into T1 wr w2->Hid (Dn W w w2 F T z c tb kp f K r s rt J (d+1) (d+1) F1 T2 r1 s1)/\Hid (aH 50 w2 g (dO x.1 a))/\Hid (NdV w2 m x.1 a)/\Hid (Gd W w z F1 T2 g):=fun w2 T2 h1 h2 h3 h4=>by
     have hgN:∀y,y∈kQ x.1 a->m<=y/\y<wr.heap.size:=fun y hy=>fD.blk (B:=m) ⟨Fr.iN HN.nv.kids,Fr.iN HN.nv.piv,Fr.iN HN.nv.buf,Fr.iN HN.nv.prs⟩ hy
     have hgl:=(show aH 50 wr g (dO x.1 a)from HN.bx).lt;refine⟨Dn.call HDn.out hT HN.nv HN.fm HN.lo (fun y hy=>Nat.lt_of_lt_of_le (HZP.out y hy) HN.lo) (Nat.le_trans HWW.out HN.lo) h1 h2 h3 h4,(h4.block g hgl HG.2.1).trans HN.bx,?_,HG.1,fun hy=>?_,HG.2.2⟩
     . have hk:∀{α:Type} {Kd:Kind α} {A:Option Addr} {k:Nat} {L:List α},VK Kd wr m A k L->VK Kd w2 m A k L:=fun hv=>hv.into h4 fun q hq hh=>by
        have:=(hv.at_ q hq).1;have:=HN.tm _ hh;omega
       exact⟨hk HN.nv.kids,hk HN.nv.piv,hk HN.nv.buf,hk HN.nv.prs⟩
     . rcases h3 g hy with h5|h5|h5
       . exact HG.2.1 h5
       . exact ME HN.nv HN.bx h5
       . omega
    obtain⟨n,b⟩:=x;obtain⟨lv,kids,piv,buf,prs⟩:=n;obtain⟨kA,kc,pA,pc,bA,bc,qA,qc⟩:=a;obtain⟨c0,c1,c2,c3,c4⟩:=bD (show wr.heap[g]? =some (.cells #[lv,.slice kA kids.length kc,.slice pA piv.length pc,.slice bA buf.length bc,.slice qA prs.length qc] 50 (0,0))from HN.bx);have P5:Hid (lv≠0->SRi piv/\piv.length<=1000/\bX piv key<kids.length/\0<lv/\lv<=1000):=oo;have HE1:=hid hE1;have HGD:=hid hGd;have HX:=hid hx;unfold dO at cJ HC;simp only at cJ HC;obtain⟨kn,hkn⟩:=eX kids.length;obtain⟨pn,hpn⟩:=eX piv.length;obtain⟨bn,hbn⟩:=eX buf.length;obtain⟨qn,hqn⟩:=eX prs.length;have HQ:=hid (And.intro hkn hpn);rw[<-hkn]at c1;rw[<-hpn]at c2;rw[<-hbn]at c3;rw[<-hqn]at c4;rw[<-hkn,<-hpn,<-hbn,<-hqn]at cJ;simp only[<-hkn,<-hpn,<-hbn,<-hqn]at HC;have HCH:=hid HC;have hcf:=HCF.out;clear hkn hpn hbn hqn hx hE1 hGd oo Sb HC HN HG;cases hgd:go d with
    |false=>
     rw[hgd]at cJ
     have hDd:d+1=D:=by
      rcases Nat.lt_or_ge (d+1) D with h1|h1
      . exact absurd (hgd.symm.trans (HGD.out h1)) (by decide)
      . omega
     obtain⟨rfl,hNX⟩:E=0/\NX=d:=by
      rcases HE1.out hDd with⟨h1,h2,-⟩|⟨-,-,h3,-⟩
      . exact⟨h1,by omega⟩
      . rw[hgd]at h3
        cases h3
     have HDD:=hid (And.intro hDd hNX);clear HE1 HGD P5 HQ HX HNX hDd hNX hgd HE HGO HP;go_wp2_with (refine cJ.mono ?_;rintro e w2 ⟨rfl,T2,hj2,hl2,hg2,hi2⟩;have HO:=HCH.out w2 T2 hj2 hl2 hg2 hi2;clear hj2 hl2 hg2 hi2 c0 c1 c2 c3 c4)
     go_ret
     refine⟨rfl,F1,T2,r1,s1,?_⟩;rw[<-HDD.1,HDD.2];exact HO.1.out
    |true=>
     rw[hgd]at cJ;by_cases h0:lv=0
     . have hDd:d+1=D:=by
        rcases Nat.lt_or_ge (d+1) D with h1|h1
        . obtain⟨y,-,-,-,h2,-⟩:=HNX.out h1
          exact absurd h0 h2
        . omega
       obtain⟨rfl,hNX⟩:E=0/\NX=d:=by
        rcases HE1.out hDd with⟨h1,h2,-⟩|⟨-,-,-,h3,-⟩
        . exact⟨h1,by omega⟩
        . exact absurd h0 h3
       have HDD:=hid (And.intro hDd hNX);subst h0;clear HE1 HGD P5 HQ HX HNX hDd hNX hgd HE HGO HP;go_wp2_with (refine cJ.mono ?_;rintro e w2 ⟨rfl,T2,hj2,hl2,hg2,hi2⟩;have HO:=HCH.out w2 T2 hj2 hl2 hg2 hi2;clear hj2 hl2 hg2 hi2 c0 c1 c2 c3 c4;obtain⟨c0,-,-,-,-⟩:=bD HO.2.1.out)
       go_ret
       refine⟨rfl,F1,T2,r1,s1,?_⟩;rw[<-HDD.1,HDD.2];exact HO.1.out
     . obtain⟨hp1,hp2,hp3,hp4,hp5⟩:=P5.out h0
       go_upto_region 4 with(refine cJ.mono ?_;rintro e w2 ⟨rfl,T2,hj2,hl2,hg2,hi2⟩;have HO:=hid (HCH.out w2 T2 hj2 hl2 hg2 hi2);clear hj2 hl2 hg2 hi2 c0 c1 c2 c3 c4;obtain⟨c0,c1,c2,c3,c4⟩:=bD HO.2.1.out)
       obtain⟨b',hb'⟩:∃b',kids[bX piv key]? =some b':=⟨_,List.getElem?_eq_getElem hp3⟩
       obtain⟨n',hh',hlow⟩:∃n',Has c f b' n'/\((d+1<D/\PP[d+1]? =some (n',b')/\n'.lv=lv-1)\/(d+1=D/\E=12/\NX=D/\n'.lv≠lv-1)):=by
        rcases Nat.lt_or_ge (d+1) D with h1|h1
        . obtain⟨⟨y1,y2⟩,h2,h3,h4,-,h5⟩:=HNX.out h1
          obtain rfl:b'=y2:=Option.some.inj (hb'.symm.trans h3);exact⟨y1,h5,.inl ⟨h1,h2,h4⟩⟩
        . have h2:d+1=D:=by omega
          rcases HE1.out h2 with⟨-,-,h3⟩|⟨h3,h4,-,-,y2,y1,h5,h6,h7⟩
          . rcases h3 with h3|h3
            . rw[hgd]at h3
              cases h3
            . exact absurd h3 h0
          . obtain rfl:b'=y2:=Option.some.inj (hb'.symm.trans h5)
            exact⟨y1,h6,.inr ⟨h2,h3,h4,h7⟩⟩
       obtain⟨bk,ok,e,-,ck⟩:=RdK.kid HO.2.2.1.kids.rd hb';subst e
       have cW:∀w',Bw w2 w'->Hid (CB 32 #[.slice pA pn pc,.string key] w' (.int .i64 (bX piv key:Int))):=fun w' hb=>by
        rw[HQ.2];exact NY ((HO.2.2.1.piv.rc).kept hb) key hp1 hp2
       have hik:bX piv key<kn:=(by rw[HQ.1];exact hp3);obtain⟨i,hi⟩:=eX (bX piv key);simp only[<-hi]at cW hik ck;have z1:=ah.tc c1;have z2:=ah.tc c2;have zk:=ah.tc ck;have HLV:=hid (And.intro hp4 hp5);have HH':=hid hh';have HLO:=hid hlow;clear hp1 hp2 hp3 hp4 hp5 hb' hi HE1 HGD P5 HQ HX HNX hgd h0 hh' hlow c0 c1 c2 c3 c4 ck hcf;refine ah.aj [] [(0,[]),(1,[]),(2,[]),(3,[]),(4,[]),(5,[]),(6,[]),(7,[]),(8,[])] [] [] (by kernel_rfl) (by kernel_rfl) (by simp) ?_;simp only[ah.pick,ah.aM,ah.dL]
       repeat (refine ah.ak (fun K hK=>?_);go_simp;first|(refine hK _ ?_;clear hK K)|(apply Exists.intro;refine⟨fun q=>?_,hK _ ?_⟩;(go_at_call 32;exact(cW _ q.into.below).out);clear hK K))
       refine ah.walk_nil ?_;intro w3 hb _;simp only[lC,List.drop_nil,Nat.zero_add,Nat.reduceAdd];have HDn:=hid (HO.1.kept hT jk hb);have QZ:=hid ((show aH 50 w2 g _ from HO.2.1.out).kept hb);have HG:=HO.2.2.2;clear z1 z2 zk cW hb HCH cJ HO;obtain⟨c0,-,-,-,-⟩:=bD QZ.out;have cB:=L6 HDn.sv hc hT (by omega) HH'.out lv HLV.1 HLV.2;rcases HLO.out with⟨h1,h2,hlv⟩|⟨h1,h2,h3,hlv⟩
       . rw[(Gb hlv).1,(Gb hlv).2]at cB
         have HDD:=hid (And.intro h1 h2);clear h1 h2 hlv HLO HH' HLV
         go_wp2_with (first
          |(go_at_call 61;refine cB.mono ?_;rintro e w4 ⟨a4,m4,F4,r4,s4,rfl,hv4,hs4,hmv,hd4,hF4,hm1,hm2⟩;have HV4:=hid hv4;have HD4:=hid (HDn.load jk hs4 hmv hd4);have HBX:=hid (Mv.box hmv QZ.out HG.1);have HF4:=hid (And.intro hF4 (And.intro hm1 hm2));clear hv4 hs4 hmv hd4 hF4 hm1 hm2 c0 cB)
          |(refine bf rfl (.tmp 9) (.tmp 46) 50 rfl rfl g #[.int .i64 lv,.slice (some ⟨bk,ok,none⟩) kn kc,.slice pA pn pc,.slice bA bn bc,.slice qA qn qc] (dO n' a4) (BH rfl) rfl (oC _ a4) rfl rfl HBX.1 ?_;intro w5 HZ hi;have HI:=hid hi;clear hi))
         have HD5:=hid (HD4.far hT jk HI.out HBX.2 HG.2.1 HG.2.2.1 HG.2.2.2);have HN5:Hid (Nw W w w5 z F4 T2 g n' a4 m4):=⟨HZ.out,HV4.fill HBX.1 HI.out,fun y hy=>Nat.lt_of_lt_of_le (HDn.lt y hy).1 HF4.2.1,HF4.1,Nat.le_trans HDn.io.size HF4.2.1,Nat.le_trans HF4.2.2 HI.size⟩;have HG5:Hid (Gd W w z F4 T2 g):=⟨HBX.2,HG.2⟩
         go_roundg (2*(D-(d+1)))
         case measure=>have:=HDD.1;omega
         case rel=>exact⟨d+1,F4,T2,r4,s4,.inl ⟨(n',b'),a4,m4,HDD.1,HDD.2,rfl,rfl,rfl,HD5,HN5,HG5⟩⟩
       . rw[(J8 hlv).1,(J8 hlv).2]at cB
         have HDD:=hid (And.intro h1 (And.intro h2 h3));clear h1 h2 h3 hlv HLO HH' HLV
         go_wp2_with (first
          |(go_at_call 61;refine cB.mono ?_;rintro e w4 ⟨a4,m4,F4,r4,s4,rfl,hv4,hs4,hmv,hd4,hF4,hm1,hm2⟩;have HV4:=hid hv4;have HD4:=hid (HDn.load jk hs4 hmv hd4);have HBX:=hid (Mv.box hmv QZ.out HG.1);have HF4:=hid (And.intro hF4 (And.intro hm1 hm2));clear hv4 hs4 hmv hd4 hF4 hm1 hm2 c0 cB)
          |(refine bf rfl (.tmp 9) (.tmp 46) 50 rfl rfl g #[.int .i64 lv,.slice (some ⟨bk,ok,none⟩) kn kc,.slice pA pn pc,.slice bA bn bc,.slice qA qn qc] (dO ni a4) (BH rfl) rfl (oC _ a4) rfl rfl HBX.1 ?_;intro w5 HZ hi;have HI:=hid hi;clear hi))
         have HD5:=hid (HD4.far hT jk HI.out HBX.2 HG.2.1 HG.2.2.1 HG.2.2.2)
         have HD6:Hid (Dn W w w5 F T z c tb kp f K r s rt J D (NX+1) F4 T2 r4 s4):=by
          obtain⟨h1,-,h2⟩:=HDD.out;have h3:=HD5.out;rw[h2,<-h1];exact h3
         go_roundg 0
         case measure=>have:=HDD.1;omega
         case rel=>exact⟨D,F4,T2,r4,s4,.inr ⟨rfl,HDD.2.1,rfl,⟨b',rfl⟩,HD6⟩⟩
  . go_wp2_with fail
    go_ret
    exact⟨rfl,F1,T1,r1,s1,HDn.out⟩
end
end Sk
end Go.Proofs.YtmcbidhpkpmalaaGreatDoor
