import Derived.Test.YtmcbidhpkpmalaaGreatDoorPkBO
import Derived.Test.YtmcbidhpkpmalaaGreatDoorPqSeekL2
namespace Go.Proofs.YtmcbidhpkpmalaaGreatDoor
open Go.RowKit
namespace Sk
open Mem Lx Bu Lf Fa No Sh Bt Po
open Ca (upF)
structure Td where
 B:Nat
 A:Option Addr
 cc:Nat
 S:List (Option Addr × Nat × Nat)
 TT:List (List (Nd × At))
 BB:List (List Nat)
 root:Nat
 L0:List Pr
 R0:List (List Nd)
 k:Nat
 w0:World
structure Std(W w:World)(c:Cfg)(z:Ad)(F:List Nat)(tb:List Bool)(kp:Nat)(f:Nat->List UInt8)(K r s:Nat)(t:Td):Prop where
 ok:Okc c
 sv:Sv W w F z c tb kp (kpF kp) f K r s
 tr:TrW t.w0 t.B t.A t.cc t.S t.TT
 rg:Rg t.B t.w0 w
 fr:Far t.w0 t.B z F
 bk:Bks c f tb (nds t.TT) t.BB
 fu:Full (nds t.TT) t.BB
 bl:t.BB.length=(nds t.TT).length
 rt:t.root=lF t.BB ((nds t.TT).length-1) 0
 ri:PRi t.L0
 la:∃lo hi,Lay t.L0 t.R0 lo hi/\lo.length<=1/\t.R0.length<=7
 ld:Lad t.R0 (nds t.TT) t.k
 k1:t.k<=100
section
variable{W w w':World}{c:Cfg}{z:Ad}{F F':List Nat}{tb:List Bool}{kp:Nat}{f:Nat->List UInt8}{K K' r s r' s':Nat}{t:Td}
theorem Std.wf0(h:Std W w c z F tb kp f K r s t):Wf t.R0/\Fits t.R0/\∀(T:List Nd) (l:Nat) (n:Nd),t.R0[0]? =some T->T[l]? =some n->∀p,p∈n.prs->OnW t.R0 p.1 0 l:=by
 obtain⟨lo,hi,h1,h2,h3⟩:=h.la;have h4:=h1.wf h2 h3;exact⟨h4.1,h4.2.1,h4.2.2.2⟩
theorem Std.wf(h:Std W w c z F tb kp f K r s t):Wf (nds t.TT):=h.ld.wf h.wf0.1
theorem Std.fits(h:Std W w c z F tb kp f K r s t):Fits (nds t.TT):=h.ld.fits h.wf0.2.1 (Nat.le_trans h.k1 (by decide))
theorem Std.tree(h:Std W w c z F tb kp f K r s t):TrW w t.B t.A t.cc t.S t.TT:=h.tr.kept h.rg
theorem Std.path(h:Std W w c z F tb kp f K r s t)(key:ByteArray):Path c f key t.root (lJ (nds t.TT) t.BB key):=by
 rw[h.rt];exact z8 h.wf h.bk h.fu h.bl key
theorem Std.kept(h:Std W w c z F tb kp f K r s t)(hT:Tab W)(hb:Bw w w'):Std W w' c z F tb kp f K r s t:=⟨h.ok,h.sv.kept hT hb,h.tr,h.rg.trans (Rg.below hb),h.fr,h.bk,h.fu,h.bl,h.rt,h.ri,h.la,h.ld,h.k1⟩
theorem Std.Jr(h:Std W w c z F tb kp f K r s t)(hm:Mv z w w' F F'):Rg t.B t.w0 w'/\Far t.w0 t.B z F':=⟨⟨Nat.le_trans h.rg.1 hm.io.size,fun b hB hl=>(hm.io.block b (Nat.lt_of_lt_of_le hl h.rg.1) fun hx=>by
 obtain⟨h1,h2,h3⟩:=h.fr;simp only[List.mem_cons]at hx;rcases hx with hx|hx|hx
 . omega
 . omega
 . have:=h3 b hx
   omega).trans (h.rg.2 b hB hl)⟩,h.fr.1,h.fr.2.1,fun x hx=>by
 rcases hm.gr x hx with h1|h1
 . exact h.fr.2.2 x h1
 . exact .inr (Nat.le_trans h.rg.1 h1)⟩
theorem Std.mv(h:Std W w c z F tb kp f K r s t)(hs:Sv W w' F' z c tb kp (kpF kp) f K' r' s')(hm:Mv z w w' F F'):Std W w' c z F' tb kp f K' r' s' t:=⟨h.ok,hs,h.tr,(h.Jr hm).1,(h.Jr hm).2,h.bk,h.fu,h.bl,h.rt,h.ri,h.la,h.ld,h.k1⟩
end
theorem Ml:Tryz.prog.underlying 28=some (.struct (Tryz.prog.fieldsOf 28)):=by kernel_rfl
theorem Mq{C:Array Value}(h:C.size=4):(Tryz.prog.info? 28).map (·.size)=some C.size:=by
 rw[h]
 kernel_rfl
theorem Far.rg{w w':World}{B:Nat}{z:Ad}{F F':List Nat}(h:Far w B z F)(hm:Mv z w w' F F'):Rg B w w':=⟨hm.io.size,fun b hB hl=>hm.io.block b hl fun hx=>by
 obtain⟨h1,h2,h3⟩:=h;simp only[List.mem_cons]at hx;rcases hx with hx|hx|hx
 . omega
 . omega
 . have:=h3 b hx
   omega⟩
def StP(w w':World)(c:Cfg)(x:Sp)(e:Ending):Prop:=Bw w w'/\(((∃P A n k,e=.returned (.tuple #[.pointer P,.int .u32 0,.slice A n k,.bool false]))/\(c=cLe->x.P=[]->x.M=[]->False))\/∃z F tb f r s t,e=.returned (.tuple #[z.p,.int .u32 (t.root:Int),.slice t.A t.TT.length t.cc,.bool true])/\Std w w' c z F tb 0 f 150000 r s t/\Lt c/\(x.P=[]->x.M=[]->nds t.TT=[[ni]]))
theorem OW{c:Cfg}(h:Lt c):CfL c:=by
 obtain⟨⟨⟨h1,h3,h2,-⟩,-⟩,-⟩:=h;exact⟨h1,by omega⟩
theorem GX:Lt cLe:=⟨OL.1,by decide,by decide⟩
end Sk
end Go.Proofs.YtmcbidhpkpmalaaGreatDoor
set_option maxHeartbeats 4000000
set_option maxRecDepth 100000
namespace Go.Proofs.YtmcbidhpkpmalaaGreatDoor
open Go.RowKit
open Go.Lib (hid)
namespace Sk
open Mem Lx Bu Lf Fa No Sh Bt Po
open Ca (upF)
theorem qY{w:World}{c:Cfg}{x:Sp}(hx:SpW w x)(hT:Tab w):Calls Tryz.prog 7 #[.agg (bC c),.agg (jE x)] w fun e w'=>StP w w' c x e:=by
 obtain⟨v,hv⟩:∃v:Bool,v=true↔Lt c:=by
  by_cases h:Lt c
  . exact⟨true,by simp[h]⟩
  . exact⟨false,by simp[h]⟩
 have cLi:=fun w=>hid (EJ c w v hv);have HC:=hid (CxB.new w (bC c) (jE x));have HX:=hid hx;have HV:=hid hv;clear hx hv;go_enter Tryz.func7,Tryz.ntmps7
 go_upto_region 1 with fail
 generalize (w.alloc (.cells (bC c) 23)).alloc (.cells (jE x) 28)=w1 at HC ⊢;obtain⟨g,hg⟩:=eX w.heap.size;have HG:=hid hg;simp only[<-hg];clear hg;cases v with
 |false=>
  go_wp2_with (first
   |(refine aO rfl (.tmp 2) 23 rfl Gm g (bC c) (Gn rfl) rfl (by rw[HG.out];exact HC.c) ?_)
   |(go_at_call 24;refine(cLi _).mono ?_;rintro e w2 ⟨rfl,hb⟩;have HB:=hid (HC.below.trans (hb.mono HC.below.size));clear hb cLi))
  refine bodyPost_ret (v:= .tuple #[.pointer none,.int .u32 0,(),.bool false]) (by simp[results,Tryz.results7,go_sem]) rfl ⟨HB.out,.inl ⟨⟨_,_,_,_,rfl⟩,fun h _ _=>?_⟩⟩;subst h;exact absurd (HV.2 GX) (by decide)
 |true=>
  have hL:=HV.1 rfl;have HL:=hid hL;clear hL HV
  go_upto_block 0 with(first
   |(refine aO rfl (.tmp 2) 23 rfl Gm g (bC c) (Gn rfl) rfl (by rw[HG.out];exact HC.c) ?_)
   |(go_at_call 24;refine(cLi _).mono ?_;rintro e w2 ⟨rfl,hb⟩;replace HC:=hid (HC.kept hb);clear hb cLi))
  obtain⟨pn,hpn⟩:=eX x.P.length;have HPn:=hid hpn;obtain⟨mn,hmn⟩:=eX x.M.length;have HMn:=hid hmn;clear hpn hmn
  go_cut[8] (fun s8 wx=>(∃k:Int,s8= .int .i64 k)/\Hid (CxB w (bC c) (jE x) wx)/\Hid (∀(i:Nat) (p:Pr),i<150->x.P[i]? =some p->p.1.size<=200))
  case first=>
   go_wp2_with fail
   go_loopg[8] 150 (fun gk s8 wr=>∃k:Nat,k<=150/\gk=150-k/\s8= .int .i64 (k:Int)/\Hid (∀(i:Nat) (p:Pr),i<k->x.P[i]? =some p->p.1.size<=200)/\Hid (CxB w (bC c) (jE x) wr))
   case atStart=>exact⟨0,by decide,rfl,rfl,fun i p h=>by omega,HC.out⟩
   case round=>
    clear HC;obtain⟨k,hk,rfl,rfl,HE,HC⟩:=hrel
    have x0:wr.cell? ⟨g+1,0,none⟩=some (.slice x.pA pn x.pc):=by
     rw[HG.out,HPn.out];exact HC.x.cell (i:=0) rfl
    by_cases hlt:k<pn/\k<150
    . obtain⟨hlt1,hlt2⟩:=hlt
      obtain⟨p,hp⟩:∃p,x.P[k]? =some p:=⟨_,List.getElem?_eq_getElem (by rw[<-HPn.out];exact hlt1)⟩
      obtain⟨b,o,e,-,p0,-⟩:=RdK.pair (HX.p.below HC.below (Nat.le_refl _)) hp;rw[e]at x0;have HP:=hid hp;clear hp e;by_cases hs:200<(p.1.size:Int)
      . go_wp2_with fail
        refine bodyPost_ret (v:= .tuple #[.pointer none,.int .u32 0,(),.bool false]) (by simp[results,Tryz.results7,go_sem]) rfl ⟨HC.below,.inl ⟨⟨_,_,_,_,rfl⟩,fun _ h1 h2=>?_⟩⟩;have h3:=HP.out;rw[h1]at h3;simp at h3
      . have hs2:(p.1.size:Int)<=200:=by omega
        have HS:Hid (p.1.size<=200):=hid (by omega);have hkw:IntKind.i64.wrap ((k:Int)+1)=((k+1:Nat):Int):=(by rw[IntKind.wrap_i64];omega);clear hs;go_wp2_with fail
        go_roundg (150-(k+1))
        case measure=>omega
        case rel=>
         refine⟨k+1,hlt2,rfl,rfl,fun i q hi hq=>?_,HC.out⟩;rcases Nat.lt_or_ge i k with h1|h1
         . exact HE.out i q h1 hq
         . obtain rfl:i=k:=by omega
           rw[HP.out]at hq;(cases hq);exact HS.out
    . by_cases hlt1:k<pn
      . have hge:150<=k:=by omega
        have HA:Hid (∀(i:Nat) (p:Pr),i<150->x.P[i]? =some p->p.1.size<=200):=hid fun i p hi hp=>HE.out i p (by omega) hp;go_wp2_with fail
        go_meet
        exact⟨⟨_,rfl⟩,HC.out,HA.out⟩
      . have hge:pn<=k:=by omega
        have HA:Hid (∀(i:Nat) (p:Pr),i<150->x.P[i]? =some p->p.1.size<=200):=hid fun i p hi hp=>HE.out i p (by
         have h1:=(List.getElem?_eq_some_iff.1 hp).1;rw[<-HPn.out]at h1
         omega) hp
        go_wp2_with fail
        go_meet
        exact⟨⟨_,rfl⟩,HC.out,HA.out⟩
  case rest=>
   clear HC;obtain⟨⟨k0,rfl⟩,HC,HKP⟩:=hcut;go_upto_block 2 with fail
   go_cut[9] (fun s8 wx=>(∃k:Int,s8= .int .i64 k)/\Hid (CxB w (bC c) (jE x) wx)/\Hid (∀(i:Nat) (p:Mg),i<100->x.M[i]? =some p->p.1.size<=200))
   case first=>
    go_wp2_with fail
    go_loopg[9] 100 (fun gk s8 wr=>∃k:Nat,k<=100/\gk=100-k/\s8= .int .i64 (k:Int)/\Hid (∀(i:Nat) (p:Mg),i<k->x.M[i]? =some p->p.1.size<=200)/\Hid (CxB w (bC c) (jE x) wr))
    case atStart=>exact⟨0,by decide,rfl,rfl,fun i p h=>by omega,HC.out⟩
    case round=>
     clear HC;obtain⟨k,hk,rfl,rfl,HE,HC⟩:=hrel
     have x0:wr.cell? ⟨g+1,1,none⟩=some (.slice x.mA mn x.mc):=by
      rw[HG.out,HMn.out];exact HC.x.cell (i:=1) rfl
     by_cases hlt:k<mn/\k<100
     . obtain⟨hlt1,hlt2⟩:=hlt
       obtain⟨p,hp⟩:∃p,x.M[k]? =some p:=⟨_,List.getElem?_eq_getElem (by rw[<-HMn.out];exact hlt1)⟩
       obtain⟨b,o,e,-,p0,-⟩:=RdK.msg (HX.m.below HC.below (Nat.le_refl _)) hp;rw[e]at x0;have HP:=hid hp;clear hp e;by_cases hs:200<(p.1.size:Int)
       . go_wp2_with fail
         refine bodyPost_ret (v:= .tuple #[.pointer none,.int .u32 0,(),.bool false]) (by simp[results,Tryz.results7,go_sem]) rfl ⟨HC.below,.inl ⟨⟨_,_,_,_,rfl⟩,fun _ h1 h2=>?_⟩⟩;have h3:=HP.out;rw[h2]at h3;simp at h3
       . have hs2:(p.1.size:Int)<=200:=by omega
         have HS:Hid (p.1.size<=200):=hid (by omega);have hkw:IntKind.i64.wrap ((k:Int)+1)=((k+1:Nat):Int):=(by rw[IntKind.wrap_i64];omega);clear hs;go_wp2_with fail
         go_roundg (100-(k+1))
         case measure=>omega
         case rel=>
          refine⟨k+1,hlt2,rfl,rfl,fun i q hi hq=>?_,HC.out⟩;rcases Nat.lt_or_ge i k with h1|h1
          . exact HE.out i q h1 hq
          . obtain rfl:i=k:=by omega
            rw[HP.out]at hq;(cases hq);exact HS.out
     . by_cases hlt1:k<mn
       . have hge:100<=k:=by omega
         have HA:Hid (∀(i:Nat) (p:Mg),i<100->x.M[i]? =some p->p.1.size<=200):=hid fun i p hi hp=>HE.out i p (by omega) hp;go_wp2_with fail
         go_meet
         exact⟨⟨_,rfl⟩,HC.out,HA.out⟩
       . have hge:mn<=k:=by omega
         have HA:Hid (∀(i:Nat) (p:Mg),i<100->x.M[i]? =some p->p.1.size<=200):=hid fun i p hi hp=>HE.out i p (by
          have h1:=(List.getElem?_eq_some_iff.1 hp).1;rw[<-HMn.out]at h1
          omega) hp
         go_wp2_with fail
         go_meet
         exact⟨⟨_,rfl⟩,HC.out,HA.out⟩
   case rest=>
    clear HC;obtain⟨⟨k1,rfl⟩,HC,HKM⟩:=hcut;have hok:Okc c:=⟨HL.1,HL.2.1,by have:=HL.2.2;omega⟩;have cB:=hid (L8 hok hT HC.below)
    go_upto_region 14 with(first
     |(refine aO rfl (.tmp 2) 23 rfl Gm g (bC c) (Gn rfl) rfl (by rw[HG.out];exact HC.c) ?_)
     |(go_at_call 25;refine cB.mono ?_;rintro e w3 ⟨⟨F,z,rfl,hs⟩,hb⟩;have HS:=hid hs;have HB3:=hid hb;replace HC:=hid (HC.kept hb);clear hs hb cB))
    have cL:=hid (BK (HX.kept HC.below) (OW HL.out) HKP.out HKM.out)
    go_upto_region 17 with(first
     |(refine aO rfl (.tmp 2) 23 rfl Gm g (bC c) (Gn rfl) rfl (by rw[HG.out];exact HC.c) ?_)
     |(refine aO rfl (.tmp 3) 28 rfl Ml (g+1) (jE x) (Mq rfl) rfl (by rw[HG.out];exact HC.x) ?_)
     |(go_at_call 26;refine cL.mono ?_;rintro e w4 ⟨⟨TT,S,A,cc,L0,R0,lo,hi,k,rfl,htr,hri,hla,hlo,h7,hld,hk,hln⟩,hb⟩;have HB4:=hid hb;have HTr:=hid htr;have HLa:=hid (And.intro hri (And.intro hla (And.intro hlo (And.intro h7 (And.intro hld (And.intro hk hln))))));clear cL htr hri hla hlo h7 hld hk hln hb))
    have hs4:=HS.kept hT HB4.out;have hw0:=HLa.2.1.wf HLa.2.2.1 HLa.2.2.2.1;have hwf:=HLa.2.2.2.2.1.wf hw0.1;have hfi:=HLa.2.2.2.2.1.fits hw0.2.1 (Nat.le_trans HLa.2.2.2.2.2.1.1 (by decide));have hfr:Far w4 w3.heap.size z F:=⟨HS.lt _ (by simp),HS.lt _ (by simp),fun y hy=> .inl (HS.lt y (by simp[hy]))⟩
    have hlf:∀T,(nds TT)[0]? =some T->∀n,n∈T->n.kids=[]:=fun T hT n hn=>by
     obtain⟨T0,hT0,-,h2⟩:=HLa.2.2.2.2.1.sh 0 T hT;obtain⟨i,hi⟩:=List.getElem?_of_mem hn;obtain⟨n0,hn0,-,h3,-⟩:=h2 i n hi;rw[h3];exact((HLa.2.1.leaf T0 hT0).2 n0 (List.mem_of_getElem? hn0)).1
    have cD:=hid (Jj hs4 hok hT (by decide) HTr.out hfr hwf hfi hlf);have HFr:=hid hfr;have HWf:=hid hwf;clear hs4 hw0 hwf hfi hfr hlf;go_upto_region 18 with(go_at_call 27;refine cD.mono ?_;intro e w5 hD;obtain⟨r5,b5,he⟩:∃(r5:Int) (b5:Bool),e=.returned (.tuple #[.int .u32 r5,.bool b5]):=(by rcases hD with⟨_,_,_,_,_,_,_,_,_,_,h,_⟩|⟨h,_⟩<;>exact⟨_,_,h⟩);subst he;have HD:=hid hD;clear cD hD)
    go_wp2_with fail
    refine bodyPost_ret (v:= .tuple #[z.p,.int .u32 r5,.slice A TT.length cc,.bool b5]) (by simp[results,Tryz.results7,go_sem]) rfl ?_;have hl:=HLa.out
    have hn:x.P=[]->x.M=[]->nds TT=[[ni]]:=fun e1 e2=>by
     obtain⟨-,l2,l3,l4,l5,⟨-,l6⟩,l7⟩:=hl;rw[e1]at l7;rw[e2]at l6;obtain rfl:L0=[]:=List.length_eq_zero_iff.1 (Nat.le_zero.1 l7);obtain rfl:=l2.none_;obtain rfl:k=0:=Nat.le_zero.1 l6;exact Lad.none_ l5
    rcases HD.out with⟨F5,tb5,f5,r6,s6,hs5,hm5,BB,D,root,he,hbk,hfu,hbl,hD,hr⟩|⟨he,⟨F5,tb5,f5,K5,r6,s6,hs5⟩,k6,i6,hpl,RZ⟩
    . obtain⟨rfl,rfl⟩:r5=(root:Int)/\b5=true:=by simpa using he
      have hroot:root=lF BB ((nds TT).length-1) 0:=by
       unfold lF;rw[<-hbl,hD,Option.getD_some,hr,Option.getD_some]
      have yM:Std w w5 c z F5 tb5 0 f5 150000 r6 s6 ⟨w3.heap.size,A,cc,S,TT,BB,root,L0,R0,k,w4⟩:=⟨hok,hs5.mono (by decide),HTr.out,Far.rg HFr.out hm5,HFr.mv hm5 rfl,hbk,hfu,hbl,hroot,hl.1,⟨lo,hi,hl.2.1,hl.2.2.1,hl.2.2.2.1⟩,hl.2.2.2.2.1,hl.2.2.2.2.2.1.1⟩;exact⟨hs5.below,.inr ⟨z,F5,tb5,f5,r6,s6,_,rfl,yM,HL.out,hn⟩⟩
    . obtain⟨rfl,rfl⟩:r5=0/\b5=false:=by simpa using he
      refine⟨hs5.below,.inl ⟨⟨_,_,_,_,rfl⟩,fun e1 e2 e3=>?_⟩⟩;subst e1;have hnd:=hn e2 e3;rw[hnd]at hpl RZ;obtain⟨T,m,hT6,hm6⟩:=hpl
      have hk6:k6=0:=by
       have:=(List.getElem?_eq_some_iff.1 hT6).1;simpa using this
      subst hk6;obtain rfl:[ni]=T:=by simpa using hT6
      have hi6:i6=0:=by
       have:=(List.getElem?_eq_some_iff.1 hm6).1;simpa using this
      subst hi6;rcases RZ with⟨D,h⟩|⟨tb6,h1,h2⟩
      . exact h I8
      . rw[h2 rfl rfl]at h1
        exact absurd h1 (by decide)
end Sk
end Go.Proofs.YtmcbidhpkpmalaaGreatDoor
namespace Go.Proofs.YtmcbidhpkpmalaaGreatDoor
open Go.RowKit
namespace Sk
open Mem Lx Bu Lf Fa No Sh Bt Po
open Ca (upF)
def StA(W w w':World)(c:Cfg)(z:Ad)(tb:List Bool)(kp:Nat)(f:Nat->List UInt8)(K r s R:Nat)(t:Td)(F':List Nat):Prop:=∃r' s',Std W w' c z F' tb kp f (K+20) r' s' t/\(r<=r'/\r'<=r+R)/\(s<=s'/\s'<=s+R)/\w.heap.size<=w'.heap.size
section
variable{W w w':World}{c:Cfg}{z:Ad}{F F':List Nat}{tb:List Bool}{kp:Nat}{f:Nat->List UInt8}{K K' r s R:Nat}{t:Td}{key:ByteArray}
theorem Std.len(h:Std W w c z F tb kp f K r s t):1<=(lJ (nds t.TT) t.BB key).length/\(lJ (nds t.TT) t.BB key).length<=7/\(lJ (nds t.TT) t.BB key).length=t.TT.length:=by
 rw[zZ];exact⟨h.wf.ne,h.wf.few,dW⟩
theorem Std.bk_{T:List Nat}{r' s':Nat}(h:Std W w c z F tb kp f K r s t)(hb:Bk W w w' F z c tb kp f K' r s R F' T r' s')(hK:K'<=K+20):StA W w w' c z tb kp f K r s R t F':=⟨r',s',h.mv (hb.sv.mono hK) ⟨hb.gr,hb.io⟩,hb.co.1,⟨hb.co.2.1,hb.co.2.2⟩,hb.io.size⟩
theorem Std.get(h:Std W w c z F tb kp f K r s t)(hT:Tab W)(hK:K<=800000)(key:ByteArray)(hk:key.size<=1000):Calls Tryz.prog 17 #[z.p,.int .u32 (t.root:Int),.string key] w fun e w'=>e=.returned (.tuple #[.string ((nk ((lJ (nds t.TT) t.BB key).map (·.1)) key).getD ⟨#[]⟩),.bool (nk ((lJ (nds t.TT) t.BB key).map (·.1)) key).isSome,(0:Int)])/\∃F',StA W w w' c z tb kp f K r s ((if t.root=kp then 0 else 1)+(t.TT.length-1)) t F'/\Mv z w w' F F':=by
 obtain⟨l1,l2,l3⟩:=h.len (key:=key);refine(QH h.sv h.ok hT (h.path key) (by omega) (by omega) (by omega) hk fun x hx=>uS h.wf hx).mono ?_;rintro e w' ⟨F',r',s',hb,rfl⟩;rw[l3]at hb;exact⟨rfl,F',h.bk_ hb (by omega),hb.gr,hb.io⟩
theorem Std.span(h:Std W w c z F tb kp f K r s t)(hT:Tab W)(hK:K<=800000)(key:ByteArray):Calls Tryz.prog 10 #[z.p,.int .u32 (t.root:Int),.string key] w fun e w'=>e=.returned (.tuple #[.agg #[.string (wS key (yL (nds t.TT) key)).1,.string (wS key (yL (nds t.TT) key)).2.1,.bool (wS key (yL (nds t.TT) key)).2.2],(0:Int)])/\∃F',(∃R,StA W w w' c z tb kp f K r s R t F')/\Mv z w w' F F':=by
 obtain⟨l1,l2,l3⟩:=h.len (key:=key);refine(OM h.sv h.ok hT (h.path key) (by omega) (by omega) (by omega) (NX:=t.TT.length-1) (E:=0) fun x hx=> .inl ⟨rfl,by rw[l3],.inr (uS h.wf hx)⟩).mono ?_;rintro e w' ⟨F',r',s',hb,he⟩;rw[FM h.wf h.bk h.fu h.bl]at he;rcases he with⟨-,rfl⟩|⟨h0,-⟩
 . exact⟨rfl,F',⟨_,h.bk_ hb (by omega)⟩,hb.gr,hb.io⟩
 . cases h0
structure WyM(W w w':World)(z:Ad)(F' T:List Nat)(PP:List (Nd × Nat))(X:List (Nd × At))(A B:Option Addr)(cA cB:Nat):Prop where
 x:X.map (·.1)=PP.map (·.1)
 va:VK jD w' w.heap.size A cA X
 vb:VK KdK w' w.heap.size B cB (PP.map (·.2))
 fr:∀y,y∈X->∃m,fD w' m y.1 y.2
 tt:∀y,y∈tA A++(tA B++X.flatMap fun x=>kQ x.1 x.2)->y∈T
 ap:Apt z F' T
 lt:∀y,y∈T->w.heap.size<=y/\y<w'.heap.size
theorem Std.way(h:Std W w c z F tb kp f K r s t)(hT:Tab W)(hK:K<=800000)(key:ByteArray):Calls Tryz.prog 9 #[z.p,.int .u32 (t.root:Int),.string key] w fun e w'=>∃X A B cA cB F' T,e=.returned (.tuple #[.slice A t.TT.length cA,.slice B t.TT.length cB,(0:Int)])/\(∃R,StA W w w' c z tb kp f K r s R t F')/\WyM W w w' z F' T (lJ (nds t.TT) t.BB key) X A B cA cB/\Mv z w w' F F':=by
 obtain⟨l1,l2,l3⟩:=h.len (key:=key);refine(QG h.sv h.ok hT (h.path key) (by omega) (by omega) (by omega) (NX:=t.TT.length-1) (E:=0) fun x hx=> .inl ⟨rfl,by rw[l3],.inr (uS h.wf hx)⟩).mono ?_;rintro e w' ⟨F',T,r',s',hb,he⟩;rcases he with⟨-,X,A,B,cA,cB,rfl,h1,h2,h3,h4,h5⟩|⟨h0,-⟩
 . exact⟨X,A,B,cA,cB,F',T,by rw[l3],⟨_,h.bk_ hb (by omega)⟩,⟨h1,h2,h3,h4,h5,hb.ap,hb.lt⟩,hb.gr,hb.io⟩
 . cases h0
theorem WyM.mv{w2:World}{F2 T:List Nat}{PP:List (Nd × Nat)}{X:List (Nd × At)}{A B:Option Addr}{cA cB:Nat}(h:WyM W w w' z F' T PP X A B cA cB)(hm:Mv z w' w2 F' F2):WyM W w w2 z F2 T PP X A B cA cB:=by
 have hl:=fun x hx=>(h.lt x hx).2;have hs:=Mv.same hm hl h.ap;refine⟨h.x,VK.same h.va (hs.mono fun x hx=>h.tt x (by simp[hx])),VK.same h.vb (hs.mono fun x hx=>h.tt x (by simp[hx])),fun y hy=>?_,h.tt,Mv.apt hm hl h.ap,fun y hy=>⟨(h.lt y hy).1,Nat.lt_of_lt_of_le (h.lt y hy).2 hm.io.size⟩⟩;obtain⟨m,hm⟩:=h.fr y hy;exact⟨m,Sk.fD.same hm (hs.mono fun x hx=>h.tt x (List.mem_append.2 (.inr (List.mem_append.2 (.inr (List.mem_flatMap.2 ⟨y,hy,hx⟩))))))⟩
theorem WyM.kept{w2:World}{T:List Nat}{PP:List (Nd × Nat)}{X:List (Nd × At)}{A B:Option Addr}{cA cB:Nat}(h:WyM W w w' z F' T PP X A B cA cB)(hb:Bw w' w2):WyM W w w2 z F' T PP X A B cA cB:=h.mv (Mv.below z F' hb)
theorem StA.std(h:StA W w w' c z tb kp f K r s R t F'):∃r' s',Std W w' c z F' tb kp f (K+20) r' s' t:=⟨_,_,h.choose_spec.choose_spec.1⟩
end
def R3:Sp:=⟨none,0,[],none,0,[],none,0,[],none,0,[]⟩
theorem TU(w:World):SpW w R3:=⟨RdK.nil _ _,RdK.nil _ _,BL.nil _ _,BL.nil _ _⟩
theorem Mr(BB:List (List Nat))(key:ByteArray):(lJ [[ni]] BB key).map (·.1)=[ni]:=rfl
end Sk
end Go.Proofs.YtmcbidhpkpmalaaGreatDoor
namespace Go.Proofs.YtmcbidhpkpmalaaGreatDoor
open Go.RowKit
open List (flatMap_def foldl_cons getElem?_map getElem?_of_mem map mem_of_getElem?)
namespace Sk
open Mem Lx Bu Lf Fa No Sh Bt Po
theorem FP(key:ByteArray):∀(M:List Mg) (s:Option ByteArray),Ri M->M.foldl (Cg key) s=(match findD M key with|some m=>uO m|none=>s)
 |[],s,_=>rfl
 |m::M,s,h=>by
  obtain⟨h1,h2⟩:=List.pairwise_cons.1 h;rw[foldl_cons,FP key M _ h2];unfold findD;rw[List.find?_cons];by_cases e:m.1=key
  . rw[decide_eq_true e]
    have h3:M.find? (fun m=>decide (m.1=key))=none:=by
     rw[List.find?_eq_none];intro x hx hk;have h4:=h1 x hx;rw[e,of_decide_eq_true hk,bN]at h4;omega
    rw[h3];simp only[Cg,uO,if_pos e]
  . rw[decide_eq_false e]
    simp only[Cg,if_neg e]
section
variable{R0 R:List (List Nd)}{k:Nat}{key:ByteArray}{L0:List Pr}
theorem OnW.one{j i i':Nat}(h:OnW R key j i)(h':OnW R key j i'):i=i':=by
 have:=h.2.symm.trans h'.2;simpa using this
theorem wV{L:List Nd}:∀{M:List Nd},(∀n,n∈M->n.prs=[])->lK (L++M)=M.foldl (fun o n=>bQ o n.buf) (lK L)
 |[],_=>by simp
 |n::M,h=>by
  rw[show L++n::M=(L++[n])++M by simp,wV fun m hm=>h m (by simp[hm]),mU,h n (by simp),List.append_nil];rfl
theorem Ac:∀{M:List Nd} {o:List Pr},PRi o->PRi (M.foldl (fun o n=>bQ o n.buf) o)
 |[],_,h=>h
 |_::M,_,h=>Ac (M:=M) (PRi.apply h)
theorem Ae(key:ByteArray):∀{M:List Nd} {o:List Pr},PRi o->lq (M.foldl (fun o n=>bQ o n.buf) o) key=M.foldl (fun s n=>n.buf.foldl (Cg key) s) (lq o key)
 |[],o,_=>rfl
 |n::M,o,h=>by
  rw[foldl_cons,foldl_cons,Ae key (PRi.apply h),sH key h]
theorem Js(key:ByteArray)(s:Option ByteArray):∀{M:List Nd} {i:Nat} {n:Nd},M[i]? =some n->(∀(i':Nat) (n':Nd),M[i']? =some n'->Ri n'.buf/\∀m,m∈n'.buf->m.1=key->i'=i)->M.foldl (fun s n=>n.buf.foldl (Cg key) s) s=match findD n.buf key with
 |some m=>uO m
 |none=>s:=by
 have quiet:∀(n':Nd) (s:Option ByteArray),Ri n'.buf->(∀m,m∈n'.buf->m.1≠key)->n'.buf.foldl (Cg key) s=s:=fun n' s h1 h2=>by
  rw[FP key _ _ h1]
  have:findD n'.buf key=none:=by
   unfold findD;rw[List.find?_eq_none];exact fun x hx hk=>h2 x hx (of_decide_eq_true hk)
  rw[this]
 have rest:∀{M:List Nd} (s:Option ByteArray),(∀n',n'∈M->Ri n'.buf/\∀m,m∈n'.buf->m.1≠key)->M.foldl (fun s n=>n.buf.foldl (Cg key) s) s=s:=by
  intro M
  induction M with
  |nil=>exact fun s _=>rfl
  |cons n' M ih=>
   intro s h;rw[foldl_cons,quiet n' s (h n' (by simp)).1 (h n' (by simp)).2];exact ih s fun x hx=>h x (by simp[hx])
 intro M
 induction M generalizing s with
 |nil=>exact fun h=>by simp at h
 |cons n0 M ih=>
  intro i n hn h;rw[foldl_cons];cases i with
  |zero=>
   obtain rfl:n0=n:=(by simpa using hn);rw[rest,FP key _ _ (h 0 n0 rfl).1];intro n' hn';obtain⟨j,hj⟩:=getElem?_of_mem hn';obtain⟨h1,h2⟩:=h (j+1) n' (by simpa using hj);exact⟨h1,fun m hm e=>absurd (h2 m hm e) (by omega)⟩
  |succ i=>
   obtain⟨h1,h2⟩:=h 0 n0 rfl;rw[quiet n0 s h1 fun m hm e=>absurd (h2 m hm e) (by omega)]
   exact ih s (i:=i) (n:=n) (by simpa using hn) fun i' n' hn'=>by
    obtain⟨h3,h4⟩:=h (i'+1) n' (by simpa using hn');exact⟨h3,fun m hm e=>by have:=h4 m hm e;omega⟩
theorem yN:∀{T:List Nd},(∀n,n∈T->n.buf=[])->lK T=T.flatMap (·.prs):=by
 refine fun{T}=>kD (P:=fun T=>(∀n,n∈T->n.buf=[])->lK T=T.flatMap (·.prs)) (fun _=>rfl) (fun L n ih h=>?_) T;rw[mU,ih fun m hm=>h m (List.mem_append.2 (.inl hm)),h n (by simp)];simp[bQ]
theorem Af(hw:Wf R)(hw0:Wf R0)(hl:Lad R0 R k)(hp:∀(j:Nat) (T:List Nd),R[j+1]? =some T->∀n,n∈T->n.prs=[])(hL:PRi L0)(hfl:∀T,R[0]? =some T->T.flatMap (·.prs)=L0)(hlf:∀(T:List Nd) (l:Nat) (n:Nd),R[0]? =some T->T[l]? =some n->∀p,p∈n.prs->OnW R0 p.1 0 l)(key:ByteArray):∀(j i:Nat) (n:Nd) (T:List Nd),R[j]? =some T->T[i]? =some n->OnW R key j i->PRi (lK (R.take (j+1)).flatten)/\lq (lK (R.take (j+1)).flatten) key=nk (pth R key (j+1) i) key
 |0,i,n,T,hT,hn,ho=>by
  have hb:∀m,m∈T->m.buf=[]:=fun m hm=>by
   cases h:m.buf with
   |nil=>rfl
   |cons x r=>
    obtain⟨l,hl'⟩:=getElem?_of_mem hm;exact absurd (hl.pl 0 T l m hT hl' x (by simp[h])).1 (by omega)
  have e1:(R.take (0+1)).flatten=T:=by
   rw[mV hT];simp
  have e2:pth R key (0+1) i=[n]:=by
   show nodeAt R 0 i::[]=_;rw[bR hT hn]
  rw[e1,e2,yN hb,hfl T hT,mM (by rw[hb n (mem_of_getElem? hn)];rfl)];refine⟨hL,EH fun v=>?_⟩
  have hsub:∀p,p∈n.prs->p∈L0:=fun p h=>by
   rw[<-hfl T hT];exact List.mem_flatMap.2 ⟨n,mem_of_getElem? hn,h⟩
  have hnp:PRi n.prs:=by
   have h1:(T.flatMap (·.prs)).Pairwise fun a b=>aG a.1 b.1<0:=(by rw[hfl T hT];exact hL);rw[flatMap_def,List.pairwise_flatten]at h1;exact h1.1 _ (List.mem_map.2 ⟨n,mem_of_getElem? hn,rfl⟩)
  rw[hL.get,hnp.get];refine⟨fun h=>?_,hsub _⟩;rw[<-hfl T hT]at h;obtain⟨n',hn',h2⟩:=List.mem_flatMap.1 h;obtain⟨l,hl'⟩:=getElem?_of_mem hn';have h3:=hlf T l n' hT hl' _ h2;obtain rfl:=OnW.one h3 (hl.onW ho);rw[hn]at hl';cases hl'
  exact h2
 |j+1,i,n,T,hT,hn,ho=>by
  obtain⟨b,h1,h2,h3,T',n',hT',hn'⟩:=hw.gN (key:=key) ⟨T,n,hT,hn⟩;have ho':=ho.next;rw[h2]at ho';obtain⟨hP,hG⟩:=Af hw hw0 hl hp hL hfl hlf key j (b-1) n' T' hT' hn' ho';have e:(R.take (j+1+1)).flatten=(R.take (j+1)).flatten++T:=mV hT;have hno:=bR hT hn
  have e2:pth R key (j+1+1) i=n::pth R key (j+1) (b-1):=by
   show nodeAt R (j+1) i::pth R key (j+1) (gN (nodeAt R (j+1) i) key)=_;rw[h2,hno]
  rw[e,wV (hp j T hT),e2];refine⟨Ac hP,?_⟩;rw[Ae key hP,Js key _ hn fun i' n' hn'=>⟨(hl.few (j+1) T n' hT (mem_of_getElem? hn')).2.1,fun m hm em=>?_⟩,hG]
  . cases hf:findD n.buf key with
    |some m=>exact(iW hf).symm
    |none=>
     show nk (nodeAt R j (b-1)::_) key=nk (n::nodeAt R j (b-1)::_) key;rw[iX hf]
  . have h4:=(hl.pl (j+1) T i' n' hT hn' m hm).2
    rw[em]at h4;exact OnW.one h4 (hl.onW ho)
end
theorem Std.value{W w:World}{c:Cfg}{z:Ad}{F:List Nat}{tb:List Bool}{kp:Nat}{f:Nat->List UInt8}{K r s:Nat}{t:Td}(h:Std W w c z F tb kp f K r s t)(key:ByteArray):lq (lK (nds t.TT).flatten) key=nk ((lJ (nds t.TT) t.BB key).map (·.1)) key:=by
 obtain⟨lo,hi,hla,hlo,h7⟩:=h.la;have hw0:=h.wf0;have hsh:=h.ld.sh
 have hz:∀(T:List Nd),(nds t.TT)[0]? =some T->∃T0,t.R0[0]? =some T0/\T.map (·.prs)=T0.map (·.prs):=fun T hT=>by
  obtain⟨T0,hT0,hl,hs⟩:=hsh 0 T hT;refine⟨T0,hT0,List.ext_getElem? fun i=>?_⟩;rw[getElem?_map,getElem?_map];cases hi':T[i]? with
  |none=>
   have:T0[i]? =none:=by
    rw[List.getElem?_eq_none_iff]at hi' ⊢;omega
   rw[this]
  |some n=>
   obtain⟨n0,hn0,-,-,-,e⟩:=hs i n hi';rw[hn0];simp[e]
 have hr:=h.wf.root;obtain⟨T,n,hT,hn⟩:=hr;have hne:=h.wf.ne;have hv:=Af h.wf hw0.1 h.ld (L0:=t.L0) (fun j U hU m hm=>?_) h.ri (fun U hU=>?_) (fun U l m hU hm p hp=>?_) key _ 0 n T hT hn (OnW.root hne key)
 . rw[show(nds t.TT).length-1+1=(nds t.TT).length by omega,List.take_of_length_le (Nat.le_refl _)]at hv
   rw[hv.2]
   have e:∀L M:List Nd,L.map (fun n=>(n.buf,n.prs))=M.map (fun n=>(n.buf,n.prs))->nk L key=nk M key:=by
    intro L
    induction L with
    |nil=>
     intro M h;cases M with
     |nil=>rfl
     |cons _ _=>cases h
    |cons a L ih=>
     intro M h;cases M with
     |nil=>cases h
     |cons b M=>
      simp only[List.map_cons,List.cons.injEq,Prod.mk.injEq]at h;obtain⟨⟨e1,e2⟩,e3⟩:=h;have e4:=ih M e3;cases hf:findD a.buf key with
      |some m=>rw[iW hf,iW (by rw[<-e1];exact hf)]
      |none=>
       cases L with
       |nil=>
        cases M with
        |nil=>rw[mM hf,mM (by rw[<-e1];exact hf),e2]
        |cons _ _=>cases e3
       |cons a' L=>
        cases M with
        |nil=>cases e3
        |cons b' M=>rw[iX hf,iX (by rw[<-e1];exact hf),e4]
   refine e _ _ ?_;have h1:=congrArg (map fun x:Int × Nat × List ByteArray × List Mg × List Pr=>(x.2.2.2.1,x.2.2.2.2)) (Aa (R:=nds t.TT) (BB:=t.BB) (key:=key));simp only[List.map_map,Function.comp_def]at h1 ⊢;exact h1.symm
 . obtain⟨i,hi'⟩:=getElem?_of_mem hm
   obtain⟨D,-,-,hh⟩:=h.bk.pl h.fu h.bl ⟨U,m,hU,hi'⟩;have hl:=h.wf.lv _ U hU m hm;rw[bR hU hi']at hh;exact List.length_eq_zero_iff.1 (hh.rt.2.2 (by show m.lv≠0;omega)).2.prs
 . obtain⟨T0,hT0,e⟩:=hz U hU
   rw[<-hla.prs T0 hT0,flatMap_def,flatMap_def,e]
 . obtain⟨T0,hT0,e⟩:=hz U hU
   have e2:=congrArg (fun L=>L[l]?) e;simp only[getElem?_map,hm,Option.map_some]at e2;obtain⟨n0,hn0,e3⟩:=Option.map_eq_some_iff.1 e2.symm;exact hw0.2.2 T0 l n0 hT0 hn0 p (by rw[e3];exact hp)
end Sk
end Go.Proofs.YtmcbidhpkpmalaaGreatDoor
set_option maxHeartbeats 2000000
set_option maxRecDepth 100000
namespace Go.Proofs.YtmcbidhpkpmalaaGreatDoor
open Go.RowKit
open Go.Lib (hid)
namespace Sk
open Mem Lx Bu Lf Fa No Sh Bt Po
open Ca (upF)
theorem sN{w:World}(hT:Tab w):CB 8 #[] w (.bool true):=by
 have HX:Hid (aH 23 (w.alloc (.cells #[(9:Int),(200:Int),(8:Int),(8:Int),(16:Int),(16:Int),(2:Int),(1:Int)] 23)) w.heap.size (bC cLe)):=hid (aH.new 23 w (bC cLe));have HB:=hid (bJ w (.cells #[(9:Int),(200:Int),(8:Int),(8:Int),(16:Int),(16:Int),(2:Int),(1:Int)] 23));have cS:∀w1,Bw w w1->Hid (Calls Tryz.prog 7 #[.agg (bC cLe),.agg #[(),(),(),()]] w1 fun e w'=>StP w1 w' cLe R3 e):=fun w1 hb=>qY (TU w1) (hT.below hb)
 go_enter Tryz.func8,Tryz.ntmps8
 go_upto_region 2 with fail
 generalize (w.alloc (.cells #[(9:Int),(200:Int),(8:Int),(8:Int),(16:Int),(16:Int),(2:Int),(1:Int)] 23))=w1 at HX HB ⊢
 go_upto_region 5 with(first
  |(refine aO rfl (.tmp 1) 23 rfl Gm w.heap.size (bC cLe) (Gn rfl) rfl HX.out ?_)
  |(go_at_call 7;refine(cS _ HB.out).mono ?_;rintro e w2 ⟨-,(⟨-,h⟩|⟨z,F,tb,f,r,s,t,rfl,hs,-,hn⟩)⟩;(exact(h rfl rfl rfl).elim);have HS:=hid hs;have HN:=hid (hn rfl rfl);clear hs hn cS))
 have hT1:=hT.below HB.out;have cG:=HS.get hT1 (by decide) ⟨#[97]⟩ (by decide);rw[HN.out,Mr]at cG;have hv:nk [ni] ⟨#[97]⟩=none:=rfl;rw[hv]at cG;have CG:=hid cG;clear cG hv;go_upto_region 6 with(go_at_call 17;refine CG.mono ?_;rintro e w3 ⟨rfl,F3,h3,-⟩;have HS3:=hid h3.std;clear CG h3)
 obtain⟨r3,s3,hs3⟩:=HS3.out;have cP:=hs3.span hT1 (by decide) ⟨#[97]⟩;have hv:wS ⟨#[97]⟩ (yL (nds t.TT) ⟨#[97]⟩)=(⟨#[]⟩,⟨#[]⟩,true):=by rw[HN.out];rfl
 rw[hv]at cP;have CP:=hid cP;clear cP hv hs3;go_upto_region 7 with(go_at_call 10;refine CP.mono ?_;rintro e w4 ⟨rfl,F4,⟨R4,h4⟩,-⟩;have HS4:=hid h4.std;clear CP h4)
 obtain⟨r4,s4,hs4⟩:=HS4.out;have hb4:=(HB.trans (hs4.sv.below.mono HB.size)).trans ((bJ w4 (.cells #[.string ⟨#[]⟩,.string ⟨#[]⟩,.bool true] 41)).mono (Nat.le_trans HB.size hs4.sv.below.size));obtain⟨d0,d1,d2⟩:=bW (heap_alloc_new w4 (.cells #[.string ⟨#[]⟩,.string ⟨#[]⟩,.bool true] 41));have HB4:=hid hb4;generalize (w4.alloc (.cells #[.string ⟨#[]⟩,.string ⟨#[]⟩,.bool true] 41))=w5 at*;clear hs4 hb4 HS HS3 HS4;go_wp2_with fail
 go_ret
 exact⟨rfl,HB4.out⟩
end Sk
end Go.Proofs.YtmcbidhpkpmalaaGreatDoor
namespace Go.Proofs.YtmcbidhpkpmalaaGreatDoor
open Go.RowKit
namespace Sk
open Mem Lx Bu Lf Fa No Sh Bt Po
section
variable{c:Cfg}{f:Nat->List UInt8}{tb:List Bool}{R:List (List Nd)}{BB:List (List Nat)}{key o:ByteArray}
theorem Ag:∀(J i:Nat),(∀(d x:Nat),(ats R key J i)[d]? =some x->bX (nodeAt R (J-1-d) x).piv o=bX (nodeAt R (J-1-d) x).piv key)->ats R o J i=ats R key J i
 |0,_,_=>rfl
 |J+1,i,h=>by
  have h0:=h 0 i rfl
  have e:gN (nodeAt R J i) o=gN (nodeAt R J i) key:=by
   unfold gN;rw[show bX (nodeAt R J i).piv o=bX (nodeAt R J i).piv key from h0]
  unfold ats;rw[e,Ag J _ fun d x hx=>?_];have:=h (d+1) x (by unfold ats;rw[List.getElem?_cons_succ];exact hx);rw[show J+1-1-(d+1)=J-1-d by omega]at this;exact this
theorem Bks.inj(h:Bks c f tb R BB)(hf:Full R BB)(hl:BB.length=R.length){j i i':Nat}(hp:Pl R j i)(hp':Pl R j i')(e:lF BB j i=lF BB j i'):i=i':=by
 obtain⟨D,hD,hb,-⟩:=h.pl hf hl hp;obtain⟨D',hD',hb',-⟩:=h.pl hf hl hp';rw[<-e]at hb';exact(FH BB j i _ D j i' D' h.one hD hb hD' hb').2
theorem OX(hw:Wf R)(h:Bks c f tb R BB)(hf:Full R BB)(hl:BB.length=R.length)(key o:ByteArray):(inB (wS key (yL R key)).1 (wS key (yL R key)).2.1 (wS key (yL R key)).2.2 o=true)↔(lJ R BB key).map (·.2)=(lJ R BB o).map (·.2):=by
 have hP:=z8 hw h hf hl key
 rw[<-FM hw h hf hl,OV key o _ fun n hn=>by
  obtain⟨x,hx,rfl⟩:=List.mem_map.1 hn;obtain⟨d,hd⟩:=List.getElem?_of_mem hx
  exact(hP.at_ d x hd).pv.1]
 constructor
 . intro hall
   have e:ats R o R.length 0=ats R key R.length 0:=Ag _ _ fun d x hx=>by
    have h1:(lJ R BB key)[d]? =some (jw (prv BB (R.length-1-d)) (nodeAt R (R.length-1-d) x),lF BB (R.length-1-d) x):=by
     unfold lJ;rw[List.getElem?_mapIdx,hx];rfl
    have h2:=hall (jw _ _) (List.mem_map.2 ⟨_,List.mem_of_getElem? h1,rfl⟩);exact h2
   unfold lJ;rw[e]
 . intro hbl n hn
   obtain⟨x,hx,rfl⟩:=List.mem_map.1 hn;obtain⟨d,hd⟩:=List.getElem?_of_mem hx
   have hat:∀(d i i':Nat),(ats R key R.length 0)[d]? =some i->(ats R o R.length 0)[d]? =some i'->i=i':=fun d i i' h1 h2=>by
    have h3:=congrArg (fun L=>L[d]?) hbl;unfold lJ at h3;simp only[List.getElem?_map,List.getElem?_mapIdx,h1,h2,Option.map_some,Option.some.injEq]at h3;exact h.inj hf hl (jW hw h1).1 (jW hw h2).1 h3
   obtain⟨i,h1,rfl⟩:=nS hd;obtain⟨hp,hd2⟩:=jW hw h1;obtain⟨i',h1'⟩:∃i',(ats R o R.length 0)[d]? =some i':=⟨_,List.getElem?_eq_getElem (by rw[qX];exact hd2)⟩
   obtain rfl:=hat d i i' h1 h1';obtain⟨D,-,-,hh⟩:=h.pl hf hl hp;show bX (nodeAt R (R.length-1-d) i).piv o=bX (nodeAt R (R.length-1-d) i).piv key;rcases Nat.lt_or_ge (d+1) R.length with h4|h4
   . obtain⟨j,hj⟩:∃j,R.length-1-d=j+1:=⟨R.length-1-(d+1),by omega⟩
     have a1:=mR R key R.length 0 d i h4 h1;have a2:=mR R o R.length 0 d i h4 h1';have a3:=hat (d+1) _ _ a1 a2;rw[hj]at a3 hp hh ⊢;obtain⟨b,k1,k2,k3,-⟩:=hw.gN (key:=key) hp;obtain⟨b',m1,m2,m3,-⟩:=hw.gN (key:=o) hp;obtain rfl:b=b':=(by omega);obtain⟨T,n,hT,hn'⟩:=hp;have l1:=hw.lv _ T hT n (List.mem_of_getElem? hn');rw[<-bR hT hn']at l1;have hK:=(hh.rt.2.2 (by show(nodeAt R (j+1) i).lv≠0;omega)).2.kids
     have e1:(jw (prv BB (j+1)) (nodeAt R (j+1) i)).kids[bX (nodeAt R (j+1) i).piv key]? =some (((prv BB (j+1))[b-1]?).getD 0):=by
      show((nodeAt R (j+1) i).kids.map _)[_]? =_;rw[List.getElem?_map,k1];rfl
     have e2:(jw (prv BB (j+1)) (nodeAt R (j+1) i)).kids[bX (nodeAt R (j+1) i).piv o]? =some (((prv BB (j+1))[b-1]?).getD 0):=by
      show((nodeAt R (j+1) i).kids.map _)[_]? =_;rw[List.getElem?_map,m1];rfl
     rcases Nat.lt_trichotomy (bX (nodeAt R (j+1) i).piv o) (bX (nodeAt R (j+1) i).piv key)with h5|h5|h5
     . exact absurd rfl ((hK _ _ e1).2 _ _ h5 e2)
     . exact h5
     . exact absurd rfl ((hK _ _ e2).2 _ _ h5 e1)
   . have e0:R.length-1-d=0:=by omega
     rw[e0]at hp hh ⊢;obtain⟨T,n,hT,hn'⟩:=hp;have l1:=hw.lv _ T hT n (List.mem_of_getElem? hn');rw[<-bR hT hn']at l1;have hpv:(nodeAt R 0 i).piv=[]:=List.length_eq_zero_iff.1 (hh.rt.2.1 (by show(nodeAt R 0 i).lv=0;omega)).piv;rw[hpv];rfl
end
end Sk
end Go.Proofs.YtmcbidhpkpmalaaGreatDoor
namespace Go.Proofs.YtmcbidhpkpmalaaGreatDoor
open Go.RowKit
namespace Sk
open Mem Lx Bu Lf Fa No Sh Bt Po
theorem StP.val{w w':World}{c:Cfg}{x:Sp}{e:Ending}(h:StP w w' c x e):∃(P:Option Addr) (r0:Int) (A0:Option Addr) (n0 k0:Nat) (b0:Bool),e=.returned (.tuple #[.pointer P,.int .u32 r0,.slice A0 n0 k0,.bool b0]):=by
 rcases h.2 with⟨⟨_,_,_,_,h⟩,_⟩|⟨_,_,_,_,_,_,_,h,_⟩<;>exact⟨_,_,_,_,_,_,h⟩
theorem StP.OY{w w':World}{c:Cfg}{x:Sp}{P:Option Addr}{r0:Int}{A0:Option Addr}{n0 k0:Nat}{b0:Bool}(h:StP w w' c x (.returned (.tuple #[.pointer P,.int .u32 r0,.slice A0 n0 k0,.bool b0]))):b0=false\/∃z F tb f r s t,P=some ⟨z.p,0,none⟩/\r0=(t.root:Int)/\A0=t.A/\n0=t.TT.length/\k0=t.cc/\b0=true/\Std w w' c z F tb 0 f 150000 r s t/\Lt c:=by
 rcases h.2 with⟨⟨P',A',n',k',he⟩,-⟩|⟨z,F,tb,f,r,s,t,he,yM,hlt,-⟩
 . obtain⟨rfl,rfl,⟨rfl,rfl,rfl⟩,rfl⟩:P=P'/\r0=0/\(A0=A'/\n0=n'/\k0=k')/\b0=false:=by simpa using he
   exact .inl rfl
 . obtain⟨rfl,rfl,⟨rfl,rfl,rfl⟩,rfl⟩:P=some ⟨z.p,0,none⟩/\r0=(t.root:Int)/\(A0=t.A/\n0=t.TT.length/\k0=t.cc)/\b0=true:=by simpa using he
   exact .inr ⟨z,F,tb,f,r,s,t,rfl,rfl,rfl,rfl,rfl,rfl,yM,hlt⟩
end Sk
end Go.Proofs.YtmcbidhpkpmalaaGreatDoor
