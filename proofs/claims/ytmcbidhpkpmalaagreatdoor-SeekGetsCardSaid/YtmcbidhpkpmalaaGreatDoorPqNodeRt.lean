import Derived.Test.YtmcbidhpkpmalaaGreatDoorPkAM
set_option maxHeartbeats 4000000
set_option maxRecDepth 100000
namespace Go.Proofs.YtmcbidhpkpmalaaGreatDoor
open Go.RowKit
open Go.Lib (hid)
namespace No
open Mem Lx Bu Lf Fa
theorem Au(c:Cfg)(key:ByteArray)(W:World):CB 179 #[.agg (bC c),.string key] W (.bool (nH c key)):=by have HP:=hid (show nH c key=(decide (1<=(key.size:Int))&&decide ((key.size:Int)<=c.key))from rfl);generalize nH c key=v at*;unfold bC;obtain⟨cB,cY,cF,cN,cU,cL,cK,cV⟩:=c;simp only at*;by_cases h1:1<=(key.size:Int);(. have HR:Hid (v=decide ((key.size:Int)<=cK)):=hid (by rw[HP.out];simp[h1]);clear HP;go_enter Tryz.func179,Tryz.ntmps179;go_wp2_with fail;go_ret;exact⟨eP HR.symm,bAx⟩);. have HR:Hid (v=false):=hid (by rw[HP.out];simp[h1]);have h2:decide (1<=(key.size:Int))=false:=(by simpa using h1);clear HP h1;go_enter Tryz.func179,Tryz.ntmps179;go_wp2_with fail;go_ret;exact⟨eP HR.symm,bAx⟩
theorem oI(c:Cfg)(lo hi:ByteArray)(top:Bool)(key:ByteArray)(W:World):CB 175 #[.agg (bC c),bG lo hi top,.string key] W (.bool (nH c key&&inB lo hi top key)):=by
 have cK:=fun w=>hid (Au c key w);have cI:=fun w=>hid (JO lo hi top key w);unfold bG at cI ⊢;unfold bC at*;obtain⟨cB,cY,cF,cN,cU,cL,cKy,cV⟩:=c;simp only at*;generalize nH ⟨cB,cY,cF,cN,cU,cL,cKy,cV⟩ key=v at*;generalize inB lo hi top key=u at*;go_enter Tryz.func175,Tryz.ntmps175
 go_upto_region 1 with fail
 obtain⟨h0,h1,hb⟩:=eY W (.cells #[cB,cY,cF,cN,cU,cL,cKy,cV] 23) (.cells #[.string lo,.string hi,.bool top] 41);generalize (W.alloc (.cells #[cB,cY,cF,cN,cU,cL,cKy,cV] 23)).alloc (.cells #[.string lo,.string hi,.bool top] 41)=w1 at*;obtain⟨g,hg⟩:=eX W.heap.size;rw[<-hg]at h0 h1;simp only[<-hg];obtain⟨d0,d1,d2,d3,d4,d5,d6,d7⟩:=aU h0;have H1:=hid h1;have HB:=hid hb;clear h0 h1 hb hg;cases v with
 |false=>
  go_wp2_with (go_at_call 179;refine(cK _).mono ?_;rintro e w2 ⟨rfl,hb2⟩)
  go_ret
  exact⟨by simp,Cb HB.out hb2⟩
 |true=>
  go_wp2_with (first
   |(go_at_call 179;refine(cK _).mono ?_;rintro e w2 ⟨rfl,hb2⟩
     have HB2:=hid (Cb HB.out hb2);obtain⟨e0,e1,e2⟩:=bW (bT H1.out hb2)
     clear hb2 d0 d1 d2 d3 d4 d5 d6 d7)
   |(go_at_call 187;refine(cI _).mono ?_;rintro e w3 ⟨rfl,hb3⟩))
  go_ret
  exact⟨by simp,Cb HB2.out hb3⟩
structure B2(W:World)(g:Nat)(X Y:Obj)(w:World):Prop where
 below:Bw W w
 x:w.heap[g]? =some X
 y:w.heap[g+1]? =some Y
theorem B2.kept{W:World}{g:Nat}{X Y:Obj}{w w':World}(h:B2 W g X Y w)(hb:Bw w w'):B2 W g X Y w':=⟨Cb h.below hb,bT h.x hb,bT h.y hb⟩
theorem B2.new(W:World)(X Y:Obj):B2 W W.heap.size X Y ((W.alloc X).alloc Y):=by obtain⟨h1,h2,h3⟩:=eY W X Y;exact⟨h3,h1,h2⟩
theorem uW{W:World}(c:Cfg)(lo hi:ByteArray)(top:Bool){A:Option Addr}{cc:Nat}{L:List ByteArray}(h:SC W A cc L)(hl:L.length<=1000):Calls Tryz.prog 156 #[.agg (bC c),bG lo hi top,.slice A L.length cc] W fun e w'=>(∃v:Bool,e=.returned (.bool v)/\(v=true↔(∀p,p∈L->nH c p=true)/\kN L lo hi top))/\Bw W w':=by obtain⟨P,hP⟩:=eX (((∀p,p∈L->nH c p=true)/\kN L lo hi top):Prop);(have HNO:Hid (∀(k:Nat) (x:ByteArray),L[k]? =some x->nH c x=false->¬P):=fun k x hx hk hp=>by rw[hP]at hp;have:=hp.1 x (List.mem_of_getElem? hx);rw[hk]at this;cases this);(have xC:Hid ((∀(k:Nat) (x:ByteArray),k<L.length->L[k]? =some x->nH c x=true)->(P↔kN L lo hi top)):=fun hall=>by rw[hP];refine⟨fun h=>h.2,fun h=>⟨fun p hp=>?_,h⟩⟩;obtain⟨k,hk⟩:=List.mem_iff_getElem?.1 hp;exact hall k p (List.getElem?_eq_some_iff.1 hk).1 hk);rw[<-hP];have cK:=fun(key:ByteArray) (w:World)=>hid (Au c key w);have cR:=fun W1 (hb:Bw W W1)=>hid (Fa.Lh (h.kept hb) lo hi top (Nat.le_trans hl (by decide)));have HL:=hid h.1;obtain⟨n,hn⟩:=eX L.length;have HN:=hid hn;rw[<-hn]at hl cR xC ⊢;obtain⟨kf,hkf⟩:=eX (nH c);rw[<-hkf]at HNO xC cK;clear hP h hn hkf;unfold bG bC at*;obtain⟨cB,cY,cF,cN,cU,cL,cKy,cV⟩:=c;simp only at*;go_enter Tryz.func156,Tryz.ntmps156;go_upto_region 1 with fail;have hb2:=B2.new W (.cells #[cB,cY,cF,cN,cU,cL,cKy,cV] 23) (.cells #[.string lo,.string hi,.bool top] 41);generalize (W.alloc (.cells #[cB,cY,cF,cN,cU,cL,cKy,cV] 23)).alloc (.cells #[.string lo,.string hi,.bool top] 41)=w1 at*;obtain⟨g,hg⟩:=eX W.heap.size;rw[<-hg]at hb2;simp only[<-hg];have HB:=hid hb2;clear hb2 hg;go_wp2_with fail;go_loopg[11] n (fun gk iv wr=>∃k:Nat,k<=n/\gk=n-k/\iv= .int .i64 (k:Int)/\Hid (∀(i:Nat) (x:ByteArray),i<k->L[i]? =some x->kf x=true)/\Hid (B2 W g (.cells #[cB,cY,cF,cN,cU,cL,cKy,cV] 23 (0,0)) (.cells #[.string lo,.string hi,.bool top] 41 (0,0)) wr));(case atStart=>exact⟨0,Nat.zero_le _,rfl,rfl,fun i x h=>by omega,HB⟩);case round=>obtain⟨k,hk,rfl,rfl,HA,HB1⟩:=hrel;clear HB;by_cases hlt:k<n;(. (have hkL:k<L.length:=by rw[<-HN.out];exact hlt);obtain⟨x,hxx⟩:=eX (L[k]);have hx':=dM hkL;rw[<-hxx]at hx';have hw3:IntKind.i64.wrap ((k:Int)+1)=((k+1:Nat):Int):=(by rw[IntKind.wrap_i64];omega);obtain⟨b,o,e,-,c0⟩:=RdK.str (HL.kept HB1.below) hx';subst e;obtain⟨d0,d1,d2,d3,d4,d5,d6,d7⟩:=aU HB1.x;have cX:=fun w=>cK x w;cases hkx:kf x with|false=>have HNP:=hid (HNO.out k x hx' hkx);rw[hkx]at cX;clear hx' hxx hkx hkL;go_wp2_with (go_at_call 179;refine(cX _).mono ?_;rintro e w2 ⟨rfl,hb2⟩);go_ret;exact⟨⟨false,rfl,⟨(fun h=>by cases h),fun h=>absurd h HNP.out⟩⟩,Cb HB1.below hb2⟩|true=>(have HA2:Hid (∀(i:Nat) (y:ByteArray),i<k+1->L[i]? =some y->kf y=true):=fun i y hi hy=>by by_cases e:i=k;(. subst e;rw[hx']at hy;(cases hy);exact hkx);. exact HA.out i y (by omega) hy);rw[hkx]at cX;clear hx' hxx hkx hkL HA;go_wp2_with (go_at_call 179;refine(cX _).mono ?_;rintro e w2 ⟨rfl,hb2⟩);have HB3:=hid (HB1.kept hb2);clear hb2 d0 d1 d2 d3 d4 d5 d6 d7 c0 cX HB1;go_wp2_with fail;go_roundg (n-(k+1));(case measure=>omega);case rel=>exact⟨k+1,hlt,rfl,by go_num,HA2,HB3⟩);. (obtain rfl:k=n:=by omega);have HQ:=hid (xC.out HA.out);have cX:=cR _ HB1.below;obtain⟨e0,e1,e2⟩:=bW HB1.y;clear HA hlt cR xC HNO;unfold bG at cX;go_wp2_with (go_at_call 180;refine cX.mono ?_;rintro e w2 ⟨⟨v,rfl,hv⟩,hb2⟩);go_ret;exact⟨⟨v,rfl,hv.trans HQ.symm⟩,Cb HB1.below hb2⟩
theorem PZ{w:World}{b:Nat}{v0 v1:Value}{U:TypeId}(h:w.heap[b]? =some (.cells #[v0,v1] U (0,0))):w.cell? ⟨b,0,none⟩=some v0/\w.cell? ⟨b,1,none⟩=some v1:=by simp[World.cell?,h]
theorem xA{W:World}(c:Cfg)(lo hi:ByteArray)(top:Bool){A:Option Addr}{cc:Nat}{L:List Pr}(h:PC W A cc L)(hl:L.length<=1000):Calls Tryz.prog 154 #[.agg (bC c),bG lo hi top,.slice A L.length cc] W fun e w'=>(∃v:Bool,e=.returned (.bool v)/\(v=true↔(∀p,p∈L->Px c lo hi top p)/\(L.length:Int)<=c.leaf/\qp L))/\Bw W w':=by
 obtain⟨P,hP⟩:=eX (((∀p,p∈L->Px c lo hi top p)/\(L.length:Int)<=c.leaf/\qp L):Prop);obtain⟨kf,hkf⟩:∃kf:Pr->Bool,kf=fun p=>nH c p.1&&inB lo hi top p.1:=⟨_,rfl⟩
 have HNO:Hid (∀(k:Nat) (x:Pr),L[k]? =some x->(kf x=false\/c.val<(x.2.size:Int))->¬P):=fun k x hx hk hp=>by
  rw[hP]at hp;have h1:=hp.1 x (List.mem_of_getElem? hx);rcases hk with hk|hk
  . rw[hkf]at hk
    simp only[h1.1,h1.2.1,Bool.and_self]at hk;cases hk
  . exact absurd h1.2.2 (by omega)
 have xC:Hid ((∀(k:Nat) (x:Pr),k<L.length->L[k]? =some x->kf x=true/\(x.2.size:Int)<=c.val)->(P↔(L.length:Int)<=c.leaf/\qp L)):=fun hall=>by
  rw[hP];refine⟨fun h=>h.2,fun h=>⟨fun p hp=>?_,h⟩⟩;obtain⟨k,hk⟩:=List.mem_iff_getElem?.1 hp;have h1:=hall k p (List.getElem?_eq_some_iff.1 hk).1 hk;rw[hkf]at h1;simp only[Bool.and_eq_true]at h1;exact⟨h1.1.1,h1.1.2,h1.2⟩
 rw[<-hP]
 have cS:∀(x:Pr) (w:World),Hid (CB 175 #[.agg (bC c),bG lo hi top,.string x.1] w (.bool (kf x))):=fun x w=>by
  rw[hkf];exact oI c lo hi top x.1 w
 have cR:=fun W1 (hb:Bw W W1)=>hid (Lf.qF (c:=cc) (h.1.kept hb) (Nat.le_trans hl (by decide)));have HL:Hid (PC W A cc L):=h;obtain⟨n,hn⟩:=eX L.length;have HN:=hid hn;rw[<-hn]at hl cR xC ⊢;clear hP h hn hkf;unfold bG bC at*;obtain⟨cB,cY,cF,cN,cU,cL,cKy,cV⟩:=c;simp only at*;go_enter Tryz.func154,Tryz.ntmps154
 go_upto_region 1 with fail
 have hb2:=B2.new W (.cells #[cB,cY,cF,cN,cU,cL,cKy,cV] 23) (.cells #[.string lo,.string hi,.bool top] 41);generalize (W.alloc (.cells #[cB,cY,cF,cN,cU,cL,cKy,cV] 23)).alloc (.cells #[.string lo,.string hi,.bool top] 41)=w1 at*;obtain⟨g,hg⟩:=eX W.heap.size;rw[<-hg]at hb2;simp only[<-hg];have HB:=hid hb2;clear hb2 hg;go_wp2_with fail
 go_loopg[11] n (fun gk iv wr=>∃k:Nat,k<=n/\gk=n-k/\iv= .int .i64 (k:Int)/\Hid (∀(i:Nat) (x:Pr),i<k->L[i]? =some x->kf x=true/\(x.2.size:Int)<=cV)/\Hid (B2 W g (.cells #[cB,cY,cF,cN,cU,cL,cKy,cV] 23 (0,0)) (.cells #[.string lo,.string hi,.bool top] 41 (0,0)) wr))
 case atStart=>exact⟨0,Nat.zero_le _,rfl,rfl,fun i x h=>by omega,HB⟩
 case round=>
  obtain⟨k,hk,rfl,rfl,HA,HB1⟩:=hrel;clear HB;by_cases hlt:k<n
  . have hkL:k<L.length:=by rw[<-HN.out];exact hlt
    obtain⟨x,hxx⟩:=eX (L[k]);have hx':=dM hkL;rw[<-hxx]at hx';have hw3:IntKind.i64.wrap ((k:Int)+1)=((k+1:Nat):Int):=(by rw[IntKind.wrap_i64];omega);obtain⟨b,o,e,-,c0,c1⟩:=RdK.pair (HL.1.kept HB1.below) hx';subst e;have cX:=fun w=>cS x w;have HX:=hid hx';clear hxx hx' hkL;go_upto_region 4 with fail
    have hb4:Bw wr (wr.alloc (.cells #[.string x.1,.string x.2] 71)):=bAx;have hx4:=heap_alloc_new wr (.cells #[.string x.1,.string x.2] 71);have HB4:=hid (HB1.kept hb4);generalize wr.alloc (.cells #[.string x.1,.string x.2] 71)=w4 at*;obtain⟨q,hq⟩:=eX wr.heap.size;rw[<-hq]at hx4;simp only[<-hq];have HX4:=hid hx4;clear hq hx4 hb4 HB1 c0 c1;obtain⟨d0,d1,d2,d3,d4,d5,d6,d7⟩:=aU HB4.x;obtain⟨s0,s1,s2⟩:=bW HB4.y;obtain⟨p0,p1⟩:=PZ HX4.out;cases hkx:kf x with
    |false=>
     rw[hkx]at cX;have HNP:=hid (HNO.out k x HX.out (.inl hkx))
     go_wp2_with (first
      |(go_at_call 175;refine(cX _).mono ?_;rintro e w5 ⟨rfl,hb5⟩
        have HB5:=hid (HB4.kept hb5);have HX5:=hid (bT HX4.out hb5);have f7:=(aU HB5.x).2.2.2.2.2.2.2;obtain⟨r0,r1⟩:=PZ HX5.out
        clear hb5 d0 d1 d2 d3 d4 d5 d6 d7 s0 s1 s2 p0 p1))
     go_ret
     exact⟨⟨false,rfl,⟨(fun h=>by cases h),fun h=>absurd h HNP.out⟩⟩,HB5.below⟩
    |true=>
     rw[hkx]at cX;by_cases hsz:(x.2.size:Int)<=cV
     case neg=>
      have hsz':cV<(x.2.size:Int):=(by omega);have HNP:=hid (HNO.out k x HX.out (.inr hsz'))
      go_wp2_with (first
       |(go_at_call 175;refine(cX _).mono ?_;rintro e w5 ⟨rfl,hb5⟩
         have HB5:=hid (HB4.kept hb5);have HX5:=hid (bT HX4.out hb5);have f7:=(aU HB5.x).2.2.2.2.2.2.2;obtain⟨r0,r1⟩:=PZ HX5.out
         clear hb5 d0 d1 d2 d3 d4 d5 d6 d7 s0 s1 s2 p0 p1))
      go_ret
      exact⟨⟨false,rfl,⟨(fun h=>by cases h),fun h=>absurd h HNP.out⟩⟩,HB5.below⟩
     have HA2:Hid (∀(i:Nat) (y:Pr),i<k+1->L[i]? =some y->kf y=true/\(y.2.size:Int)<=cV):=fun i y hi hy=>by
      by_cases e:i=k
      . subst e
        have:=HX.out;rw[this]at hy;(cases hy);exact⟨hkx,hsz⟩
      . exact HA.out i y (by omega) hy
     have hsz2:¬(cV<(x.2.size:Int)):=by omega
     go_wp2_with (first
      |(go_at_call 175;refine(cX _).mono ?_;rintro e w5 ⟨rfl,hb5⟩
        have HB5:=hid (HB4.kept hb5);have HX5:=hid (bT HX4.out hb5);have f7:=(aU HB5.x).2.2.2.2.2.2.2;obtain⟨r0,r1⟩:=PZ HX5.out
        clear hb5 d0 d1 d2 d3 d4 d5 d6 d7 s0 s1 s2 p0 p1))
     go_roundg (n-(k+1))
     case measure=>omega
     case rel=>exact⟨k+1,hlt,rfl,by go_num,HA2,HB5⟩
  . obtain rfl:k=n:=by omega
    have HQ:=hid (xC.out HA.out);have cX:=cR _ HB1.below;obtain⟨d0,d1,d2,d3,d4,d5,d6,d7⟩:=aU HB1.x;clear HA hlt cR xC HNO;by_cases hlim:(k:Int)<=cL
    . have HQ2:Hid (P↔qp L):=HQ.trans ⟨fun h=>h.2,fun h=>⟨hlim,h⟩⟩
      clear HQ;go_wp2_with (go_at_call 176;refine cX.mono ?_;rintro e w2 ⟨⟨v,rfl,hv⟩,hb2⟩)
      go_ret
      exact⟨⟨v,rfl,hv.trans HQ2.symm⟩,Cb HB1.below hb2⟩
    . have HNP:Hid (¬P):=fun h=>hlim (HQ.1 h).1
      have hd:decide ((k:Int)<=cL)=false:=(by simpa using hlim);clear HQ;go_wp2_with fail
      go_ret
      exact⟨.inl ⟨rfl,HNP.out⟩,HB1.below⟩
theorem BX{W:World}(c:Cfg)(lo hi:ByteArray)(top:Bool){A:Option Addr}{cc:Nat}{L:List Mg}(h:RC MgK W A cc L)(hl:L.length<=1000)(hk:∀m,m∈L->m.1.size<=maxLen):Calls Tryz.prog 157 #[.agg (bC c),bG lo hi top,.slice A L.length cc] W fun e w'=>(∃v:Bool,e=.returned (.bool v)/\(v=true↔(∀p,p∈L->Py c lo hi top p)/\(L.length:Int)<=c.buffer/\Bu.Gj L))/\Bw W w':=by
 obtain⟨P,hP⟩:=eX (((∀p,p∈L->Py c lo hi top p)/\(L.length:Int)<=c.buffer/\Bu.Gj L):Prop);obtain⟨kf,hkf⟩:∃kf:Mg->Bool,kf=fun p=>nH c p.1&&inB lo hi top p.1:=⟨_,rfl⟩
 have HNO:Hid (∀(k:Nat) (x:Mg),L[k]? =some x->(kf x=false\/c.val<(x.2.2.size:Int)\/(x.2.1=true/\x.2.2≠⟨#[]⟩))->¬P):=fun k x hx hk hp=>by
  rw[hP]at hp;have h1:=hp.1 x (List.mem_of_getElem? hx);rcases hk with hk|hk
  . rw[hkf]at hk
    simp only[h1.1,h1.2.1,Bool.and_self]at hk;cases hk
  . rcases hk with hk|hk
    . exact absurd h1.2.2.1 (by omega)
    . exact h1.2.2.2 hk
 have xC:Hid ((∀(k:Nat) (x:Mg),k<L.length->L[k]? =some x->kf x=true/\(x.2.2.size:Int)<=c.val/\¬(x.2.1=true/\x.2.2≠⟨#[]⟩))->(P↔(L.length:Int)<=c.buffer/\Bu.Gj L)):=fun hall=>by
  rw[hP];refine⟨fun h=>h.2,fun h=>⟨fun p hp=>?_,h⟩⟩;obtain⟨k,hk⟩:=List.mem_iff_getElem?.1 hp;have h1:=hall k p (List.getElem?_eq_some_iff.1 hk).1 hk;rw[hkf]at h1;simp only[Bool.and_eq_true]at h1;exact⟨h1.1.1,h1.1.2,h1.2.1,h1.2.2⟩
 rw[<-hP]
 have cS:∀(x:Mg) (w:World),Hid (CB 175 #[.agg (bC c),bG lo hi top,.string x.1] w (.bool (kf x))):=fun x w=>by
  rw[hkf];exact oI c lo hi top x.1 w
 have cR:=fun W1 (hb:Bw W W1)=>hid (Bu.qF (c:=cc) (h.1.kept hb) hk (Nat.le_trans hl (by decide)));have HL:Hid (RC MgK W A cc L):=h;obtain⟨n,hn⟩:=eX L.length;have HN:=hid hn;rw[<-hn]at hl cR xC ⊢;clear hP h hn hkf;unfold bG bC at*;obtain⟨cB,cY,cF,cN,cU,cL,cKy,cV⟩:=c;simp only at*;go_enter Tryz.func157,Tryz.ntmps157
 go_upto_region 1 with fail
 have hb2:=B2.new W (.cells #[cB,cY,cF,cN,cU,cL,cKy,cV] 23) (.cells #[.string lo,.string hi,.bool top] 41);generalize (W.alloc (.cells #[cB,cY,cF,cN,cU,cL,cKy,cV] 23)).alloc (.cells #[.string lo,.string hi,.bool top] 41)=w1 at*;obtain⟨g,hg⟩:=eX W.heap.size;rw[<-hg]at hb2;simp only[<-hg];have HB:=hid hb2;clear hb2 hg;go_wp2_with fail
 go_loopg[11] n (fun gk iv wr=>∃k:Nat,k<=n/\gk=n-k/\iv= .int .i64 (k:Int)/\Hid (∀(i:Nat) (x:Mg),i<k->L[i]? =some x->kf x=true/\(x.2.2.size:Int)<=cV/\¬(x.2.1=true/\x.2.2≠⟨#[]⟩))/\Hid (B2 W g (.cells #[cB,cY,cF,cN,cU,cL,cKy,cV] 23 (0,0)) (.cells #[.string lo,.string hi,.bool top] 41 (0,0)) wr))
 case atStart=>exact⟨0,Nat.zero_le _,rfl,rfl,fun i x h=>by omega,HB⟩
 case round=>
  obtain⟨k,hk,rfl,rfl,HA,HB1⟩:=hrel;clear HB;by_cases hlt:k<n
  . have hkL:k<L.length:=by rw[<-HN.out];exact hlt
    obtain⟨x,hxx⟩:=eX (L[k]);have hx':=dM hkL;rw[<-hxx]at hx';have hw3:IntKind.i64.wrap ((k:Int)+1)=((k+1:Nat):Int):=(by rw[IntKind.wrap_i64];omega);obtain⟨b,o,e,-,c0,c1,c2⟩:=RdK.msg (HL.1.kept HB1.below) hx';subst e;have cX:=fun w=>cS x w;have HX:=hid hx';clear hxx hx' hkL;go_upto_region 4 with fail
    have hb4:Bw wr (wr.alloc (.cells #[.string x.1,.bool x.2.1,.string x.2.2] 73)):=bAx;have hx4:=heap_alloc_new wr (.cells #[.string x.1,.bool x.2.1,.string x.2.2] 73);have HB4:=hid (HB1.kept hb4);generalize wr.alloc (.cells #[.string x.1,.bool x.2.1,.string x.2.2] 73)=w4 at*;obtain⟨q,hq⟩:=eX wr.heap.size;rw[<-hq]at hx4;simp only[<-hq];have HX4:=hid hx4;clear hq hx4 hb4 HB1 c0 c1 c2;obtain⟨d0,d1,d2,d3,d4,d5,d6,d7⟩:=aU HB4.x;obtain⟨s0,s1,s2⟩:=bW HB4.y;obtain⟨p0,p1,p2⟩:=bW HX4.out;cases hkx:kf x with
    |false=>
     rw[hkx]at cX;have HNP:=hid (HNO.out k x HX.out (.inl hkx))
     go_wp2_with (first
      |(go_at_call 175;refine(cX _).mono ?_;rintro e w5 ⟨rfl,hb5⟩
        have HB5:=hid (HB4.kept hb5);have HX5:=hid (bT HX4.out hb5);have f7:=(aU HB5.x).2.2.2.2.2.2.2;obtain⟨r0,r1,r2⟩:=bW HX5.out
        clear hb5 d0 d1 d2 d3 d4 d5 d6 d7 s0 s1 s2 p0 p1 p2))
     go_ret
     exact⟨⟨false,rfl,⟨(fun h=>by cases h),fun h=>absurd h HNP.out⟩⟩,HB5.below⟩
    |true=>
     rw[hkx]at cX;by_cases hsz:(x.2.2.size:Int)<=cV
     case neg=>
      have hsz':cV<(x.2.2.size:Int):=(by omega);have HNP:=hid (HNO.out k x HX.out (.inr (.inl hsz')))
      go_wp2_with (first
       |(go_at_call 175;refine(cX _).mono ?_;rintro e w5 ⟨rfl,hb5⟩
         have HB5:=hid (HB4.kept hb5);have HX5:=hid (bT HX4.out hb5);have f7:=(aU HB5.x).2.2.2.2.2.2.2;obtain⟨r0,r1,r2⟩:=bW HX5.out
         clear hb5 d0 d1 d2 d3 d4 d5 d6 d7 s0 s1 s2 p0 p1 p2))
      go_ret
      exact⟨⟨false,rfl,⟨(fun h=>by cases h),fun h=>absurd h HNP.out⟩⟩,HB5.below⟩
     have hsz2:¬(cV<(x.2.2.size:Int)):=(by omega);have HSZ:=hid hsz;cases hdl:x.2.1 with
     |false=>
      rw[hdl]at HX4 p1
      have HA2:Hid (∀(i:Nat) (y:Mg),i<k+1->L[i]? =some y->kf y=true/\(y.2.2.size:Int)<=cV/\¬(y.2.1=true/\y.2.2≠⟨#[]⟩)):=fun i y hi hy=>by
       by_cases e:i=k
       . subst e
         have:=HX.out;rw[this]at hy;(cases hy);exact⟨hkx,HSZ.out,fun h=>by rw[hdl]at h;cases h.1⟩
       . exact HA.out i y (by omega) hy
      go_wp2_with (first
       |(go_at_call 175;refine(cX _).mono ?_;rintro e w5 ⟨rfl,hb5⟩
         have HB5:=hid (HB4.kept hb5);have HX5:=hid (bT HX4.out hb5);have f7:=(aU HB5.x).2.2.2.2.2.2.2;obtain⟨r0,r1,r2⟩:=bW HX5.out
         clear hb5 d0 d1 d2 d3 d4 d5 d6 d7 s0 s1 s2 p0 p1 p2))
      go_roundg (n-(k+1))
      case measure=>omega
      case rel=>exact⟨k+1,hlt,rfl,by go_num,HA2,HB5⟩
     |true=>
      rw[hdl]at HX4 p1;by_cases hve:x.2.2=⟨#[]⟩
      . have hv2:x.2.2.toList.isEmpty=true:=by rw[isEmpty_eq];simpa using hve
        have HA2:Hid (∀(i:Nat) (y:Mg),i<k+1->L[i]? =some y->kf y=true/\(y.2.2.size:Int)<=cV/\¬(y.2.1=true/\y.2.2≠⟨#[]⟩)):=fun i y hi hy=>by
         by_cases e:i=k
         . subst e
           have:=HX.out;rw[this]at hy;(cases hy);exact⟨hkx,HSZ.out,fun h=>h.2 hve⟩
         . exact HA.out i y (by omega) hy
        go_wp2_with (first
         |(go_at_call 175;refine(cX _).mono ?_;rintro e w5 ⟨rfl,hb5⟩
           have HB5:=hid (HB4.kept hb5);have HX5:=hid (bT HX4.out hb5);have f7:=(aU HB5.x).2.2.2.2.2.2.2;obtain⟨r0,r1,r2⟩:=bW HX5.out
           clear hb5 d0 d1 d2 d3 d4 d5 d6 d7 s0 s1 s2 p0 p1 p2))
        go_roundg (n-(k+1))
        case measure=>omega
        case rel=>exact⟨k+1,hlt,rfl,by go_num,HA2,HB5⟩
      . have hv2:x.2.2.toList.isEmpty=false:=by rw[isEmpty_eq];simpa using hve
        have HNP:=hid (HNO.out k x HX.out (.inr (.inr ⟨hdl,hve⟩)))
        go_wp2_with (first
         |(go_at_call 175;refine(cX _).mono ?_;rintro e w5 ⟨rfl,hb5⟩
           have HB5:=hid (HB4.kept hb5);have HX5:=hid (bT HX4.out hb5);have f7:=(aU HB5.x).2.2.2.2.2.2.2;obtain⟨r0,r1,r2⟩:=bW HX5.out
           clear hb5 d0 d1 d2 d3 d4 d5 d6 d7 s0 s1 s2 p0 p1 p2))
        go_ret
        exact⟨⟨false,rfl,⟨(fun h=>by cases h),fun h=>absurd h HNP.out⟩⟩,HB5.below⟩
  . obtain rfl:k=n:=by omega
    have HQ:=hid (xC.out HA.out);have cX:=cR _ HB1.below;obtain⟨d0,d1,d2,d3,d4,d5,d6,d7⟩:=aU HB1.x;clear HA hlt cR xC HNO;by_cases hlim:(k:Int)<=cU
    . have HQ2:Hid (P↔Bu.Gj L):=HQ.trans ⟨fun h=>h.2,fun h=>⟨hlim,h⟩⟩
      clear HQ;go_wp2_with (go_at_call 181;refine cX.mono ?_;rintro e w2 ⟨⟨v,rfl,hv⟩,hb2⟩)
      go_ret
      exact⟨⟨v,rfl,hv.trans HQ2.symm⟩,Cb HB1.below hb2⟩
    . have HNP:Hid (¬P):=fun h=>hlim (HQ.1 h).1
      have hd:decide ((k:Int)<=cU)=false:=(by simpa using hlim);clear HQ;go_wp2_with fail
      go_ret
      exact⟨.inl ⟨rfl,HNP.out⟩,HB1.below⟩
end No
end Go.Proofs.YtmcbidhpkpmalaaGreatDoor
