import Derived.Test.YtmcbidhpkpmalaaGreatDoorPqNodeRt
set_option maxHeartbeats 8000000
set_option maxRecDepth 100000
namespace Go.Proofs.YtmcbidhpkpmalaaGreatDoor
open Go.RowKit
open Go.Lib (hid)
namespace No
open Mem Lx Bu Lf Fa
def Fe(c:Cfg)(K:List Nat):Prop:=1<=K.length/\(K.length:Int)<=c.fan/\zx c K
theorem BF{W:World}(c:Cfg)(lo hi:ByteArray)(top:Bool){n:Nd}{a:At}(h:vw W n a)(hf:Sz n)(hk8:n.kids.length<=80)(Pf:∀W1,Bw W W1->Calls Tryz.prog 155 #[.agg (bC c),.slice a.kA n.kids.length a.kc] W1 fun e w'=>(∃v:Bool,e=.returned (.bool v)/\(v=true↔Fe c n.kids))/\Bw W1 w'):Calls Tryz.prog 121 #[.agg (bC c),bG lo hi top,.agg (dO n a)] W fun e w'=>(∃v:Bool,e=.returned (.bool v)/\(v=true↔jR c lo hi top n))/\Bw W w':=by
 obtain⟨b4,hb4⟩:=jg ((∀p,p∈n.prs->Px c lo hi top p)/\(n.prs.length:Int)<=c.leaf/\qp n.prs);obtain⟨b5,hb5⟩:=jg (Fe c n.kids);obtain⟨b6,hb6⟩:=jg ((∀p,p∈n.piv->nH c p=true)/\kN n.piv lo hi top);obtain⟨b7,hb7⟩:=jg ((∀p,p∈n.buf->Py c lo hi top p)/\(n.buf.length:Int)<=c.buffer/\Bu.Gj n.buf);have c4:∀W1,Bw W W1->Hid (CB 154 #[.agg (bC c),bG lo hi top,.slice a.qA n.prs.length a.qc] W1 (.bool b4)):=fun W1 hb=>(xA (W:=W1) c lo hi top (h.kept hb).prs hf.ql).mono fun e w' ⟨⟨v,he,hv⟩,hb⟩=>⟨by rw[he,mg hv hb4],hb⟩
 have c5:∀W1,Bw W W1->Hid (CB 155 #[.agg (bC c),.slice a.kA n.kids.length a.kc] W1 (.bool b5)):=fun W1 hb=>(Pf W1 hb).mono fun e w' ⟨⟨v,he,hv⟩,hb⟩=>⟨by rw[he,mg hv hb5],hb⟩
 have c6:∀W1,Bw W W1->Hid (CB 156 #[.agg (bC c),bG lo hi top,.slice a.pA n.piv.length a.pc] W1 (.bool b6)):=fun W1 hb=>(uW (W:=W1) c lo hi top (h.kept hb).piv hf.pl).mono fun e w' ⟨⟨v,he,hv⟩,hb⟩=>⟨by rw[he,mg hv hb6],hb⟩
 have c7:∀W1,Bw W W1->Hid (CB 157 #[.agg (bC c),bG lo hi top,.slice a.bA n.buf.length a.bc] W1 (.bool b7)):=fun W1 hb=>(BX (W:=W1) c lo hi top (h.kept hb).buf hf.bl hf.buf).mono fun e w' ⟨⟨v,he,hv⟩,hb⟩=>⟨by rw[he,mg hv hb7],hb⟩
 have HO:Hid (n.lv=0->∀v:Bool,(v=true↔n.kids.length=0/\n.piv.length=0/\n.buf.length=0/\b4=true)->(v=true↔jR c lo hi top n)):=fun h0 v hv=>by
  rw[hv,hb4];constructor
  . rintro⟨h1,h2,h3,h4,h5,h6⟩
    exact⟨fun _=>⟨h4,h1,h2,h3,h5,h6⟩,fun hn=>absurd h0 hn⟩
  . rintro⟨h1,-⟩
    obtain⟨g1,g2,g3,g4,g5,g6⟩:=h1 h0;exact⟨g2,g3,g4,g1,g5,g6⟩
 have HI:Hid (n.lv≠0->∀v:Bool,(v=true↔1<=n.lv/\n.lv<=40/\n.prs.length=0/\b5=true/\n.piv.length+1=n.kids.length/\b6=true/\b7=true)->(v=true↔jR c lo hi top n)):=fun h0 v hv=>by
  rw[hv,hb5,hb6,hb7];constructor
  . rintro⟨h1,h2,h3,⟨k1,k2,k3⟩,h5,⟨p1,p2⟩,m1,m2,m3⟩
    exact⟨fun hn=>absurd hn h0,fun _=>⟨by omega,k3,p1,m1,h2,h3,k1,k2,h5,p2,m2,m3⟩⟩
  . rintro⟨-,h1⟩
    obtain⟨g0,g⟩:=h1 h0;exact⟨by omega,g.lv,g.prs,⟨g.one,g.fan,g.kids⟩,g.fewer,⟨g.piv,g.right⟩,g.buf,g.few,g.rise⟩
 have HK1:Hid (b5=true->1<=n.kids.length):=fun h=>(hb5.1 h).1;have HKL:Hid (n.kids.length<=80/\n.piv.length<=1000):=⟨hk8,hf.pl⟩;generalize hPP:jR c lo hi top n=PP at*;clear hPP h hf hk8 Pf hb4 hb5 hb6 hb7;unfold bG dO bC at*;obtain⟨cB,cY,cF,cN,cU,cL,cKy,cV⟩:=c;obtain⟨lv,K,P,B,Q⟩:=n;obtain⟨kA,kc,pA,pc,bA,bc,qA,qc⟩:=a;simp only at*;generalize K.length=kn at*;generalize P.length=pn at*;generalize B.length=bn at*;generalize Q.length=qn at*;go_enter Tryz.func121,Tryz.ntmps121
 go_upto_region 1 with fail
 have h3:=B3.new W (.cells #[cB,cY,cF,cN,cU,cL,cKy,cV] 23) (.cells #[.string lo,.string hi,.bool top] 41) (.cells #[lv,.slice kA kn kc,.slice pA pn pc,.slice bA bn bc,.slice qA qn qc] 50);generalize ((W.alloc (.cells #[cB,cY,cF,cN,cU,cL,cKy,cV] 23)).alloc (.cells #[.string lo,.string hi,.bool top] 41)).alloc (.cells #[lv,.slice kA kn kc,.slice pA pn pc,.slice bA bn bc,.slice qA qn qc] 50)=w1 at*;obtain⟨g,hg⟩:=eX W.heap.size;rw[<-hg]at h3;simp only[<-hg];have HB:=hid h3;clear h3 hg;obtain⟨d0,d1,d2,d3,d4,d5,d6,d7⟩:=aU HB.x;obtain⟨s0,s1,s2⟩:=bW HB.y;obtain⟨n0,n1,n2,n3,n4⟩:=bD HB.z;by_cases hlv:lv=0
 . have HO2:=hid (HO.out hlv)
   clear HI HO HK1 HKL;subst hlv;by_cases h1:kn=0
   case neg=>
    have h1':((kn:Int)==0)=false:=(by simpa using h1);have HF:Hid (false=true↔PP):=HO2.out false ⟨(fun h=>by cases h),fun h=>by simp_all⟩;have HNP:Hid (¬PP):=fun hp=>by cases HF.2 hp
    go_wp2_with (first
     |(go_at_call 154;refine(c4 _ HB.below).mono ?_;rintro e w2 ⟨rfl,hb⟩
       replace HB:=hid (HB.kept hb);clear hb d0 d1 d2 d3 d4 d5 d6 d7 s0 s1 s2 n0 n1 n2 n3 n4;obtain⟨d0,d1,d2,d3,d4,d5,d6,d7⟩:=aU HB.x;obtain⟨s0,s1,s2⟩:=bW HB.y
       obtain⟨n0,n1,n2,n3,n4⟩:=bD HB.z)
     |(go_at_call 155;refine(c5 _ HB.below).mono ?_;rintro e w2 ⟨rfl,hb⟩
       replace HB:=hid (HB.kept hb);clear hb d0 d1 d2 d3 d4 d5 d6 d7 s0 s1 s2 n0 n1 n2 n3 n4;obtain⟨d0,d1,d2,d3,d4,d5,d6,d7⟩:=aU HB.x;obtain⟨s0,s1,s2⟩:=bW HB.y
       obtain⟨n0,n1,n2,n3,n4⟩:=bD HB.z)
     |(go_at_call 156;refine(c6 _ HB.below).mono ?_;rintro e w2 ⟨rfl,hb⟩
       replace HB:=hid (HB.kept hb);clear hb d0 d1 d2 d3 d4 d5 d6 d7 s0 s1 s2 n0 n1 n2 n3 n4;obtain⟨d0,d1,d2,d3,d4,d5,d6,d7⟩:=aU HB.x;obtain⟨s0,s1,s2⟩:=bW HB.y
       obtain⟨n0,n1,n2,n3,n4⟩:=bD HB.z)
     |(go_at_call 157;refine(c7 _ HB.below).mono ?_;rintro e w2 ⟨rfl,hb⟩
       replace HB:=hid (HB.kept hb);clear hb d0 d1 d2 d3 d4 d5 d6 d7 s0 s1 s2 n0 n1 n2 n3 n4;obtain⟨d0,d1,d2,d3,d4,d5,d6,d7⟩:=aU HB.x;obtain⟨s0,s1,s2⟩:=bW HB.y
       obtain⟨n0,n1,n2,n3,n4⟩:=bD HB.z))
    go_ret
    first
     |exact⟨⟨false,rfl,HF.out⟩,HB.below⟩
     |exact⟨.inl ⟨rfl,HNP.out⟩,HB.below⟩
   subst h1;by_cases h2:pn=0
   case neg=>
    have h2':((pn:Int)==0)=false:=(by simpa using h2);have HF:Hid (false=true↔PP):=HO2.out false ⟨(fun h=>by cases h),fun h=>by simp_all⟩;have HNP:Hid (¬PP):=fun hp=>by cases HF.2 hp
    go_wp2_with (first
     |(go_at_call 154;refine(c4 _ HB.below).mono ?_;rintro e w2 ⟨rfl,hb⟩
       replace HB:=hid (HB.kept hb);clear hb d0 d1 d2 d3 d4 d5 d6 d7 s0 s1 s2 n0 n1 n2 n3 n4;obtain⟨d0,d1,d2,d3,d4,d5,d6,d7⟩:=aU HB.x;obtain⟨s0,s1,s2⟩:=bW HB.y
       obtain⟨n0,n1,n2,n3,n4⟩:=bD HB.z)
     |(go_at_call 155;refine(c5 _ HB.below).mono ?_;rintro e w2 ⟨rfl,hb⟩
       replace HB:=hid (HB.kept hb);clear hb d0 d1 d2 d3 d4 d5 d6 d7 s0 s1 s2 n0 n1 n2 n3 n4;obtain⟨d0,d1,d2,d3,d4,d5,d6,d7⟩:=aU HB.x;obtain⟨s0,s1,s2⟩:=bW HB.y
       obtain⟨n0,n1,n2,n3,n4⟩:=bD HB.z)
     |(go_at_call 156;refine(c6 _ HB.below).mono ?_;rintro e w2 ⟨rfl,hb⟩
       replace HB:=hid (HB.kept hb);clear hb d0 d1 d2 d3 d4 d5 d6 d7 s0 s1 s2 n0 n1 n2 n3 n4;obtain⟨d0,d1,d2,d3,d4,d5,d6,d7⟩:=aU HB.x;obtain⟨s0,s1,s2⟩:=bW HB.y
       obtain⟨n0,n1,n2,n3,n4⟩:=bD HB.z)
     |(go_at_call 157;refine(c7 _ HB.below).mono ?_;rintro e w2 ⟨rfl,hb⟩
       replace HB:=hid (HB.kept hb);clear hb d0 d1 d2 d3 d4 d5 d6 d7 s0 s1 s2 n0 n1 n2 n3 n4;obtain⟨d0,d1,d2,d3,d4,d5,d6,d7⟩:=aU HB.x;obtain⟨s0,s1,s2⟩:=bW HB.y
       obtain⟨n0,n1,n2,n3,n4⟩:=bD HB.z))
    go_ret
    first
     |exact⟨⟨false,rfl,HF.out⟩,HB.below⟩
     |exact⟨.inl ⟨rfl,HNP.out⟩,HB.below⟩
   subst h2;by_cases h3:bn=0
   case neg=>
    have h3':((bn:Int)==0)=false:=(by simpa using h3);have HF:Hid (false=true↔PP):=HO2.out false ⟨(fun h=>by cases h),fun h=>by simp_all⟩;have HNP:Hid (¬PP):=fun hp=>by cases HF.2 hp
    go_wp2_with (first
     |(go_at_call 154;refine(c4 _ HB.below).mono ?_;rintro e w2 ⟨rfl,hb⟩
       replace HB:=hid (HB.kept hb);clear hb d0 d1 d2 d3 d4 d5 d6 d7 s0 s1 s2 n0 n1 n2 n3 n4;obtain⟨d0,d1,d2,d3,d4,d5,d6,d7⟩:=aU HB.x;obtain⟨s0,s1,s2⟩:=bW HB.y
       obtain⟨n0,n1,n2,n3,n4⟩:=bD HB.z)
     |(go_at_call 155;refine(c5 _ HB.below).mono ?_;rintro e w2 ⟨rfl,hb⟩
       replace HB:=hid (HB.kept hb);clear hb d0 d1 d2 d3 d4 d5 d6 d7 s0 s1 s2 n0 n1 n2 n3 n4;obtain⟨d0,d1,d2,d3,d4,d5,d6,d7⟩:=aU HB.x;obtain⟨s0,s1,s2⟩:=bW HB.y
       obtain⟨n0,n1,n2,n3,n4⟩:=bD HB.z)
     |(go_at_call 156;refine(c6 _ HB.below).mono ?_;rintro e w2 ⟨rfl,hb⟩
       replace HB:=hid (HB.kept hb);clear hb d0 d1 d2 d3 d4 d5 d6 d7 s0 s1 s2 n0 n1 n2 n3 n4;obtain⟨d0,d1,d2,d3,d4,d5,d6,d7⟩:=aU HB.x;obtain⟨s0,s1,s2⟩:=bW HB.y
       obtain⟨n0,n1,n2,n3,n4⟩:=bD HB.z)
     |(go_at_call 157;refine(c7 _ HB.below).mono ?_;rintro e w2 ⟨rfl,hb⟩
       replace HB:=hid (HB.kept hb);clear hb d0 d1 d2 d3 d4 d5 d6 d7 s0 s1 s2 n0 n1 n2 n3 n4;obtain⟨d0,d1,d2,d3,d4,d5,d6,d7⟩:=aU HB.x;obtain⟨s0,s1,s2⟩:=bW HB.y
       obtain⟨n0,n1,n2,n3,n4⟩:=bD HB.z))
    go_ret
    first
     |exact⟨⟨false,rfl,HF.out⟩,HB.below⟩
     |exact⟨.inl ⟨rfl,HNP.out⟩,HB.below⟩
   subst h3
   go_wp2_with (first
    |(go_at_call 154;refine(c4 _ HB.below).mono ?_;rintro e w2 ⟨rfl,hb⟩
      replace HB:=hid (HB.kept hb);clear hb d0 d1 d2 d3 d4 d5 d6 d7 s0 s1 s2 n0 n1 n2 n3 n4;obtain⟨d0,d1,d2,d3,d4,d5,d6,d7⟩:=aU HB.x;obtain⟨s0,s1,s2⟩:=bW HB.y
      obtain⟨n0,n1,n2,n3,n4⟩:=bD HB.z)
    |(go_at_call 155;refine(c5 _ HB.below).mono ?_;rintro e w2 ⟨rfl,hb⟩
      replace HB:=hid (HB.kept hb);clear hb d0 d1 d2 d3 d4 d5 d6 d7 s0 s1 s2 n0 n1 n2 n3 n4;obtain⟨d0,d1,d2,d3,d4,d5,d6,d7⟩:=aU HB.x;obtain⟨s0,s1,s2⟩:=bW HB.y
      obtain⟨n0,n1,n2,n3,n4⟩:=bD HB.z)
    |(go_at_call 156;refine(c6 _ HB.below).mono ?_;rintro e w2 ⟨rfl,hb⟩
      replace HB:=hid (HB.kept hb);clear hb d0 d1 d2 d3 d4 d5 d6 d7 s0 s1 s2 n0 n1 n2 n3 n4;obtain⟨d0,d1,d2,d3,d4,d5,d6,d7⟩:=aU HB.x;obtain⟨s0,s1,s2⟩:=bW HB.y
      obtain⟨n0,n1,n2,n3,n4⟩:=bD HB.z)
    |(go_at_call 157;refine(c7 _ HB.below).mono ?_;rintro e w2 ⟨rfl,hb⟩
      replace HB:=hid (HB.kept hb);clear hb d0 d1 d2 d3 d4 d5 d6 d7 s0 s1 s2 n0 n1 n2 n3 n4;obtain⟨d0,d1,d2,d3,d4,d5,d6,d7⟩:=aU HB.x;obtain⟨s0,s1,s2⟩:=bW HB.y
      obtain⟨n0,n1,n2,n3,n4⟩:=bD HB.z))
   go_ret
   exact⟨⟨b4,rfl,HO2.out b4 (by simp)⟩,HB.below⟩
 . have HI2:=hid (HI.out hlv)
   have R5:(lv==0)=false:=(by simpa using hlv);clear HI HO;by_cases h1:1<=lv
   case neg=>
    have h1':decide (1<=lv)=false:=(by simpa using h1);have HF:Hid (false=true↔PP):=HI2.out false ⟨(fun h=>by cases h),fun h=>by simp_all⟩;have HNP:Hid (¬PP):=fun hp=>by cases HF.2 hp
    go_wp2_with (first
     |(go_at_call 154;refine(c4 _ HB.below).mono ?_;rintro e w2 ⟨rfl,hb⟩
       replace HB:=hid (HB.kept hb);clear hb d0 d1 d2 d3 d4 d5 d6 d7 s0 s1 s2 n0 n1 n2 n3 n4;obtain⟨d0,d1,d2,d3,d4,d5,d6,d7⟩:=aU HB.x;obtain⟨s0,s1,s2⟩:=bW HB.y
       obtain⟨n0,n1,n2,n3,n4⟩:=bD HB.z)
     |(go_at_call 155;refine(c5 _ HB.below).mono ?_;rintro e w2 ⟨rfl,hb⟩
       replace HB:=hid (HB.kept hb);clear hb d0 d1 d2 d3 d4 d5 d6 d7 s0 s1 s2 n0 n1 n2 n3 n4;obtain⟨d0,d1,d2,d3,d4,d5,d6,d7⟩:=aU HB.x;obtain⟨s0,s1,s2⟩:=bW HB.y
       obtain⟨n0,n1,n2,n3,n4⟩:=bD HB.z)
     |(go_at_call 156;refine(c6 _ HB.below).mono ?_;rintro e w2 ⟨rfl,hb⟩
       replace HB:=hid (HB.kept hb);clear hb d0 d1 d2 d3 d4 d5 d6 d7 s0 s1 s2 n0 n1 n2 n3 n4;obtain⟨d0,d1,d2,d3,d4,d5,d6,d7⟩:=aU HB.x;obtain⟨s0,s1,s2⟩:=bW HB.y
       obtain⟨n0,n1,n2,n3,n4⟩:=bD HB.z)
     |(go_at_call 157;refine(c7 _ HB.below).mono ?_;rintro e w2 ⟨rfl,hb⟩
       replace HB:=hid (HB.kept hb);clear hb d0 d1 d2 d3 d4 d5 d6 d7 s0 s1 s2 n0 n1 n2 n3 n4;obtain⟨d0,d1,d2,d3,d4,d5,d6,d7⟩:=aU HB.x;obtain⟨s0,s1,s2⟩:=bW HB.y
       obtain⟨n0,n1,n2,n3,n4⟩:=bD HB.z))
    go_ret
    first
     |exact⟨⟨false,rfl,HF.out⟩,HB.below⟩
     |exact⟨.inl ⟨rfl,HNP.out⟩,HB.below⟩
   by_cases h2:lv<=40
   case neg=>
    have h2':decide (lv<=40)=false:=(by simpa using h2);have HF:Hid (false=true↔PP):=HI2.out false ⟨(fun h=>by cases h),fun h=>by simp_all⟩;have HNP:Hid (¬PP):=fun hp=>by cases HF.2 hp
    go_wp2_with (first
     |(go_at_call 154;refine(c4 _ HB.below).mono ?_;rintro e w2 ⟨rfl,hb⟩
       replace HB:=hid (HB.kept hb);clear hb d0 d1 d2 d3 d4 d5 d6 d7 s0 s1 s2 n0 n1 n2 n3 n4;obtain⟨d0,d1,d2,d3,d4,d5,d6,d7⟩:=aU HB.x;obtain⟨s0,s1,s2⟩:=bW HB.y
       obtain⟨n0,n1,n2,n3,n4⟩:=bD HB.z)
     |(go_at_call 155;refine(c5 _ HB.below).mono ?_;rintro e w2 ⟨rfl,hb⟩
       replace HB:=hid (HB.kept hb);clear hb d0 d1 d2 d3 d4 d5 d6 d7 s0 s1 s2 n0 n1 n2 n3 n4;obtain⟨d0,d1,d2,d3,d4,d5,d6,d7⟩:=aU HB.x;obtain⟨s0,s1,s2⟩:=bW HB.y
       obtain⟨n0,n1,n2,n3,n4⟩:=bD HB.z)
     |(go_at_call 156;refine(c6 _ HB.below).mono ?_;rintro e w2 ⟨rfl,hb⟩
       replace HB:=hid (HB.kept hb);clear hb d0 d1 d2 d3 d4 d5 d6 d7 s0 s1 s2 n0 n1 n2 n3 n4;obtain⟨d0,d1,d2,d3,d4,d5,d6,d7⟩:=aU HB.x;obtain⟨s0,s1,s2⟩:=bW HB.y
       obtain⟨n0,n1,n2,n3,n4⟩:=bD HB.z)
     |(go_at_call 157;refine(c7 _ HB.below).mono ?_;rintro e w2 ⟨rfl,hb⟩
       replace HB:=hid (HB.kept hb);clear hb d0 d1 d2 d3 d4 d5 d6 d7 s0 s1 s2 n0 n1 n2 n3 n4;obtain⟨d0,d1,d2,d3,d4,d5,d6,d7⟩:=aU HB.x;obtain⟨s0,s1,s2⟩:=bW HB.y
       obtain⟨n0,n1,n2,n3,n4⟩:=bD HB.z))
    go_ret
    first
     |exact⟨⟨false,rfl,HF.out⟩,HB.below⟩
     |exact⟨.inl ⟨rfl,HNP.out⟩,HB.below⟩
   by_cases h3:qn=0
   case neg=>
    have h3':((qn:Int)==0)=false:=(by simpa using h3);have HF:Hid (false=true↔PP):=HI2.out false ⟨(fun h=>by cases h),fun h=>by simp_all⟩;have HNP:Hid (¬PP):=fun hp=>by cases HF.2 hp
    go_wp2_with (first
     |(go_at_call 154;refine(c4 _ HB.below).mono ?_;rintro e w2 ⟨rfl,hb⟩
       replace HB:=hid (HB.kept hb);clear hb d0 d1 d2 d3 d4 d5 d6 d7 s0 s1 s2 n0 n1 n2 n3 n4;obtain⟨d0,d1,d2,d3,d4,d5,d6,d7⟩:=aU HB.x;obtain⟨s0,s1,s2⟩:=bW HB.y
       obtain⟨n0,n1,n2,n3,n4⟩:=bD HB.z)
     |(go_at_call 155;refine(c5 _ HB.below).mono ?_;rintro e w2 ⟨rfl,hb⟩
       replace HB:=hid (HB.kept hb);clear hb d0 d1 d2 d3 d4 d5 d6 d7 s0 s1 s2 n0 n1 n2 n3 n4;obtain⟨d0,d1,d2,d3,d4,d5,d6,d7⟩:=aU HB.x;obtain⟨s0,s1,s2⟩:=bW HB.y
       obtain⟨n0,n1,n2,n3,n4⟩:=bD HB.z)
     |(go_at_call 156;refine(c6 _ HB.below).mono ?_;rintro e w2 ⟨rfl,hb⟩
       replace HB:=hid (HB.kept hb);clear hb d0 d1 d2 d3 d4 d5 d6 d7 s0 s1 s2 n0 n1 n2 n3 n4;obtain⟨d0,d1,d2,d3,d4,d5,d6,d7⟩:=aU HB.x;obtain⟨s0,s1,s2⟩:=bW HB.y
       obtain⟨n0,n1,n2,n3,n4⟩:=bD HB.z)
     |(go_at_call 157;refine(c7 _ HB.below).mono ?_;rintro e w2 ⟨rfl,hb⟩
       replace HB:=hid (HB.kept hb);clear hb d0 d1 d2 d3 d4 d5 d6 d7 s0 s1 s2 n0 n1 n2 n3 n4;obtain⟨d0,d1,d2,d3,d4,d5,d6,d7⟩:=aU HB.x;obtain⟨s0,s1,s2⟩:=bW HB.y
       obtain⟨n0,n1,n2,n3,n4⟩:=bD HB.z))
    go_ret
    first
     |exact⟨⟨false,rfl,HF.out⟩,HB.below⟩
     |exact⟨.inl ⟨rfl,HNP.out⟩,HB.below⟩
   subst h3;cases b5 with
   |false=>
    have HF:Hid (false=true↔PP):=HI2.out false ⟨(fun h=>by cases h),fun h=>by simp_all⟩;have HNP:Hid (¬PP):=fun hp=>by cases HF.2 hp
    go_wp2_with (first
     |(go_at_call 154;refine(c4 _ HB.below).mono ?_;rintro e w2 ⟨rfl,hb⟩
       replace HB:=hid (HB.kept hb);clear hb d0 d1 d2 d3 d4 d5 d6 d7 s0 s1 s2 n0 n1 n2 n3 n4;obtain⟨d0,d1,d2,d3,d4,d5,d6,d7⟩:=aU HB.x;obtain⟨s0,s1,s2⟩:=bW HB.y
       obtain⟨n0,n1,n2,n3,n4⟩:=bD HB.z)
     |(go_at_call 155;refine(c5 _ HB.below).mono ?_;rintro e w2 ⟨rfl,hb⟩
       replace HB:=hid (HB.kept hb);clear hb d0 d1 d2 d3 d4 d5 d6 d7 s0 s1 s2 n0 n1 n2 n3 n4;obtain⟨d0,d1,d2,d3,d4,d5,d6,d7⟩:=aU HB.x;obtain⟨s0,s1,s2⟩:=bW HB.y
       obtain⟨n0,n1,n2,n3,n4⟩:=bD HB.z)
     |(go_at_call 156;refine(c6 _ HB.below).mono ?_;rintro e w2 ⟨rfl,hb⟩
       replace HB:=hid (HB.kept hb);clear hb d0 d1 d2 d3 d4 d5 d6 d7 s0 s1 s2 n0 n1 n2 n3 n4;obtain⟨d0,d1,d2,d3,d4,d5,d6,d7⟩:=aU HB.x;obtain⟨s0,s1,s2⟩:=bW HB.y
       obtain⟨n0,n1,n2,n3,n4⟩:=bD HB.z)
     |(go_at_call 157;refine(c7 _ HB.below).mono ?_;rintro e w2 ⟨rfl,hb⟩
       replace HB:=hid (HB.kept hb);clear hb d0 d1 d2 d3 d4 d5 d6 d7 s0 s1 s2 n0 n1 n2 n3 n4;obtain⟨d0,d1,d2,d3,d4,d5,d6,d7⟩:=aU HB.x;obtain⟨s0,s1,s2⟩:=bW HB.y
       obtain⟨n0,n1,n2,n3,n4⟩:=bD HB.z))
    go_ret
    first
     |exact⟨⟨false,rfl,HF.out⟩,HB.below⟩
     |exact⟨.inl ⟨rfl,HNP.out⟩,HB.below⟩
   |true=>
   have hk1:=HK1.out rfl;obtain⟨k1,Ua⟩:∃k1,k1+1=kn:=⟨kn-1,by omega⟩
   have hw:IntKind.i64.wrap ((kn:Int)-1)=(k1:Int):=(by rw[IntKind.wrap_i64];have:=HKL.out;omega);by_cases h4:pn=k1
   case neg=>
    have h4':((pn:Int)==(k1:Int))=false:=(by simp;omega);have h4n:¬(pn+1=kn):=(by omega);have HF:Hid (false=true↔PP):=HI2.out false ⟨(fun h=>by cases h),fun h=>by simp_all⟩;have HNP:Hid (¬PP):=fun hp=>by cases HF.2 hp
    go_wp2_with (first
     |(go_at_call 154;refine(c4 _ HB.below).mono ?_;rintro e w2 ⟨rfl,hb⟩
       replace HB:=hid (HB.kept hb);clear hb d0 d1 d2 d3 d4 d5 d6 d7 s0 s1 s2 n0 n1 n2 n3 n4;obtain⟨d0,d1,d2,d3,d4,d5,d6,d7⟩:=aU HB.x;obtain⟨s0,s1,s2⟩:=bW HB.y
       obtain⟨n0,n1,n2,n3,n4⟩:=bD HB.z)
     |(go_at_call 155;refine(c5 _ HB.below).mono ?_;rintro e w2 ⟨rfl,hb⟩
       replace HB:=hid (HB.kept hb);clear hb d0 d1 d2 d3 d4 d5 d6 d7 s0 s1 s2 n0 n1 n2 n3 n4;obtain⟨d0,d1,d2,d3,d4,d5,d6,d7⟩:=aU HB.x;obtain⟨s0,s1,s2⟩:=bW HB.y
       obtain⟨n0,n1,n2,n3,n4⟩:=bD HB.z)
     |(go_at_call 156;refine(c6 _ HB.below).mono ?_;rintro e w2 ⟨rfl,hb⟩
       replace HB:=hid (HB.kept hb);clear hb d0 d1 d2 d3 d4 d5 d6 d7 s0 s1 s2 n0 n1 n2 n3 n4;obtain⟨d0,d1,d2,d3,d4,d5,d6,d7⟩:=aU HB.x;obtain⟨s0,s1,s2⟩:=bW HB.y
       obtain⟨n0,n1,n2,n3,n4⟩:=bD HB.z)
     |(go_at_call 157;refine(c7 _ HB.below).mono ?_;rintro e w2 ⟨rfl,hb⟩
       replace HB:=hid (HB.kept hb);clear hb d0 d1 d2 d3 d4 d5 d6 d7 s0 s1 s2 n0 n1 n2 n3 n4;obtain⟨d0,d1,d2,d3,d4,d5,d6,d7⟩:=aU HB.x;obtain⟨s0,s1,s2⟩:=bW HB.y
       obtain⟨n0,n1,n2,n3,n4⟩:=bD HB.z))
    go_ret
    first
     |exact⟨⟨false,rfl,HF.out⟩,HB.below⟩
     |exact⟨.inl ⟨rfl,HNP.out⟩,HB.below⟩
   subst h4;cases b6 with
   |false=>
    have HF:Hid (false=true↔PP):=HI2.out false ⟨(fun h=>by cases h),fun h=>by simp_all⟩;have HNP:Hid (¬PP):=fun hp=>by cases HF.2 hp
    go_wp2_with (first
     |(go_at_call 154;refine(c4 _ HB.below).mono ?_;rintro e w2 ⟨rfl,hb⟩
       replace HB:=hid (HB.kept hb);clear hb d0 d1 d2 d3 d4 d5 d6 d7 s0 s1 s2 n0 n1 n2 n3 n4;obtain⟨d0,d1,d2,d3,d4,d5,d6,d7⟩:=aU HB.x;obtain⟨s0,s1,s2⟩:=bW HB.y
       obtain⟨n0,n1,n2,n3,n4⟩:=bD HB.z)
     |(go_at_call 155;refine(c5 _ HB.below).mono ?_;rintro e w2 ⟨rfl,hb⟩
       replace HB:=hid (HB.kept hb);clear hb d0 d1 d2 d3 d4 d5 d6 d7 s0 s1 s2 n0 n1 n2 n3 n4;obtain⟨d0,d1,d2,d3,d4,d5,d6,d7⟩:=aU HB.x;obtain⟨s0,s1,s2⟩:=bW HB.y
       obtain⟨n0,n1,n2,n3,n4⟩:=bD HB.z)
     |(go_at_call 156;refine(c6 _ HB.below).mono ?_;rintro e w2 ⟨rfl,hb⟩
       replace HB:=hid (HB.kept hb);clear hb d0 d1 d2 d3 d4 d5 d6 d7 s0 s1 s2 n0 n1 n2 n3 n4;obtain⟨d0,d1,d2,d3,d4,d5,d6,d7⟩:=aU HB.x;obtain⟨s0,s1,s2⟩:=bW HB.y
       obtain⟨n0,n1,n2,n3,n4⟩:=bD HB.z)
     |(go_at_call 157;refine(c7 _ HB.below).mono ?_;rintro e w2 ⟨rfl,hb⟩
       replace HB:=hid (HB.kept hb);clear hb d0 d1 d2 d3 d4 d5 d6 d7 s0 s1 s2 n0 n1 n2 n3 n4;obtain⟨d0,d1,d2,d3,d4,d5,d6,d7⟩:=aU HB.x;obtain⟨s0,s1,s2⟩:=bW HB.y
       obtain⟨n0,n1,n2,n3,n4⟩:=bD HB.z))
    go_ret
    first
     |exact⟨⟨false,rfl,HF.out⟩,HB.below⟩
     |exact⟨.inl ⟨rfl,HNP.out⟩,HB.below⟩
   |true=>
   have Ho:Hid (b7=true↔1<=lv/\lv<=40/\(0:Nat)=0/\True/\pn+1=kn/\True/\b7=true):=⟨fun h=>⟨h1,h2,rfl,trivial,Ua,trivial,h⟩,fun h=>h.2.2.2.2.2.2⟩
   go_wp2_with (first
    |(go_at_call 154;refine(c4 _ HB.below).mono ?_;rintro e w2 ⟨rfl,hb⟩
      replace HB:=hid (HB.kept hb);clear hb d0 d1 d2 d3 d4 d5 d6 d7 s0 s1 s2 n0 n1 n2 n3 n4;obtain⟨d0,d1,d2,d3,d4,d5,d6,d7⟩:=aU HB.x;obtain⟨s0,s1,s2⟩:=bW HB.y
      obtain⟨n0,n1,n2,n3,n4⟩:=bD HB.z)
    |(go_at_call 155;refine(c5 _ HB.below).mono ?_;rintro e w2 ⟨rfl,hb⟩
      replace HB:=hid (HB.kept hb);clear hb d0 d1 d2 d3 d4 d5 d6 d7 s0 s1 s2 n0 n1 n2 n3 n4;obtain⟨d0,d1,d2,d3,d4,d5,d6,d7⟩:=aU HB.x;obtain⟨s0,s1,s2⟩:=bW HB.y
      obtain⟨n0,n1,n2,n3,n4⟩:=bD HB.z)
    |(go_at_call 156;refine(c6 _ HB.below).mono ?_;rintro e w2 ⟨rfl,hb⟩
      replace HB:=hid (HB.kept hb);clear hb d0 d1 d2 d3 d4 d5 d6 d7 s0 s1 s2 n0 n1 n2 n3 n4;obtain⟨d0,d1,d2,d3,d4,d5,d6,d7⟩:=aU HB.x;obtain⟨s0,s1,s2⟩:=bW HB.y
      obtain⟨n0,n1,n2,n3,n4⟩:=bD HB.z)
    |(go_at_call 157;refine(c7 _ HB.below).mono ?_;rintro e w2 ⟨rfl,hb⟩
      replace HB:=hid (HB.kept hb);clear hb d0 d1 d2 d3 d4 d5 d6 d7 s0 s1 s2 n0 n1 n2 n3 n4;obtain⟨d0,d1,d2,d3,d4,d5,d6,d7⟩:=aU HB.x;obtain⟨s0,s1,s2⟩:=bW HB.y
      obtain⟨n0,n1,n2,n3,n4⟩:=bD HB.z))
   go_ret
   exact⟨⟨b7,rfl,HI2.out b7 (by have:=Ho.out;simpa using this)⟩,HB.below⟩
end No
end Go.Proofs.YtmcbidhpkpmalaaGreatDoor
