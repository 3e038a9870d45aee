import Derived.Test.YtjpjjnalpdpljaaGreatDoorPkBM
import Derived.Test.YtjpjjnalpdpljaaGreatDoorRows
import Derived.Test.YtjpjjnalpdpljaaGreatDoorPkAE
import Derived.Test.YtjpjjnalpdpljaaGreatDoorPkAD
import Derived.SizedLaws
import Derived.LaidMore
import Derived.Stop.Joined
import Derived.Lib.SmallJoins
import Derived.Test.YtjpjjnalpdpljaaGreatDoorCards
import Derived.Test.YtjpjjnalpdpljaaGreatDoorTie
import Derived.SevenTiedAt
set_option maxHeartbeats 8000000
set_option maxRecDepth 100000
namespace Go.Proofs.YtjpjjnalpdpljaaGreatDoor
open Go.RowKit
open Go.Lib (hid)
open ah (dL tc)
namespace Sh
open Mem No Bt Po
open Ca (upF Few)
theorem QO:Tryz.prog.underlying 35=some (.struct (Tryz.prog.fieldsOf 35)):=by kernel_rfl
theorem p8 (cB cY cF cN cU cL cKy cV:Int) (A:Option Addr) (cap:Nat) (l:List Ac) (ask:Nat) (W:World) (hA:AcL W A l) (hl:l.length<=maxLen) (P6:ask<4294967296) (hT:Tab W):CB 3 #[.agg #[cB,cY,cF,cN,cU,cL,cKy,cV],.slice A l.length cap,.int .u32 (ask:Int)] W (.bool true):=by
 obtain ⟨c,hcf⟩:∃c,#[.int .i64 cB,.int .i64 cY,.int .i64 cF,.int .i64 cN,.int .i64 cU,.int .i64 cL,.int .i64 cKy,.int .i64 cV]=aZ c:=⟨⟨cB,cY,cF,cN,cU,cL,cKy,cV⟩,rfl⟩
 rw [hcf];clear hcf;have hb1:Bw W (W.alloc (.cells (aZ c) 23)):=bAx;have hx:=bf.new 23 W (aZ c);have hT1:=hT.below hb1;have cA:∀{w},Bw W w->Hid (CB 8 #[] w (.bool true)):=fun hb=>vR _ (hT.below hb)
 by_cases hL:Lt c
 case neg=>
  have cLi:∀w,Hid (CB 7 #[.agg (aZ c)] w (.bool false)):=fun w=>lG c w false ⟨fun h=>(by cases h),fun h=>absurd h hL⟩
  clear hL;go_enter Tryz.func3,Tryz.ntmps3
  go_upto_region 1 with fail
  generalize W.alloc (.cells (aZ c) 23)=w1 at*;have HX:=hid hx;have HB:=hid hb1;clear hx hb1
  go_wp2_with (first
   |(refine aL rfl (.tmp 3) 23 rfl xC W.heap.size (aZ c) (vD rfl) rfl HX.out ?_)
   |(go_at_call 7;refine (cLi _).out.mono ?_;rintro e w2 ⟨rfl,hb⟩;replace HB:=hid (HB.out.trans (hb.mono HB.out.size));clear hb cLi)
   |(go_at_call 8;refine (cA HB.out).out.mono ?_;rintro e w3 ⟨rfl,hb⟩;replace HB:=hid (HB.out.trans (hb.mono HB.out.size));clear hb cA))
  go_ret
  exact ⟨rfl,HB.out⟩
 have hc:Okc c:=⟨hL.1,hL.2.1,by have:=hL.2.2;omega⟩;have hnn:=hc.nat;have cLi:∀w,Hid (CB 7 #[.agg (aZ c)] w (.bool true)):=fun w=>lG c w true ⟨fun _=>hL,fun _=>rfl⟩
 have cB:∀{w},Below (W.alloc (.cells (aZ c) 23)).heap.size (W.alloc (.cells (aZ c) 23)) w->Hid (Calls Tryz.prog 9 #[.agg (aZ c)] w fun e w'=>Ot (W.alloc (.cells (aZ c) 23)) w w' c e):=fun hb=>yg hc hT1 hb
 have cN:=fun w=>hid (qO c c.blocks.toNat hnn.1.symm (by omega) (by omega) w);clear hL;go_enter Tryz.func3,Tryz.ntmps3
 go_upto_region 1 with fail
 generalize W.alloc (.cells (aZ c) 23)=w1 at*;obtain ⟨a0,ha0⟩:∃a0,a0=W.heap.size:=⟨_,rfl⟩
 rw [<-ha0] at hx;simp only [<-ha0];have HX:=hid hx;have HB:=hid hb1;clear hx hb1 ha0
 go_upto_region 7 with (first
  |(refine aL rfl (.tmp 3) 23 rfl xC a0 (aZ c) (vD rfl) rfl HX3.out ?_)
  |(refine aL rfl (.tmp 3) 23 rfl xC a0 (aZ c) (vD rfl) rfl HX2.out ?_)
  |(refine aL rfl (.tmp 3) 23 rfl xC a0 (aZ c) (vD rfl) rfl HX.out ?_)
  |(go_at_call 7;refine (cLi _).out.mono ?_;rintro e w2 ⟨rfl,hb⟩;have HX2:=hid (HX.out.kept hb);have HB2:=hid hb;clear hb cLi)
  |(go_at_call 9;refine (cB HB2.out).out.mono ?_;rintro e w3 ⟨⟨F,z,rfl,hs⟩,-⟩;have HS:=hid hs;have HX3:=hid (HX.out.kept hs.below);clear hs cB HB2 HX2)
  |(go_at_call 10;refine (cN _).out.mono ?_;rintro e w4 ⟨⟨A4,h4,ch4,rfl,hbl,hh,hr,hA4⟩,hb⟩;have HN4:=hid (And.intro hb (And.intro hbl (And.intro hh (And.intro hr hA4))));clear hb hbl hh hr hA4 cN HX3)
  |(refine aK rfl (.tmp 9) (.tmp 33) 35 rfl rfl w4.heap.size #[.int .i64 0,.int .i64 0,.int .i64 0,.int .i64 0,.int .i64 0,.int .i64 0,.int .i64 0,.int .i64 0,.slice none 0 0,.slice none 0 0,.int .u32 0] (bY ⟨c,List.replicate c.blocks.toNat sl0,tbN c.blocks.toNat,0⟩ A4 c.blocks.toNat h4 ch4) (shS rfl) rfl (nJ _ _ _ _ _) rfl rfl (bf.new _ _ _) ?_;intro w5 HZ hi;have hb5:=kW rfl hi;clear hi))
 have H0:=hid (Jr (W:=W) hc hT1 HS.out HN4.out.1 HN4.out.2.1 HN4.out.2.2.1 HN4.out.2.2.2.1 HN4.out.2.2.2.2 hb5 HZ.out);obtain ⟨g,hg⟩:∃g,g=w4.heap.size:=⟨_,rfl⟩
 rw [<-hg] at H0;simp only [<-hg];obtain ⟨N,hN⟩:∃N,N=l.length:=⟨_,rfl⟩
 have HN:=hid hN;have hN9:N<=9223372036854775807:=by unfold maxLen at hl;omega
 simp only [<-hN];clear hN hl hg HZ hb5 HN4 HS;go_wp2_with fail
 go_loopg [10] N (fun gk iv wr=>∃(k:Nat) (F:List Nat) (s:Ds) (A:Option Addr) (cl h ch:Nat) (f:Nat->List UInt8) (r u:Nat),k<=N/\k<=40/\gk=N-k/\iv= .int .i64 (k:Int)/\Hid (Rd W w1 wr F z c s A cl h ch g f (200*k) r u))
 case atStart=>exact ⟨0,F,_,_,_,_,_,_,0,0,Nat.zero_le _,Nat.zero_le _,rfl,rfl,H0⟩
 case round=>
  obtain ⟨k,F,s,A',cl,h,ch,f,r,u,hk,RU,rfl,rfl,HR⟩:=hrel;clear H0;by_cases hlt:k<N/\k<40
  . obtain ⟨hkN,hk4⟩:=hlt
    obtain ⟨b,o,x,rfl,hlk,hmem,hcl⟩:=Jq hA (k:=k) (by rw [<-HN.out];exact hkN);have hbr:=HB.out.trans (HR.out.sv.below.mono HB.out.size);obtain ⟨c0,c1,c2,c3,c4,c5,c6⟩:=hcl hbr;have hni:=hA.nd x hmem;have hno:=hA.ok x hmem;have IU:=hA.lt x hmem;obtain ⟨kd,i,n,a⟩:=x;simp only at c0 c1 c2 c3 c4 c5 c6 hni hno IU;simp only at hcl;clear hmem hlk;by_cases hf:Fit n
    . have cG:∀{w},Bw W w->Hid (CB 11 #[.agg (bL n a)] w (.bool false)):=fun hb=>(lT (hni.kept hb) hno).mono fun e w' ⟨⟨v,he,hv⟩,hb⟩=>⟨by rw [he,hv.2 hf],hb⟩
      have hna:∀{w},Bw W w->NdA w n a:=fun hb=>⟨hni.kept hb,hf,hno.kid⟩
      have cG1:=cG hbr;clear hni hno hf cG;go_upto_region 12 with (go_at_call 11;refine cG1.out.mono ?_;rintro e w5 ⟨rfl,hb⟩;have H5:=hid (HR.out.kept hT1 hb);have HW5:=hid (hbr.trans (hb.mono hbr.size));clear hb cG1 HR hbr c0 c1 c2 c3 c4 c5 c6)
      obtain ⟨t,ht⟩:=Bu.bU (bQ c n);have HTr:=hid ht;obtain ⟨c0,c1,c2,c3,c4,c5,c6⟩:=hcl HW5.out;obtain ⟨d0,d1,d2,d3,d4,d5,d6,d7,d8,d9,d10⟩:=lW H5.out.dl.bx;have cW:∀{w},Bw w5 w->Hid (Calls Tryz.prog 12 #[.agg (bY s A' cl h ch),.agg (A8 ⟨kd,i,n,a⟩).toArray] w fun e w'=>(∃v,e=.returned v/\WnE w w1.heap.size s A' ⟨kd,i,n,a⟩ t v w')/\Bw w w'):=fun hb=>Js (x:=⟨kd,i,n,a⟩) (H5.out.kept hT1 hb) hc (hna (HW5.out.trans (hb.mono HW5.out.size))) IU HTr.out
      have NZ:=hid IU;have HNA:=hid (hna (Below.refl _ _));have tc0:=tc c0;have tc1:=tc c1;have tc2:=tc c2;have tc3:=tc c3;have tc4:=tc c4;have tc5:=tc c5;have tc6:=tc c6;have td0:=tc d0;have td1:=tc d1;have td2:=tc d2;have td3:=tc d3;have td4:=tc d4;have td5:=tc d5;have td6:=tc d6;have td7:=tc d7;have td8:=tc d8;have td9:=tc d9;have PZ:=tc d10;clear c0 c1 c2 c3 c4 c5 c6 d0 d1 d2 d3 d4 d5 d6 d7 d8 d9 d10 ht IU;refine ah.aB [] [(0,[]),(1,[]),(2,[]),(3,[]),(4,[]),(5,[10]),(6,[]),(7,[]),(8,[]),(9,[]),(10,[])] [5] [10] [8,9] (by kernel_rfl) (by kernel_rfl) (by simp) ?_;simp only [ah.pick,ah.aO,List.getElem?_toArray,List.getElem?_cons_zero,List.getElem?_cons_succ,List.cons_append,List.nil_append,List.filterMap_cons,List.filterMap_nil]
      repeat (refine ah.ak (fun K hK=>?_);go_simp;(refine hK _ ?_;clear hK K))
      refine ah.aN rfl (ah.gQ rfl (fun b=> .pointer (some ⟨b,0,none⟩)) (.cells #[(0:Int),(0:Int),(0:Int),(0:Int),(0:Int),(0:Int),(0:Int),(0:Int),(),(),.int .u32 0] 35) (fun W=>by go_simp) fun b hb=>ah.aF) (WnE w5 w1.heap.size s A' ⟨kd,i,n,a⟩ t) (fun W2 hk _=>?_) (fun y w6 hv hI _ hTd=>?_)
      . go_simp
        have hk2:Bw w5 W2:=hk;go_at_call 12
        refine (cW hk2).out.mono ?_;rintro e w' ⟨⟨v,rfl,hv⟩,hb⟩;exact ⟨_,rfl,hv.mono hk2.size,Flow.Into.of_below hb⟩
      obtain ⟨s',kk,E,A2,cl2,h2,ch2,rfl,hwr,hdw,hA2⟩:=hv;have HWr:=hid hwr;have HDw:=hid (And.intro hdw hA2);clear hwr hdw hA2 cW tc0 tc1 tc2 tc3 tc4 tc5 tc6 td0 td1 td2 td3 td4 td5 td6 td7 td8 td9 PZ
      repeat (refine ah.ak (fun K hK=>?_);go_simp;(refine hK _ ?_;clear hK K))
      refine ah.ay rfl (.int .u32 ((kk:Nat):Int)) (fun W=>by go_simp) ?_;refine ah.ay rfl (.int .i64 E) (fun W=>by go_simp) ?_;refine ah.dF rfl ah.aF (fun b=> .pointer (some ⟨b,0,none⟩)) (.cells #[(0:Int),(0:Int),(0:Int),(0:Int),(0:Int),(0:Int),(0:Int),(0:Int),(),(),.int .u32 0] 35) (fun W=>by go_simp) (fun q hq hT2=>?_);refine ah.walk_nil ?_;intro w7 hb7 hl7;have hb7:Bw w6 w7:=hb7;have hx7:bf 35 w7 q #[(0:Int),(0:Int),(0:Int),(0:Int),(0:Int),(0:Int),(0:Int),(0:Int),(),(),.int .u32 0]:=hl7 (q,.cells #[(0:Int),(0:Int),(0:Int),(0:Int),(0:Int),(0:Int),(0:Int),(0:Int),(),(),.int .u32 0] 35) (by simp);have H57:=hid (hI.below.trans (hb7.mono hI.below.size));have HX7:=hid hx7;have HQ:Hid (w5.heap.size<=q):=hq;have HD7:=hid (HDw.out.1.kept hb7);have HA7:=hid HDw.out.2;have HG7:=hid (H5.out.dl.bx.kept H57.out);clear hb7 hl7 hx7 hq hI hTd hT2 HDw;simp only [lC,List.drop_zero,Nat.zero_add,Nat.reduceAdd];go_wp2_with (refine aK rfl (.tmp 11) (.tmp 58) 35 rfl rfl q #[(0:Int),(0:Int),(0:Int),(0:Int),(0:Int),(0:Int),(0:Int),(0:Int),(),(),.int .u32 0] (bY s' A2 cl2 h2 ch2) (shS rfl) rfl (nJ _ _ _ _ _) rfl rfl HX7.out ?_;intro w8 HX8 hi;have HI8:=hid hi;clear hi)
      rw [Flow.aP];go_upto_region 13 with fail
      have HG8:=hid (zJ HG7.out H5.out.dl.bx.lt HQ.out HI8.out)
      go_upto_region 14 with (first
       |(refine aL rfl (.tmp 11) 35 rfl QO q (bY s' A2 cl2 h2 ch2) (shS rfl) rfl HX8.out ?_)
       |(refine aK rfl (.tmp 9) (.tmp 61) 35 rfl rfl g (bY s A' cl h ch) (bY s' A2 cl2 h2 ch2) (shS rfl) rfl (nJ _ _ _ _ _) rfl rfl HG8.out ?_;intro w9 HX9 hi;have HI9:=hid hi;clear hi))
      obtain ⟨Lr,N7⟩:=H5.out.want hT1 HWr.out H57.out HD7.out HA7.out HQ.out HX7.out rfl HI8.out HI9.out HX9.out;obtain ⟨F0,Ls,hF0,hh0⟩:=N7.shrink Lr.dw.bl;have HW9:=hid (HB.out.trans (Ls.below.mono HB.out.size));have HD9:=hid (And.intro (Lr.less hF0) hh0);have cT:=hid (Jt Ls H5.out.sc hc hT1 (by omega) ⟨kd,i,n,a⟩ NZ.out (hna HW9.out) HTr.out);obtain ⟨c0,c1,c2,c3,c4,c5,c6⟩:=hcl HW9.out;have HSR:=hid (And.intro H5.out.sc H5.out.sr);clear Lr N7 Ls hF0 hh0 HX9 HI9 HG8 HI8 HG7 HA7 HD7 HQ HX7 H57 HX8 H5 HW5 hna hcl;go_upto_region 15 with (go_at_call 13;refine cT.out.mono ?_;rintro e w10 ⟨k2,E2,tb',kp',f',rfl,hbo,ho⟩;have HBo:=hid hbo;have HO:=hid ho;clear hbo ho cT c0 c1 c2 c3 c4 c5 c6)
      obtain ⟨F10,r10,u10,h10,m10,-⟩:=HO.out;obtain ⟨rfl,rfl,hrd⟩:=Rd.done HSR.out.1 HSR.out.2 HWr.out HD9.out.1 HD9.out.2 HBo.out h10 m10 HTr.out HNA.out;have N8:=hid hrd;clear HO h10 m10 hrd HSR HWr HD9 HBo HTr HNA HW9 NZ;go_upto_region 17 with fail
      have cLd:=hid (N8.out.load hc hT1 (by omega) ask P6)
      go_upto_region 18 with (first
       |(go_at_call 14;refine cLd.out.mono ?_;rintro e w11 ⟨⟨n11,E11,a11,rfl,QS,QT⟩,F11,r11,u11,ho⟩;have P7:=hid (And.intro QS QT);have H11:=hid ho;clear QS QT ho cLd N8)
       |(refine aK rfl (.tmp 16) (.tmp 83) 43 rfl rfl w11.heap.size #[.int .i64 0,.slice none 0 0,.slice none 0 0,.slice none 0 0,.slice none 0 0] (bL n11 a11) (Jj rfl) rfl (qN _ _) rfl rfl (bf.new _ _ _) ?_;intro w12 P8 hi;have P9:=kW rfl hi;clear hi))
      have H12:=hid (H11.out.kept hT1 P9);have Qa:=hid (And.intro (P7.out.1.kept P9) P7.out.2);obtain ⟨g2,hg2⟩:∃g2,g2=w11.heap.size:=⟨_,rfl⟩
      rw [<-hg2] at P8;simp only [<-hg2];clear hg2 P9 H11 P7;have cRL:=hid (EU s' A2 cl2 h2 ch2 ask P6 w12 H12.out.dl.dw.rd H12.out.dl.dw.len);obtain ⟨X,hX⟩:∃X,X=ldS s' ask:=⟨_,rfl⟩
      rw [<-hX] at cRL;have HLd:=hid hX;obtain ⟨sx,ex,kx⟩:=X;simp only at cRL;clear hX
      go_upto_region 19 with (first
       |(refine aL rfl (.tmp 9) 35 rfl QO g (bY s' A2 cl2 h2 ch2) (shS rfl) rfl H12.out.dl.bx ?_)
       |(go_at_call 15;refine cRL.out.mono ?_;rintro e w13 ⟨rfl,hb⟩;have H13:=hid (H12.out.kept hT1 hb);have Qb:=hid (And.intro (Qa.out.1.kept hb) Qa.out.2);have QU:=hid (P8.out.kept hb);clear hb cRL H12 Qa P8)
       |(refine aK rfl (.tmp 18) (.tmp 89) 43 rfl rfl w13.heap.size #[.int .i64 0,.slice none 0 0,.slice none 0 0,.slice none 0 0,.slice none 0 0] (bL sx.n sx.a) (Jj rfl) rfl (qN _ _) rfl rfl (bf.new _ _ _) ?_;intro w14 Qc hi;have Oz:=kW rfl hi;clear hi))
      have H14:=hid (H13.out.kept hT1 Oz);have Qd:=hid (And.intro (Qb.out.1.kept Oz) Qb.out.2);have QV:=hid (QU.out.kept Oz);obtain ⟨g3,hg3⟩:∃g3,g3=w13.heap.size:=⟨_,rfl⟩
      rw [<-hg3] at Qc;simp only [<-hg3];clear hg3 Oz H13 Qb QU;have QW:=hid (HB.out.trans (H14.out.sv.below.mono HB.out.size))
      go_cut [103] (fun b wx=>b= .bool false/\Hid (Bw w14 wx))
      case first=>
       cases kx with
       |false=>
        go_wp2_with fail
        go_meet
        exact ⟨rfl,Below.refl _ _⟩
       |true=>
        have hkx:(ldS s' ask).2.2=true:=(by rw [<-HLd.out]);obtain ⟨q1,q2⟩:=H14.out.told hc Qd.out.2 hkx;obtain ⟨q3,q4⟩:=H14.out.node hkx;rw [<-HLd.out] at q1 q2 q3 q4;simp only at q1 q2 q3 q4;subst q1 q2;have cSm:=iW Qd.out.1 (q3.kept QW.out) q4 q4;obtain ⟨e0,e1,e2,e3,e4⟩:=jO QV.out;obtain ⟨d0,d1,d2,d3,d4⟩:=jO Qc.out;have CSm:=hid cSm;clear q3 q4 hkx cSm;go_wp2_with (go_at_call 16;refine CSm.out.mono ?_;rintro e w15 ⟨⟨v,rfl,hv⟩,hb⟩;obtain rfl:v=true:=hv.2 rfl;have RV:=hid hb;clear hb hv CSm e0 e1 e2 e3 e4 d0 d1 d2 d3 d4)
        go_meet
        exact ⟨rfl,RV⟩
      case rest=>
       obtain ⟨rfl,hbc⟩:=hcut;have HR:=hid (H14.out.kept hT1 hbc.out);clear hbc H14 Qd QV Qc QW HLd;go_upto_region 21 with fail
       have hm:(s'.held.length:Int)=c.blocks:=HR.out.sv.len;have hm5:s'.held.length<=65536:=(by have:=hnn.2.2.2.2.1;omega);have HXc:=hid (HX.out.kept HR.out.sv.below);have cLf:∀{w},Bw wc w->Hid (CB 17 #[z.p] w (.int .i64 (free s'.held:Int))):=fun hb=>(Jb (HR.out.sv.kept hT1 hb)).mono fun e w' ⟨he,hw⟩=>⟨he,hw▸Below.refl _ _⟩
       have cRF:∀{w},Bw wc w->Hid (CB 18 #[.slice (some ⟨h2,0,none⟩) s'.held.length ch2] w (.int .i64 (free s'.held:Int))):=fun hb=>(pz h2 ch2 _ s'.held _ (HR.out.dl.dw.bl.kept hb) (by omega)).mono fun e w' ⟨he,hw⟩=>⟨he,hw▸Below.refl _ _⟩
       have cHe:∀{w},Bw wc w->Hid (Calls Tryz.prog 20 #[z.p] w fun e w'=>(∃v,e=.returned v/\EvU (cnt s'.held) (tks s'.held s'.held.length) v w')/\Bw w w'):=fun hb=>(M9 (HR.out.sv.kept hT1 hb) hT1).mono fun e w' ⟨⟨A,m,he,hu⟩,hb⟩=>⟨⟨_,he,A,m,rfl,hu⟩,hb⟩
       have cRo:∀{w},Bw wc w->Hid (Calls Tryz.prog 21 #[.slice (some ⟨h2,0,none⟩) s'.held.length ch2] w fun e w'=>(∃v,e=.returned v/\EvU (cnt s'.held) (tks s'.held s'.held.length) v w')/\Bw w w'):=fun hb=>(GX h2 ch2 _ s'.held _ (HR.out.dl.dw.bl.kept hb) hm5).mono fun e w' ⟨A,m,he,hu,hb⟩=>⟨⟨_,he,A,m,rfl,UL.Jy hu⟩,hb⟩
       have cSa:∀{w A A' m m'},UL w A (tks s'.held s'.held.length)->UL w A' (tks s'.held s'.held.length)->Hid (CB 19 #[.slice A (cnt s'.held) m,.slice A' (cnt s'.held) m'] w (.bool true)):=fun {w A A' m m'} h h'=>(F6 A A' (cnt s'.held) (cnt s'.held) m m' _ _ w h h' (rC _) (rC _) (by have:=yK s'.held;omega) (by have:=yK s'.held;omega)).mono fun e w' ⟨he,hb⟩=>⟨by simpa using he,hb⟩
       have cHa:∀{w},Bw wc w->Hid (CB 22 #[z.p,.int .u32 (ask:Int)] w (.bool (s'.held.getD ask false))):=fun hb=>M8 (HR.out.sv.kept hT1 hb) hT1 ask P6
       have cCo:∀{w},Bw wc w->Hid (CB 23 #[z.p] w (.agg #[c.blocks,c.bytes,c.frames,c.fan,c.buffer,c.leaf,c.key,c.val])):=fun hb=>H6 (HR.out.sv.kept hT1 hb) hT1
       have cSt:∀{w},Bw wc w->Hid (CB 24 #[z.p] w (.agg #[.int .u64 (r11:Int),.int .u64 (u11:Int)])):=fun hb=>KH (HR.out.sv.kept hT1 hb) hT1
       have cDs:∀{w},Bw wc w->Hid (CB 25 #[z.g] w (.agg #[.int .u64 (r11:Int),.int .u64 (u11:Int)])):=fun hb=>by
        obtain ⟨S,ls,hd,-⟩:=(HR.out.sv.kept hT1 hb).dev;exact Dv.uJ hd
       have hq1:=NP c;have hq2:=NQ (r11:Int) (u11:Int);have hwu:IntKind.u64.wrap (ask:Int)=(ask:Int):=(by rw [IntKind.wrap_u64];omega);have hwv:IntKind.u64.wrap c.blocks=c.blocks:=(by have:=hnn.2.2.2.1;have:=hnn.2.2.2.2.1;rw [IntKind.wrap_u64];omega);have hwk:IntKind.i64.wrap ((k:Int)+1)=((k+1:Nat):Int):=(by rw [IntKind.wrap_i64];omega);have HG9:Hid (∀{w},Bw wc w->w.cell? ⟨g,9,none⟩=some (.slice (some ⟨h2,0,none⟩) s'.held.length ch2)/\bf 23 w a0 (aZ c)/\bE w h2 ch2 s'.held.length s'.held):=fun hb=>⟨(lW (HR.out.dl.bx.kept hb)).2.2.2.2.2.2.2.2.2.1,HXc.out.kept hb,HR.out.dl.dw.bl.kept hb⟩;clear HXc;by_cases hlk:ask<s'.held.length
       case' pos=>
        have hd1:decide ((ask:Int)<c.blocks)=true:=(by simp;omega);have hbc:∀{w},Bw wc w->w.cell? ⟨h2,ask,none⟩=some (.bool (s'.held.getD ask false)):=fun hb=>(HG9.out hb).2.2.cell hlk
       case' neg=>
        have hd1:decide ((ask:Int)<c.blocks)=false:=(by simp;omega);have hbc:s'.held.getD ask false=false:=(by rw [List.getD_eq_getElem?_getD,List.getElem?_eq_none (by omega)];rfl);rw [hbc] at cHa
       all_goals
        clear hm;generalize s'.held.getD ask false=gb at*;generalize free s'.held=fr at*;generalize cnt s'.held=cn at*;generalize tks s'.held s'.held.length=TK at*;generalize s'.held.length=m at*;have HW0:=hid (Below.refl wc.heap.size wc);have g9:=(HG9.out HW0.out).1;have t9:=tc g9;clear g9;refine ah.aj [] [(0,[]),(1,[]),(2,[]),(3,[]),(4,[]),(5,[]),(6,[]),(7,[]),(9,[]),(10,[]),(8,[]),(11,[]),(12,[]),(13,[]),(14,[]),(15,[]),(16,[]),(17,[]),(18,[]),(19,[]),(20,[]),(21,[]),(22,[]),(23,[]),(24,[]),(25,[]),(26,[]),(27,[]),(28,[]),(29,[]),(30,[]),(31,[]),(32,[]),(33,[]),(34,[]),(35,[]),(36,[]),(37,[]),(38,[]),(39,[]),(40,[]),(41,[]),(42,[]),(43,[]),(44,[]),(45,[]),(46,[])] [8,11] [] (by kernel_rfl) (by kernel_rfl) (by simp) ?_;simp only [ah.pick,ah.aO,dL]
        repeat (refine ah.ak (fun K hK=>?_);go_simp;first|(refine hK _ ?_;clear hK K)|(apply Exists.intro;refine ⟨fun q=>?_,hK _ ?_⟩;(first|(go_at_call 17;exact (cLf q.into.below).out)|(go_at_call 18;exact (cRF q.into.below).out));clear hK K))
        refine ah.aN rfl ah.aF (EvU cn TK) (fun W2 hk _=>?_) (fun y w17 hv hI _ hTd=>?_)
        . go_simp
          have hk2:Bw wc W2:=hk;go_at_call 20
          refine (cHe hk2).out.mono ?_;rintro e w' ⟨⟨v,rfl,hv⟩,hb⟩;exact ⟨_,rfl,hv,Flow.Into.of_below hb⟩
        obtain ⟨A17,m17,rfl,QX⟩:=hv;have Ob:=hid hI.below;have QY:=hid QX;clear t9 cLf cRF cHe QX hI hTd HW0;refine ah.aN rfl ah.aF (EvU cn TK) (fun W2 hk _=>?_) (fun y w18 hv hI _ hTd=>?_)
        . go_simp
          have hk2:Bw w17 W2:=hk;go_at_call 21
          refine (cRo (Ob.out.trans (hk2.mono Ob.out.size))).out.mono ?_;rintro e w' ⟨⟨v,rfl,hv⟩,hb⟩;exact ⟨_,rfl,hv,Flow.Into.of_below hb⟩
        obtain ⟨A18,m18,rfl,QZ⟩:=hv;have zS:=hid (Ob.out.trans (hI.below.mono Ob.out.size));have HU:=hid (And.intro (UL.kept QY.out hI.below) QZ);clear cRo QZ QY Ob hI hTd;have t9:=fun q:ah.aS [] w18 []=>ah.aS.cell (HG9.out zS.out).1 (by simp) q;obtain ⟨x0,x1,x2,x3,x4,x5,x6,x7⟩:=FB (HG9.out zS.out).2.1;have tx0:=tc x0;have tx1:=tc x1;have tx2:=tc x2;have tx3:=tc x3;have tx4:=tc x4;have tx5:=tc x5;have tx6:=tc x6;have tx7:=tc x7;clear x0 x1 x2 x3 x4 x5 x6 x7
        try (have th:=fun q:ah.aS [] w18 []=>ah.aS.cell (hbc zS.out) (by simp) q)
        clear hbc
        repeat (refine ah.ak (fun K hK=>?_);go_simp;first|(refine hK _ ?_;clear hK K)|(apply Exists.intro;refine ⟨fun q=>?_,hK _ ?_⟩;(first|(go_at_call 19;exact (cSa (UL.kept HU.out.1 q.into.below) (UL.kept HU.out.2 q.into.below)).out)|(go_at_call 22;exact (cHa (zS.out.trans (q.into.below.mono zS.out.size))).out)|(go_at_call 23;exact (cCo (zS.out.trans (q.into.below.mono zS.out.size))).out)|(go_at_call 24;exact (cSt (zS.out.trans (q.into.below.mono zS.out.size))).out)|(go_at_call 25;exact (cDs (zS.out.trans (q.into.below.mono zS.out.size))).out));clear hK K))
        refine ah.walk_nil ?_;intro w19 OA _;have OA:Bw w18 w19:=OA;have H19:=hid ((HR.out.kept hT1 (zS.out.trans (OA.mono zS.out.size))).mono (show 200*k+64+2<=200*(k+1) by omega));clear t9 tx0 tx1 tx2 tx3 tx4 tx5 tx6 tx7 OA zS HU HG9 HR cSa cHa cCo cSt cDs hq1 hq2;simp only [lC,List.drop_zero,Nat.zero_add,Nat.reduceAdd];go_wp2_with fail
        go_roundg (N-(k+1))
        case measure=>omega
        case rel=>exact ⟨k+1,F11,s',A2,cl2,h2,ch2,f',r11,u11,by omega,by omega,rfl,by go_num,H19⟩
    . have cG:∀{w},Bw W w->Hid (CB 11 #[.agg (bL n a)] w (.bool true)):=fun hb=>(lT (hni.kept hb) hno).mono fun e w' ⟨⟨v,he,hv⟩,hb⟩=>⟨by
       cases v with
       |true=>exact he
       |false=>exact absurd (hv.1 rfl) hf,hb⟩
      have cG1:=cG hbr;have HW:=hid hbr;clear hni hno hf cG HR hbr hcl
      go_wp2_with (first
       |(go_at_call 11;refine cG1.out.mono ?_;rintro e w5 ⟨rfl,hb⟩;have HW5:=hid (HW.out.trans (hb.mono HW.out.size));clear hb cG1 HW c0 c1 c2 c3 c4 c5 c6)
       |(go_at_call 8;refine (cA HW5.out).out.mono ?_;rintro e w6 ⟨rfl,hb⟩;have HW6:=hid (HW5.out.trans (hb.mono HW5.out.size));clear hb cA))
      go_ret
      exact ⟨rfl,HW6.out⟩
  . have HW:=hid (HB.out.trans (HR.out.sv.below.mono HB.out.size))
    clear HR;by_cases hkN:k<N
    . have P5:40<=k:=by omega
      clear hlt;go_wp2_with (go_at_call 8;refine (cA HW.out).out.mono ?_;rintro e w6 ⟨rfl,hb⟩;have HW6:=hid (HW.out.trans (hb.mono HW.out.size));clear hb cA)
      go_ret
      exact ⟨rfl,HW6.out⟩
    . obtain rfl:k=N:=by omega
      clear hlt;go_wp2_with (go_at_call 8;refine (cA HW.out).out.mono ?_;rintro e w6 ⟨rfl,hb⟩;have HW6:=hid (HW.out.trans (hb.mono HW.out.size));clear hb cA)
      go_ret
      exact ⟨rfl,HW6.out⟩
end Sh
end Go.Proofs.YtjpjjnalpdpljaaGreatDoor
set_option maxRecDepth 100000
namespace Go.Proofs.YtjpjjnalpdpljaaGreatDoor.ShelfPlays
open Go.ChangeShapes Go.WideShapes Go.ChangeAt Go.RowKit
open Go.ChangeMaps (open_string shut_string)
theorem own:ownKnob Tryz.prog.godebug=none:=by kernel_rfl
def pY:List (String × DataW Unit):=[("math/bits.deBruijn64tab",Rows.laid_math_bits_deBruijn64tab)]
theorem contract (H:Type) (enc:TypeId × Value->H) (W:World) (base:Nat) (args:Array Value) (ds gs:List (DataW H)) (before:List MemPlace)
 (hval:∀(j:Nat) t v,Tryz.f3.params[j]? =some t->args[j]? =some v->Value.okWide Tryz.prog W .any base t v)
 (hW:DataW.Whole enc Tryz.prog Tryz.f3.params.toList Rows.shelfPlaysSpec.vars false W args.toList ds gs before)
 (hsz:(DataW.weightsEach Tryz.prog (Tryz.f3.params.toList++Rows.shelfPlaysSpec.plain.varTypes Tryz.prog) (ds++gs)).all (· <=reachBytes)=true) (hL:laidMetH Tryz.prog pY W):
 Calls Tryz.prog 3 args W fun e W'=>∃v,e=.returned v/\Rows.shelfPlaysSpec.post enc Tryz.prog Tryz.f3 false true false false W args v W':=by
 have hW':=hW;obtain ⟨p,q,hA0,hV,rfl,hfz,hnd⟩:=hW;have hA:DataW.TrodAll enc Tryz.prog W 0 (fun _=>true) true Tryz.f3.params.toList args.toList ds p:=hA0;rw [Tryz.params3] at hA hval;obtain ⟨v0,vs0,d0,ds0,p0,q0,N9,rfl,rfl,h0,r0⟩:=trodAll_cons hA;obtain ⟨v1,vs1,d1,ds1,p1,q1,Oa,rfl,rfl,h1,r1⟩:=trodAll_cons r0;obtain ⟨v2,vs2,d2,ds2,p2,q2,Q0,rfl,rfl,h2,r2⟩:=trodAll_cons r1;obtain ⟨rfl,rfl,rfl⟩:=trodAll_nil r2;obtain rfl:args= #[v0,v1,v2]:=by cases args;simp_all
 obtain ⟨rfl,rfl⟩:=trodVars_none hV;obtain ⟨cB,cY,cF,cN,cU,cL,cKy,cV,rfl⟩:=Cf.yP (hval 0 23 v0 rfl rfl) h0
 have zl:∀n∈d1.weights Tryz.prog 24,n<=reachBytes:=fun n hn=>by
  have:=List.all_eq_true.1 hsz n (DataW.weights_mem_each (j:=1) (by rw [Tryz.params3];rfl) rfl n hn);simpa using this
 obtain ⟨Al,l,cl,rfl,hl,ll,ml⟩:=Sh.vK (hval 1 24 v1 rfl rfl) h1 zl;obtain ⟨Sy,rfl,rfl,rfl,mask⟩:=open_int Tryz.underlying25 (hval 2 25 v2 rfl rfl) h2;obtain ⟨ask,rfl,RX⟩:=Args.mq mask;clear hA0;have hL':=Bt.oO hL;simp only [List.append_nil] at hW';refine (Sh.p8 cB cY cF cN cU cL cKy cV Al cl l ask W hl (Nat.le_trans ll ml) RX hL').mono fun e W' ⟨he,hg⟩=>?_;subst he;exact ⟨_,rfl,Post.yO (by kernel_rfl) (by kernel_rfl) hW' rfl rfl rfl Tryz.underlying4 hg⟩
theorem tY (os:Os) (args:Array Value):laidMetH Tryz.prog pY ((World.doorLaid Tryz.prog 400 os).forCall (fun _ _=>0) ⟨#[],args,[]⟩).memory:=
 laidMet_of_run' 8 (by kernel_rfl) (by kernel_rfl)
theorem lifted (os:Os) (started:os.Started) (H:Type) (enc:TypeId × Value->H):
 ReturnsInHanded {} Tryz.checked os 3 .any (fun w args=>(Rows.shelfPlaysSpec.pre enc Tryz.prog Tryz.f3 [] false w args/\laidMetH Tryz.prog pY w)/\sizedMet enc Tryz.prog Tryz.f3 (OpenSpec.ofChange Rows.shelfPlaysSpec) false w args)
  (Rows.shelfPlaysSpec.post enc Tryz.prog Tryz.f3 false true false false):=by
 refine returnsInHanded_of_change_and (C:=Tryz.checked) (X:=fun w _=>laidMetH Tryz.prog pY w) (fun _ _ _ hh h=>h.of_heap hh) own started (by kernel_rfl) Tryz.func3
  (ChangeSpec.witness_shaped (enc:=enc) (C:=Tryz.checked) (os:=os) (X:=fun w _=>laidMetH Tryz.prog pY w) false (World.doorLaid Tryz.prog 400 os) #[.agg #[(0:Int),(0:Int),(0:Int),(0:Int),(0:Int),(0:Int),(0:Int),(0:Int)],(),.int .u32 0] 8 rfl (World.shaped_of_RefB (by kernel_rfl) (by kernel_rfl)) (by kernel_rfl) (by kernel_rfl) (by kernel_rfl) (tY os _)) ?_
 intro W base args ds gs before hval hW _ hsz hL _;exact contract H enc W base args ds gs before hval hW hsz hL
theorem holds:Rows.ShelfPlaysSaid:=
 OpenClaim.holds_of_wide 3 Tryz.f3 rfl rfl rfl rfl rfl rfl rfl ⟨rfl,rfl,rfl,rfl,rfl⟩ rfl rfl rfl rfl rfl (by kernel_rfl) Tryz.func3 (by kernel_rfl)
  (of_decide_eq_true (by kernel_rfl)) (by unfold Func.isWrapper;first|(rw [if_pos (by decide+kernel)];kernel_rfl)|(rw [if_neg (by decide+kernel)];exact ⟨rfl,rfl⟩))
  (fun os started H enc _=>lifted os started H enc)
end Go.Proofs.YtjpjjnalpdpljaaGreatDoor.ShelfPlays
namespace Go.Proofs.YtjpjjnalpdpljaaGreatDoor.ShelfPlays
open Go
theorem card:Rows.ShelfPlaysCardSaid:=
 Claim7.holds_tied_plain_at .later [] [.data] true Rows.shelfPlaysCard.stood.harness false
  holds (fun _ h=>by cases h) (by kernel_rfl) (fun _ h=>by cases h) shelfPlays_row_tie rfl ⟨rfl,rfl⟩ (by kernel_rfl) rfl
  (fun f fn hf hfn=>by
    obtain rfl:f=3:=Option.some.inj ((show Tryz.prog.funcNamed "sluicegate/sluicegatelaw18.ShelfPlays" =some 3 by kernel_rfl).symm.trans hf) |>.symm;obtain rfl:fn=Tryz.f3:=(Option.some.inj (Tryz.func3.symm.trans hfn)).symm
    exact ⟨by kernel_rfl,fun j t ht=>by
     rw [Tryz.params3] at ht;have hm:t∈[23,24,25]:=(by simpa using Array.mem_of_getElem? ht);have hall:([23,24,25].all fun u=> !Tryz.prog.wantsStandIn u)=true:=by kernel_rfl
     exact (show Tryz.prog.wantsStandIn t=false by simpa using List.all_eq_true.1 hall t hm)⟩)
  (by kernel_rfl)
end Go.Proofs.YtjpjjnalpdpljaaGreatDoor.ShelfPlays
