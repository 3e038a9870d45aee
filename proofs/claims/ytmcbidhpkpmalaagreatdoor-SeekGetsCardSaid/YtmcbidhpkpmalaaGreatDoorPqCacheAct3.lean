import Derived.Test.YtmcbidhpkpmalaaGreatDoorPkAR
set_option maxRecDepth 100000
namespace Go.Proofs.YtmcbidhpkpmalaaGreatDoor
open Go.RowKit
open Go.Lib (hid)
namespace Ca
open Mem Dv Cn
section
variable{w w' w1 w2:World}{F F1:List Nat}{p g:Nat}{st st1 st2 t:St}
theorem BM(h:Cw w F p g st){b j:Nat}{f:Fr}(hb:b<4294967296)(hl:look st.fr b=some (j,f))(hp:2<=f.2.2.2)(hp2:f.2.2.2<=1000000):
 Calls Tryz.prog 39 #[p,.int .u32 (b:Int)] w fun e w'=>e=.returned (0:Int)/\Aft w w' F p g { st with fr:=st.fr.set j (some (f.1,f.2.1,f.2.2.1,f.2.2.2-1)) }:=by
 have hgd:=h.good.xI b;unfold eu at hgd;rw[hl]at hgd;simp only[if_neg (show ¬f.2.2.2=0 by omega),if_neg (show ¬f.2.2.2=1 by omega)]at hgd;have HG:=hid hgd;obtain⟨S,fb,mp,ch,cb,qk,h1,h2,h3,h4,h5,h6⟩:=h;obtain⟨hf,rfl⟩:=aL hl;obtain⟨b,x,d,n⟩:=f;simp only at hp hp2 hb;have cP:=hid (ig h1 hb hf (kI h5.uq hf) (by omega));have H1:=hid h1;have HF:=hid hf;have HS:=hid (And.intro h2 (And.intro h3 (And.intro h4 h6)));have H5:=hid h5;have hwr:IntKind.i64.wrap ((n:Int)-1)=((n-1:Nat):Int):=by rw[IntKind.wrap_i64];omega
 have hn0:(((n-1:Nat):Int)==0)=false:=by simp;omega
 clear h1 h2 h3 h4 h5 h6 hf hl hgd;go_enter Tryz.func39,Tryz.ntmps39
 go_upto_region 4 with(go_at_call 72;refine cP.mono ?_;rintro e w1 ⟨rfl,hb1⟩)
 have h1:=H1.kept hb1;obtain⟨-,-,-,d3⟩:=h1.fw.cell HF.out;simp only[f3]at d3;have k3:=h1.fw.free (j*4+3);have H1':=hid h1;have HB1:=hid hb1;clear h1 hb1 cP;go_upto_region 5 with fail
 have hi2:=aS w1 ⟨fb,j*4+3,none⟩ (.int .i64 ((n-1:Nat):Int));have h2:=H1'.wF (d':=d) (n':=n-1) HF.out hi2 (H1'.fw.pin HF.out (n-1));obtain⟨-,-,-,e3⟩:=h2.fw.cell (j:=j) (fM HF.out);simp only[f3]at e3;clear d3 k3;generalize w1.setCell ⟨fb,j*4+3,none⟩ ((n-1:Nat):Int)=w2 at*;have H2:=hid h2;have HI2:=hid hi2;clear h2 hi2;generalize ((n-1:Nat):Int)=z at*
 go_wp2
 go_ret
 have hiF:Flow.Into F w w2:=(Flow.Into.of_below HB1.out).trans (HI2.mono fun y hy=>HS.2.1 y (by simp at hy ⊢;exact .inr (.inl hy)));exact⟨rfl,⟨F,Cw.uK HF.out H5.uq H2.out HS.1 HS.2.1 HS.2.2.1 HG.out HS.2.2.2 hiF.size,iV w F⟩,hiF⟩
theorem FQ(h:Cw w F p g st){b j:Nat}{f:Fr}(hb:b<4294967296)(hl:look st.fr b=some (j,f))(hp:f.2.2.2=1):
 Calls Tryz.prog 39 #[p,.int .u32 (b:Int)] w fun e w'=>e=.returned (0:Int)/\Aft w w' F p g { st with fr:=st.fr.set j (some (f.1,f.2.1,f.2.2.1,f.2.2.2-1)),row:=j::del st.row j }:=by
 have hgd:=h.good.xI b;unfold eu at hgd;rw[hl]at hgd;simp only[if_neg (show ¬f.2.2.2=0 by omega),if_pos hp]at hgd;have HG:=hid hgd;obtain⟨S,fb,mp,ch,cb,qk,h1,h2,h3,h4,h5,h6⟩:=h;obtain⟨hf,rfl⟩:=aL hl;obtain⟨b,x,d,n⟩:=f;simp only at hp hb HG ⊢;subst hp;have LJ:=kI h5.uq hf;have cP:=hid (ig h1 hb hf LJ (by omega));have H1:=hid h1;have HF:=hid hf;have HX:=hid LJ;have HS:=hid (And.intro h2 (And.intro h3 (And.intro h4 h6)));have H5:=hid h5;have hj:=hid (aR hf);have hwr:IntKind.i64.wrap ((1:Int)-1)=0:=by rw[IntKind.wrap_i64];omega
 clear h1 h2 h3 h4 h5 h6 hf hl hgd LJ;go_enter Tryz.func39,Tryz.ntmps39
 go_upto_region 4 with(go_at_call 72;refine cP.mono ?_;rintro e w1 ⟨rfl,hb1⟩)
 have h1:=H1.kept hb1;obtain⟨-,-,-,d3⟩:=h1.fw.cell HF.out;simp only[f3]at d3;have d3:w1.cell? ⟨fb,j*4+3,none⟩=some (.int .i64 1):=d3;have k3:=h1.fw.free (j*4+3);have H1':=hid h1;have HB1:=hid hb1;clear h1 hb1 cP;go_upto_region 5 with fail
 have hi2:=aS w1 ⟨fb,j*4+3,none⟩ (.int .i64 0);have h2:=H1'.wF (d':=d) (n':=0) HF.out hi2 (H1'.fw.pin HF.out 0);obtain⟨-,-,-,e3⟩:=h2.fw.cell (j:=j) (fM HF.out);simp only[f3]at e3;have e3:(w1.setCell ⟨fb,j*4+3,none⟩ (0:Int)).cell? ⟨fb,j*4+3,none⟩=some (.int .i64 0):=e3;clear d3 k3;generalize w1.setCell ⟨fb,j*4+3,none⟩ (0:Int)=w2 at*;have H2:=hid h2;have HI2:=hid hi2;clear h2 hi2;go_upto_region 6 with fail
 have hb3:=dV w2;have h3:=H2.kept hb3;obtain⟨-,-,c2,c3⟩:=h3.cells;have hq:=h3.mc.look hb;rw[HX.out]at hq;simp only[Option.getD_some]at hq;have cF:=hid (EM h3.cn (j:=j) (by simpa using hj.out));have H3:=hid h3;have HB3:=hid hb3;refine wp_region_still_tail 10 (by kernel_rfl) (by kernel_rfl) ?_;simp only[List.take_succ_cons,List.take_zero,List.drop_succ_cons,List.drop_zero];clear h3 hb3 e3;generalize { w2 with drawn:=w2.drawn+1 }=w3 at*
 repeat (refine wpStill_step (fun K hK=>?_);go_simp;(refine hK _ ?_;clear hK K))
 refine wpStill_nil ?_;go_wp2_with (go_at_call 74;refine cF.mono ?_;rintro e w4 ⟨z,rfl,hc,hi⟩)
 go_ret
 have hiF:Flow.Into F w w4:=(((Flow.Into.of_below HB1.out).trans (HI2.mono fun y hy=>HS.2.1 y (by simp at hy ⊢;exact .inr (.inl hy)))).trans (Flow.Into.of_below HB3.out)).trans (hi.mono fun y hy=>HS.2.1 y (by simp at hy ⊢;exact .inr (.inr (.inr hy))));exact⟨rfl,⟨F,Cw.uK HF.out H5.uq (H3.toRow hi hc) HS.1 HS.2.1 HS.2.2.1 HG.out HS.2.2.2 hiF.size,iV w F⟩,hiF⟩
theorem Ah{b j:Nat}{f:Fr}(hl:look st.fr b=some (j,f)):bH st b=f.2.2.2:=by unfold bH;rw[hl]
theorem Ai{b:Nat}(hl:look st.fr b=none):bH st b=0:=by unfold bH;rw[hl]
theorem Om(h:Cw w F p g st)(hK:Sm st 1000000){b:Nat}(hb:b<4294967296):Calls Tryz.prog 39 #[p,.int .u32 (b:Int)] w fun e w'=>e=.returned (.int .i64 (eu st b).1)/\Aft w w' F p g (eu st b).2:=by unfold eu;cases hl:look st.fr b with|none=>exact(zV h hb (Ai hl)).mono fun e w' ⟨he,hw⟩=>⟨he,hw▸Aft.same h (Below.refl _ _)⟩|some y=>obtain⟨j,f⟩:=y;by_cases h0:f.2.2.2=0;(. simp only[if_pos h0];exact(zV h hb ((Ah hl).trans h0)).mono fun e w' ⟨he,hw⟩=>⟨he,hw▸Aft.same h (Below.refl _ _)⟩);. simp only[if_neg h0];by_cases h1:f.2.2.2=1;(. simp only[if_pos h1];exact FQ h hb hl h1);. simp only[if_neg h1];exact BM h hb hl (by omega) (hK.p j f (aL hl).1)
theorem IL(h:Cw w F p g st){b j:Nat}{f:Fr}(hb:b<4294967296)(hl:look st.fr b=some (j,f))(hp:0<f.2.2.2):
 Calls Tryz.prog 38 #[p,.int .u32 (b:Int)] w fun e w'=>(∃A k,e=.returned (.tuple #[.slice A st.m k,(0:Int)])/\BL w' A f.2.1/\∀a,A=some a->w.heap.size<=a.block)/\Bw w w':=by
 obtain⟨m1,m2⟩:=h.Qz;obtain⟨S,fb,mp,ch,cb,qk,h1,h2,h3,h4,h5,h6⟩:=h;obtain⟨hf,rfl⟩:=aL hl;obtain⟨b,x,d,n⟩:=f;simp only at hp hb ⊢;have hxm:=(h5.blk _ _ hf).2;simp only at hxm;have cP:=hid (ig h1 hb hf (kI h5.uq hf) hp);have H1:=hid h1;have HF:=hid hf;have HM:=hid (And.intro hxm (And.intro m1 m2));clear h1 h2 h3 h4 h5 h6 hf hl hxm m1 m2;go_enter Tryz.func38,Tryz.ntmps38
 go_upto_region 4 with(go_at_call 72;refine cP.mono ?_;rintro e w1 ⟨rfl,hb1⟩)
 have h1:=H1.kept hb1;obtain⟨-,d1,-,-⟩:=h1.fw.cell HF.out;simp only[f1]at d1;rw[HM.1]at d1;have cC:=xW (some ⟨(qk j).1,0,none⟩) (qk j).2 x w1 (h1.by_ j _ HF.out).bl (by rw[HM.1];exact HM.2.1) (by have:=HM.out;omega);rw[HM.1]at cC;have cC:=hid cC;have HB1:=hid hb1;generalize (qk j).1=Q1 at*;generalize (qk j).2=Q2 at*;clear h1 hb1 cP;go_wp2_with (go_at_call 73;refine cC.mono ?_;rintro e w2 ⟨⟨q,c',C,rfl,hcc,hc1,hc2,hw,hq⟩,hb2⟩)
 refine bodyPost_ret (v:= .tuple #[.slice (some q) st.m c',(0:Int)]) (by simp[results,Tryz.results38,go_sem]) rfl ⟨⟨_,_,rfl,?_,?_⟩,gH HB1.out hb2 (Nat.le_refl _)⟩
 . exact(qz hcc (by omega) hw).2
 . rintro a ha
   (cases ha);exact Nat.le_trans HB1.size hq
theorem BN(h:Cw w F p g st){b j:Nat}{f:Fr}(hb:b<4294967296)(hl:look st.fr b=some (j,f))(hp:0<f.2.2.2){A:Option Addr}{n c:Nat}(hn:n≠f.2.1.length):
 CB 84 #[p,.int .u32 (b:Int),.slice A n c] w (.int .i64 3):=by
 obtain⟨S,fb,mp,ch,cb,qk,h1,h2,h3,h4,h5,h6⟩:=h;obtain⟨hf,rfl⟩:=aL hl;obtain⟨b,x,d,m⟩:=f;simp only at hp hb hn ⊢;have cP:=hid (ig h1 hb hf (kI h5.uq hf) hp);have H1:=hid h1;have HF:=hid hf;have hne:((n:Int)==((x.length:Nat):Int))=false:=by simp;omega
 clear h1 h2 h3 h4 h5 h6 hf hl;go_enter Tryz.func84,Tryz.ntmps84
 go_upto_region 4 with(go_at_call 72;refine cP.mono ?_;rintro e w1 ⟨rfl,hb1⟩)
 have h1:=H1.kept hb1;obtain⟨-,d1,-,-⟩:=h1.fw.cell HF.out;simp only[f1]at d1;have HB1:=hid hb1;generalize (qk j).1=Q1 at*;generalize (qk j).2=Q2 at*;generalize x.length=N at*;clear h1 hb1 cP
 go_wp2
 go_ret
 exact⟨rfl,HB1.out⟩
theorem FR(h:Cw w F p g st){b j:Nat}{f:Fr}(hb:b<4294967296)(hl:look st.fr b=some (j,f))(hp:0<f.2.2.2){A:Option Addr}{c:Nat}{y:List UInt8}(hA:BL w A y)(hy:y.length=f.2.1.length):
 Calls Tryz.prog 84 #[p,.int .u32 (b:Int),.slice A y.length c] w fun e w'=>e=.returned (0:Int)/\Aft w w' F p g { st with fr:=st.fr.set j (some (f.1,y,true,f.2.2.2)) }:=by
 have hgd:=h.good.write b y;unfold eB at hgd;rw[hl]at hgd;simp only[if_neg (show ¬f.2.2.2=0 by omega),if_pos hy]at hgd;have HG:=hid hgd;obtain⟨m1,m2⟩:=h.Qz;obtain⟨S,fb,mp,ch,cb,qk,h1,h2,h3,h4,h5,h6⟩:=h;obtain⟨hf,rfl⟩:=aL hl;obtain⟨b,x,d,n⟩:=f;simp only at hp hb hy HG ⊢;have hxm:=(h5.blk _ _ hf).2;simp only at hxm;have cP:=hid (ig h1 hb hf (kI h5.uq hf) hp);have H1:=hid h1;have HF:=hid hf;have HA:=hid hA;obtain⟨m,hm⟩:=eX y.length;have HM:=hid (And.intro hm (And.intro (hm.trans hy) (by omega:m<=65536)));have HS:=hid (And.intro h2 (And.intro h3 (And.intro h4 h6)));have H5:=hid h5;rw[<-hm];clear h1 h2 h3 h4 h5 h6 hf hl hxm m1 m2 hA hm hy hgd;go_enter Tryz.func84,Tryz.ntmps84
 go_upto_region 4 with(go_at_call 72;refine cP.mono ?_;rintro e w1 ⟨rfl,hb1⟩)
 have h1:=H1.kept hb1;obtain⟨-,d1,d2,-⟩:=h1.fw.cell HF.out;simp only[f1]at d1;rw[<-HM.2.1]at d1;have HA1:=hid (HA.below hb1);have HR1:Hid (Cells 5 w1 (qk j).1 (aD x)):=hid (h1.by_ j _ HF.out);have HB1:=hid hb1;have H1':=hid h1;obtain⟨Q1,hQ1⟩:=eX ((qk j).1);have HQ:=hid hQ1;rw[<-hQ1]at d1 HR1;generalize (qk j).2=Q2 at d1;clear h1 hb1 cP hQ1 d2;go_upto_region 7 with(with_reducible refine eT rfl (.tmp 29) (.tmp 30) _ _ rfl 5 Tryz.underlying26 p9 Q1 0 m Q2 m c A rfl rfl (aD x) y HR1.out HM.out.1.symm HA1.out (Nat.le_refl _) (by rw[bE];have:=HM.out.2.1;omega) ?_;intro w2 hr2 hi2)
 have e2:Go.splice (aD x) 0 (aD y)=aD y:=oh (by rw[bE,bE,<-HM.1,<-HM.2.1])
 have hr2':Row 5 w2 (qk j).1 y:=by
  have:=hr2.out;rw[e2,HQ.out]at this;exact this
 have PW:=hi2.out;rw[HQ.out]at PW;have h2:=H1'.Ms HF.out (by rw[<-HM.1,HM.2.1]) PW hr2';obtain⟨-,-,d2,-⟩:=h2.fw.cell (j:=j) (fM HF.out);have k2:=h2.fw.free (j*4+2);have H2:=hid h2;have HI2:=hid PW;clear h2 PW hr2' e2 d1
 go_wp2
 go_ret
 have hi3:=aS w2 ⟨fb,j*4+2,none⟩ (.bool true);have h3:=H2.wF (d':=true) (n':=n) (j:=j) (fM HF.out) hi3 (H2.fw.dirty (fM HF.out) true);simp only[List.set_set]at h3
 have hiF:Flow.Into F w (w2.setCell ⟨fb,j*4+2,none⟩ (.bool true)):=((Flow.Into.of_below HB1.out).trans (HI2.mono fun y hy=>by
  obtain rfl:y=(qk j).1:=by simpa using hy
  exact HS.2.2.1 j _ HF.out)).trans (hi3.mono fun y hy=>HS.2.1 y (by simp at hy ⊢;exact .inr (.inl hy)))
 exact⟨rfl,⟨F,Cw.uK HF.out H5.uq h3 HS.1 HS.2.1 HS.2.2.1 HG.out HS.2.2.2 hiF.size,iV w F⟩,hiF⟩
theorem Oq(h:Cw w F p g st){b:Nat}(hb:b<4294967296){A:Option Addr}{c:Nat}{y:List UInt8}(hA:BL w A y):Calls Tryz.prog 84 #[p,.int .u32 (b:Int),.slice A y.length c] w fun e w'=>e=.returned (.int .i64 (eB st b y).1)/\Aft w w' F p g (eB st b y).2:=by unfold eB;cases hl:look st.fr b with|none=>exact(zW h hb (Ai hl) _).mono fun e w' ⟨he,hw⟩=>⟨he,hw▸Aft.same h (Below.refl _ _)⟩|some z=>obtain⟨j,f⟩:=z;by_cases h0:f.2.2.2=0;(. simp only[if_pos h0];exact(zW h hb ((Ah hl).trans h0) _).mono fun e w' ⟨he,hw⟩=>⟨he,hw▸Aft.same h (Below.refl _ _)⟩);. simp only[if_neg h0];by_cases h1:y.length=f.2.1.length;(. simp only[if_pos h1];exact FR h hb hl (by omega) hA h1);. simp only[if_neg h1];exact(BN h hb hl (by omega) h1).mono fun e w' ⟨he,hw⟩=>⟨he,Aft.same h hw⟩
end
end Ca
end Go.Proofs.YtmcbidhpkpmalaaGreatDoor
