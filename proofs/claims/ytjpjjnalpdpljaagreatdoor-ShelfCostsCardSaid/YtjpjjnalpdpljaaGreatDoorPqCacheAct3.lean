import Derived.Test.YtjpjjnalpdpljaaGreatDoorPkAO
set_option maxRecDepth 100000
namespace Go.Proofs.YtjpjjnalpdpljaaGreatDoor
open Go.RowKit
namespace Ca
open Mem Dv Cn
section
variable {w w' w1 w2:World} {F F1:List Nat} {p g:Nat} {st st1 st2 t:St}
theorem Unpin_more (h:Cw w F p g st) {b j:Nat} {f:Fr} (hb:b<4294967296) (hl:look st.fr b=some (j,f)) (hp:2<=f.2.2.2) (hp2:f.2.2.2<=1000000):
 Calls Tryz.prog 49 #[.pointer (some ⟨p,0,none⟩), .int .u32 (b:Int)] w fun e w'=>e= .returned (.int .i64 0)/\Aft w w' F p g { st with fr:=st.fr.set j (some (f.1,f.2.1,f.2.2.1,f.2.2.2-1)) }:=by
 have hgd:=h.good.unpin b
 unfold unpinT at hgd
 rw [hl] at hgd
 simp only [if_neg (show ¬f.2.2.2=0 by omega),if_neg (show ¬f.2.2.2=1 by omega)] at hgd
 have HG:=Lib.hid hgd
 obtain ⟨S,fb,mp,ch,cb,qk,h1,h2,h3,h4,h5,h6⟩:=h
 obtain ⟨hf,rfl⟩:=look_some hl
 obtain ⟨b,x,d,n⟩:=f
 simp only at hp hp2 hb
 have cP:=Lib.hid (pinned_some h1 hb hf (ix_at h5.uq hf) (by omega))
 have H1:=Lib.hid h1
 have HF:=Lib.hid hf
 have HS:=Lib.hid (And.intro h2 (And.intro h3 (And.intro h4 h6)))
 have H5:=Lib.hid h5
 have hwr:IntKind.i64.wrap ((n:Int)-1)=((n-1:Nat):Int):=by rw [IntKind.wrap_i64];omega
 have hn0:(((n-1:Nat):Int)==0)=false:=by simp;omega
 clear h1 h2 h3 h4 h5 h6 hf hl hgd
 go_enter Tryz.func49,Tryz.ntmps49
 go_upto_region 4 with (go_at_call 86;refine cP.out.mono ?_;rintro e w1 ⟨rfl,hb1⟩)
 have h1:=H1.out.kept hb1
 obtain ⟨-,-,-,d3⟩:=h1.fw.cell HF.out
 simp only [f3] at d3
 have k3:=h1.fw.free (j*4+3)
 have H1':=Lib.hid h1
 have HB1:=Lib.hid hb1
 clear h1 hb1 cP
 go_upto_region 5 with fail
 have hi2:=into_setCell w1 ⟨fb,j*4+3,none⟩ (.int .i64 ((n-1:Nat):Int))
 have h2:=H1'.out.toMark (d':=d) (n':=n-1) HF.out hi2 (H1'.out.fw.pin HF.out (n-1))
 obtain ⟨-,-,-,e3⟩:=h2.fw.cell (j:=j) (set_eq HF.out)
 simp only [f3] at e3
 clear d3 k3
 generalize w1.setCell ⟨fb,j*4+3,none⟩ (.int .i64 ((n-1:Nat):Int))=w2 at*
 have H2:=Lib.hid h2
 have HI2:=Lib.hid hi2
 clear h2 hi2
 generalize ((n-1:Nat):Int)=z at*
 go_wp2
 go_ret
 have hiF:Flow.Into F w w2:=(Flow.Into.of_below HB1.out).trans (HI2.out.mono fun y hy=>HS.out.2.1 y (by simp at hy ⊢;exact .inr (.inl hy)))
 exact ⟨rfl,⟨F,Cw.of_mark HF.out H5.out.uq H2.out HS.out.1 HS.out.2.1 HS.out.2.2.1 HG.out HS.out.2.2.2 hiF.size,grew_refl w F⟩,hiF⟩
theorem Unpin_one (h:Cw w F p g st) {b j:Nat} {f:Fr} (hb:b<4294967296) (hl:look st.fr b=some (j,f)) (hp:f.2.2.2=1):
 Calls Tryz.prog 49 #[.pointer (some ⟨p,0,none⟩), .int .u32 (b:Int)] w fun e w'=>e= .returned (.int .i64 0)/\Aft w w' F p g { st with fr:=st.fr.set j (some (f.1,f.2.1,f.2.2.1,f.2.2.2-1)),row:=j::del st.row j }:=by
 have hgd:=h.good.unpin b
 unfold unpinT at hgd
 rw [hl] at hgd
 simp only [if_neg (show ¬f.2.2.2=0 by omega),if_pos hp] at hgd
 have HG:=Lib.hid hgd
 obtain ⟨S,fb,mp,ch,cb,qk,h1,h2,h3,h4,h5,h6⟩:=h
 obtain ⟨hf,rfl⟩:=look_some hl
 obtain ⟨b,x,d,n⟩:=f
 simp only at hp hb HG ⊢
 subst hp
 have hixb:=ix_at h5.uq hf
 have cP:=Lib.hid (pinned_some h1 hb hf hixb (by omega))
 have H1:=Lib.hid h1
 have HF:=Lib.hid hf
 have HX:=Lib.hid hixb
 have HS:=Lib.hid (And.intro h2 (And.intro h3 (And.intro h4 h6)))
 have H5:=Lib.hid h5
 have hj:=Lib.hid (lt_of_get hf)
 have hwr:IntKind.i64.wrap ((1:Int)-1)=0:=by rw [IntKind.wrap_i64];omega
 clear h1 h2 h3 h4 h5 h6 hf hl hgd hixb
 go_enter Tryz.func49,Tryz.ntmps49
 go_upto_region 4 with (go_at_call 86;refine cP.out.mono ?_;rintro e w1 ⟨rfl,hb1⟩)
 have h1:=H1.out.kept hb1
 obtain ⟨-,-,-,d3⟩:=h1.fw.cell HF.out
 simp only [f3] at d3
 have d3:w1.cell? ⟨fb,j*4+3,none⟩=some (.int .i64 1):=d3
 have k3:=h1.fw.free (j*4+3)
 have H1':=Lib.hid h1
 have HB1:=Lib.hid hb1
 clear h1 hb1 cP
 go_upto_region 5 with fail
 have hi2:=into_setCell w1 ⟨fb,j*4+3,none⟩ (.int .i64 0)
 have h2:=H1'.out.toMark (d':=d) (n':=0) HF.out hi2 (H1'.out.fw.pin HF.out 0)
 obtain ⟨-,-,-,e3⟩:=h2.fw.cell (j:=j) (set_eq HF.out)
 simp only [f3] at e3
 have e3:(w1.setCell ⟨fb,j*4+3,none⟩ (.int .i64 0)).cell? ⟨fb,j*4+3,none⟩=some (.int .i64 0):=e3
 clear d3 k3
 generalize w1.setCell ⟨fb,j*4+3,none⟩ (.int .i64 0)=w2 at*
 have H2:=Lib.hid h2
 have HI2:=Lib.hid hi2
 clear h2 hi2
 go_upto_region 6 with fail
 have hb3:=below_drawn w2
 have h3:=H2.out.kept hb3
 obtain ⟨-,-,c2,c3⟩:=h3.cells
 have hq:=h3.mc.look hb
 rw [HX.out] at hq
 simp only [Option.getD_some] at hq
 have cF:=Lib.hid (Front_any h3.cn (j:=j) (by simpa using hj.out))
 have H3:=Lib.hid h3
 have HB3:=Lib.hid hb3
 refine wp_region_still_tail 10 (by kernel_rfl) (by kernel_rfl) ?_
 simp only [List.take_succ_cons,List.take_zero,List.drop_succ_cons,List.drop_zero]
 clear h3 hb3 e3
 generalize { w2 with drawn:=w2.drawn+1 }=w3 at*
 repeat (refine wpStill_step (fun K hK=>?_);go_simp;(refine hK _ ?_;clear hK K))
 refine wpStill_nil ?_
 go_wp2_with (go_at_call 88;refine cF.out.mono ?_;rintro e w4 ⟨z,rfl,hc,hi⟩)
 go_ret
 have hiF:Flow.Into F w w4:=(((Flow.Into.of_below HB1.out).trans (HI2.out.mono fun y hy=>HS.out.2.1 y (by simp at hy ⊢;exact .inr (.inl hy)))).trans (Flow.Into.of_below HB3.out)).trans (hi.mono fun y hy=>HS.out.2.1 y (by simp at hy ⊢;exact .inr (.inr (.inr hy))))
 exact ⟨rfl,⟨F,Cw.of_mark HF.out H5.out.uq (H3.out.toRow hi hc) HS.out.1 HS.out.2.1 HS.out.2.2.1 HG.out HS.out.2.2.2 hiF.size,grew_refl w F⟩,hiF⟩
theorem pinsP_of {b j:Nat} {f:Fr} (hl:look st.fr b=some (j,f)):pinsP st b=f.2.2.2:=by unfold pinsP;rw [hl]
theorem pinsP_no {b:Nat} (hl:look st.fr b=none):pinsP st b=0:=by unfold pinsP;rw [hl]
theorem CUnpin (h:Cw w F p g st) (hK:Sm st 1000000) {b:Nat} (hb:b<4294967296):Calls Tryz.prog 49 #[.pointer (some ⟨p,0,none⟩), .int .u32 (b:Int)] w fun e w'=>e= .returned (.int .i64 (unpinT st b).1)/\Aft w w' F p g (unpinT st b).2:=by
 unfold unpinT
 cases hl:look st.fr b with
 |none=>exact (Unpin_no h hb (pinsP_no hl)).mono fun e w' ⟨he,hw⟩=>⟨he,hw▸Aft.same h (Below.refl _ _)⟩
 |some y=>
  obtain ⟨j,f⟩:=y
  by_cases h0:f.2.2.2=0
  . simp only [if_pos h0]
    exact (Unpin_no h hb ((pinsP_of hl).trans h0)).mono fun e w' ⟨he,hw⟩=>⟨he,hw▸Aft.same h (Below.refl _ _)⟩
  . simp only [if_neg h0]
    by_cases h1:f.2.2.2=1
    . simp only [if_pos h1]
      exact Unpin_one h hb hl h1
    . simp only [if_neg h1]
      exact Unpin_more h hb hl (by omega) (hK.p j f (look_some hl).1)
theorem Read_yes (h:Cw w F p g st) {b j:Nat} {f:Fr} (hb:b<4294967296) (hl:look st.fr b=some (j,f)) (hp:0<f.2.2.2):
 Calls Tryz.prog 48 #[.pointer (some ⟨p,0,none⟩), .int .u32 (b:Int)] w fun e w'=>(∃A k,e= .returned (.tuple #[.slice A st.m k, .int .i64 0])/\BL w' A f.2.1/\∀a,A=some a->w.heap.size<=a.block)/\Below w.heap.size w w':=by
 obtain ⟨m1,m2⟩:=h.m_le
 obtain ⟨S,fb,mp,ch,cb,qk,h1,h2,h3,h4,h5,h6⟩:=h
 obtain ⟨hf,rfl⟩:=look_some hl
 obtain ⟨b,x,d,n⟩:=f
 simp only at hp hb ⊢
 have hxm:=(h5.blk _ _ hf).2
 simp only at hxm
 have cP:=Lib.hid (pinned_some h1 hb hf (ix_at h5.uq hf) hp)
 have H1:=Lib.hid h1
 have HF:=Lib.hid hf
 have HM:=Lib.hid (And.intro hxm (And.intro m1 m2))
 clear h1 h2 h3 h4 h5 h6 hf hl hxm m1 m2
 go_enter Tryz.func48,Tryz.ntmps48
 go_upto_region 4 with (go_at_call 86;refine cP.out.mono ?_;rintro e w1 ⟨rfl,hb1⟩)
 have h1:=H1.out.kept hb1
 obtain ⟨-,d1,-,-⟩:=h1.fw.cell HF.out
 simp only [f1] at d1
 rw [HM.out.1] at d1
 have cC:=Clone_bytes (some ⟨(qk j).1,0,none⟩) (qk j).2 x w1 (h1.by_ j _ HF.out).bl (by rw [HM.out.1];exact HM.out.2.1) (by have:=HM.out;omega)
 rw [HM.out.1] at cC
 have cC:=Lib.hid cC
 have HB1:=Lib.hid hb1
 generalize (qk j).1=Q1 at*
 generalize (qk j).2=Q2 at*
 clear h1 hb1 cP
 go_wp2_with (go_at_call 87;refine cC.out.mono ?_;rintro e w2 ⟨⟨q,c',C,rfl,hcc,hc1,hc2,hw,hq⟩,hb2⟩)
 refine bodyPost_ret (v:= .tuple #[.slice (some ⟨q,0,none⟩) st.m c', .int .i64 0]) (by simp [results,Tryz.results48,go_sem]) rfl ⟨⟨_,_,rfl,?_,?_⟩,below_all HB1.out hb2 (Nat.le_refl _)⟩
 . exact (cells_win hcc (by omega) hw).2
 . rintro a ha
   cases ha
   exact Nat.le_trans HB1.out.size hq
theorem Write_form (h:Cw w F p g st) {b j:Nat} {f:Fr} (hb:b<4294967296) (hl:look st.fr b=some (j,f)) (hp:0<f.2.2.2) {A:Option Addr} {n c:Nat} (hn:n≠f.2.1.length):
 Calls Tryz.prog 113 #[.pointer (some ⟨p,0,none⟩), .int .u32 (b:Int), .slice A n c] w fun e w'=>e= .returned (.int .i64 3)/\Below w.heap.size w w':=by
 obtain ⟨S,fb,mp,ch,cb,qk,h1,h2,h3,h4,h5,h6⟩:=h
 obtain ⟨hf,rfl⟩:=look_some hl
 obtain ⟨b,x,d,m⟩:=f
 simp only at hp hb hn ⊢
 have cP:=Lib.hid (pinned_some h1 hb hf (ix_at h5.uq hf) hp)
 have H1:=Lib.hid h1
 have HF:=Lib.hid hf
 have hne:((n:Int)==((x.length:Nat):Int))=false:=by simp;omega
 clear h1 h2 h3 h4 h5 h6 hf hl
 go_enter Tryz.func113,Tryz.ntmps113
 go_upto_region 4 with (go_at_call 86;refine cP.out.mono ?_;rintro e w1 ⟨rfl,hb1⟩)
 have h1:=H1.out.kept hb1
 obtain ⟨-,d1,-,-⟩:=h1.fw.cell HF.out
 simp only [f1] at d1
 have HB1:=Lib.hid hb1
 generalize (qk j).1=Q1 at*
 generalize (qk j).2=Q2 at*
 generalize x.length=N at*
 clear h1 hb1 cP
 go_wp2
 go_ret
 exact ⟨rfl,HB1.out⟩
theorem Write_yes (h:Cw w F p g st) {b j:Nat} {f:Fr} (hb:b<4294967296) (hl:look st.fr b=some (j,f)) (hp:0<f.2.2.2) {A:Option Addr} {c:Nat} {y:List UInt8} (hA:BL w A y) (hy:y.length=f.2.1.length):
 Calls Tryz.prog 113 #[.pointer (some ⟨p,0,none⟩), .int .u32 (b:Int), .slice A y.length c] w fun e w'=>e= .returned (.int .i64 0)/\Aft w w' F p g { st with fr:=st.fr.set j (some (f.1,y,true,f.2.2.2)) }:=by
 have hgd:=h.good.write b y
 unfold writeT at hgd
 rw [hl] at hgd
 simp only [if_neg (show ¬f.2.2.2=0 by omega),if_pos hy] at hgd
 have HG:=Lib.hid hgd
 obtain ⟨m1,m2⟩:=h.m_le
 obtain ⟨S,fb,mp,ch,cb,qk,h1,h2,h3,h4,h5,h6⟩:=h
 obtain ⟨hf,rfl⟩:=look_some hl
 obtain ⟨b,x,d,n⟩:=f
 simp only at hp hb hy HG ⊢
 have hxm:=(h5.blk _ _ hf).2
 simp only at hxm
 have cP:=Lib.hid (pinned_some h1 hb hf (ix_at h5.uq hf) hp)
 have H1:=Lib.hid h1
 have HF:=Lib.hid hf
 have HA:=Lib.hid hA
 obtain ⟨m,hm⟩:∃m,m=y.length:=⟨_,rfl⟩
 have HM:=Lib.hid (And.intro hm (And.intro (hm.trans hy) (by omega:m<=65536)))
 have HS:=Lib.hid (And.intro h2 (And.intro h3 (And.intro h4 h6)))
 have H5:=Lib.hid h5
 rw [<-hm]
 clear h1 h2 h3 h4 h5 h6 hf hl hxm m1 m2 hA hm hy hgd
 go_enter Tryz.func113,Tryz.ntmps113
 go_upto_region 4 with (go_at_call 86;refine cP.out.mono ?_;rintro e w1 ⟨rfl,hb1⟩)
 have h1:=H1.out.kept hb1
 obtain ⟨-,d1,d2,-⟩:=h1.fw.cell HF.out
 simp only [f1] at d1
 rw [<-HM.out.2.1] at d1
 have HA1:=Lib.hid (HA.out.below hb1)
 have HR1:Hid (Cells 5 w1 (qk j).1 (bytesV x)):=Lib.hid (h1.by_ j _ HF.out)
 have HB1:=Lib.hid hb1
 have H1':=Lib.hid h1
 obtain ⟨Q1,hQ1⟩:∃Q,Q=(qk j).1:=⟨_,rfl⟩
 have HQ:=Lib.hid hQ1
 rw [<-hQ1] at d1 HR1
 generalize (qk j).2=Q2 at d1
 clear h1 hb1 cP hQ1 d2
 go_upto_region 7 with (with_reducible refine wpList_copy_into rfl (.tmp 29) (.tmp 30) _ _ rfl 5 Tryz.underlying72 u8size Q1 0 m Q2 m c A rfl rfl (bytesV x) y HR1.out HM.out.1.symm HA1.out (Nat.le_refl _) (by rw [bytesV_length];have:=HM.out.2.1;omega) ?_;intro w2 hr2 hi2)
 have e2:Go.splice (bytesV x) 0 (bytesV y)=bytesV y:=splice_whole (by rw [bytesV_length,bytesV_length,<-HM.out.1,<-HM.out.2.1])
 have hr2':Row 5 w2 (qk j).1 y:=by
  have:=hr2.out
  rw [e2,HQ.out] at this
  exact this
 have hi2':=hi2.out
 rw [HQ.out] at hi2'
 have h2:=H1'.out.toBytes HF.out (by rw [<-HM.out.1,HM.out.2.1]) hi2' hr2'
 obtain ⟨-,-,d2,-⟩:=h2.fw.cell (j:=j) (set_eq HF.out)
 have k2:=h2.fw.free (j*4+2)
 have H2:=Lib.hid h2
 have HI2:=Lib.hid hi2'
 clear h2 hi2' hr2' e2 d1
 go_wp2
 go_ret
 have hi3:=into_setCell w2 ⟨fb,j*4+2,none⟩ (.bool true)
 have h3:=H2.out.toMark (d':=true) (n':=n) (j:=j) (set_eq HF.out) hi3 (H2.out.fw.dirty (set_eq HF.out) true)
 simp only [List.set_set] at h3
 have hiF:Flow.Into F w (w2.setCell ⟨fb,j*4+2,none⟩ (.bool true)):=((Flow.Into.of_below HB1.out).trans (HI2.out.mono fun y hy=>by
  obtain rfl:y=(qk j).1:=by simpa using hy
  exact HS.out.2.2.1 j _ HF.out)).trans (hi3.mono fun y hy=>HS.out.2.1 y (by simp at hy ⊢;exact .inr (.inl hy)))
 exact ⟨rfl,⟨F,Cw.of_mark HF.out H5.out.uq h3 HS.out.1 HS.out.2.1 HS.out.2.2.1 HG.out HS.out.2.2.2 hiF.size,grew_refl w F⟩,hiF⟩
theorem CWrite (h:Cw w F p g st) {b:Nat} (hb:b<4294967296) {A:Option Addr} {c:Nat} {y:List UInt8} (hA:BL w A y):Calls Tryz.prog 113 #[.pointer (some ⟨p,0,none⟩), .int .u32 (b:Int), .slice A y.length c] w fun e w'=>e= .returned (.int .i64 (writeT st b y).1)/\Aft w w' F p g (writeT st b y).2:=by
 unfold writeT
 cases hl:look st.fr b with
 |none=>exact (Write_no h hb (pinsP_no hl) _).mono fun e w' ⟨he,hw⟩=>⟨he,hw▸Aft.same h (Below.refl _ _)⟩
 |some z=>
  obtain ⟨j,f⟩:=z
  by_cases h0:f.2.2.2=0
  . simp only [if_pos h0]
    exact (Write_no h hb ((pinsP_of hl).trans h0) _).mono fun e w' ⟨he,hw⟩=>⟨he,hw▸Aft.same h (Below.refl _ _)⟩
  . simp only [if_neg h0]
    by_cases h1:y.length=f.2.1.length
    . simp only [if_pos h1]
      exact Write_yes h hb hl (by omega) hA h1
    . simp only [if_neg h1]
      exact (Write_form h hb hl (by omega) h1).mono fun e w' ⟨he,hw⟩=>⟨he,Aft.same h hw⟩
def Told (w w':World) (x:List UInt8) (z:Int) (e:Ending):Prop:=(∃A k,e= .returned (.tuple #[.slice A x.length k, .int .i64 z])/\BL w' A x)/\Below w.heap.size w w'
theorem Drop_no (h:Cw w F p g st) {b:Nat} (hb:b<4294967296) (hp:0<pinsP st b):Calls Tryz.prog 75 #[.pointer (some ⟨p,0,none⟩), .int .u32 (b:Int)] w fun e w'=>e= .returned (.int .i64 8)/\w=w':=by
 have cM:=Lib.hid (CisMade h)
 have cN:=Lib.hid (CPins h hb)
 generalize pinsP st b=n at*
 clear h
 go_enter Tryz.func75,Tryz.ntmps75
 go_wp2_with (first
  |(go_at_call 94;refine cM.out.mono ?_;rintro e w' ⟨rfl,rfl⟩)
  |(go_at_call 116;refine cN.out.mono ?_;rintro e w' ⟨rfl,rfl⟩))
 go_ret
 exact ⟨rfl,rfl⟩
theorem Drop_none (h:Cw w F p g st) {b:Nat} (hb:b<4294967296) (hl:look st.fr b=none):Calls Tryz.prog 75 #[.pointer (some ⟨p,0,none⟩), .int .u32 (b:Int)] w fun e w'=>e= .returned (.int .i64 0)/\w=w':=by
 have cM:=Lib.hid (CisMade h)
 have cN:=CPins h hb
 rw [pinsP_no hl] at cN
 have cN:=Lib.hid cN
 obtain ⟨S,fb,mp,ch,cb,qk,h1,h2,h3,h4,h5,h6⟩:=h
 obtain ⟨-,-,c2,-⟩:=h1.cells
 have hq:=look_ok h1 hb hl
 clear h1 h2 h3 h4 h5 h6 hl
 go_enter Tryz.func75,Tryz.ntmps75
 go_wp2_with (first
  |(go_at_call 94;refine cM.out.mono ?_;rintro e w' ⟨rfl,rfl⟩)
  |(go_at_call 116;refine cN.out.mono ?_;rintro e w' ⟨rfl,rfl⟩))
 go_ret
 exact ⟨rfl,rfl⟩
theorem Drop_some (h:Cw w F p g st) {b j:Nat} {f:Fr} (hb:b<4294967296) (hl:look st.fr b=some (j,f)) (hp:f.2.2.2=0):Calls Tryz.prog 75 #[.pointer (some ⟨p,0,none⟩), .int .u32 (b:Int)] w fun e w'=>e= .returned (.int .i64 0)/\Aft w w' F p g (emptyT st j):=by
 have cM:=Lib.hid (CisMade h)
 have cN:=CPins h hb
 rw [(pinsP_of hl).trans hp] at cN
 have cN:=Lib.hid cN
 have cE:=Lib.hid (Cempty h (look_some hl).1)
 obtain ⟨S,fb,mp,ch,cb,qk,h1,h2,h3,h4,h5,h6⟩:=h
 obtain ⟨hf,rfl⟩:=look_some hl
 obtain ⟨-,-,c2,-⟩:=h1.cells
 have hq:=h1.mc.lookOk hb
 rw [ix_at h5.uq hf] at hq
 simp only [Option.getD_some,Option.isSome_some] at hq
 clear h1 h2 h3 h4 h5 h6 hl hf
 go_enter Tryz.func75,Tryz.ntmps75
 go_wp2_with (first
  |(go_at_call 94;refine cM.out.mono ?_;rintro e w' ⟨rfl,rfl⟩)
  |(go_at_call 116;refine cN.out.mono ?_;rintro e w' ⟨rfl,rfl⟩)
  |(go_at_call 117;refine cE.out.mono ?_;rintro e w' ⟨rfl,ha⟩))
 go_ret
 exact ⟨rfl,ha⟩
theorem CDrop (h:Cw w F p g st) {b:Nat} (hb:b<4294967296):Calls Tryz.prog 75 #[.pointer (some ⟨p,0,none⟩), .int .u32 (b:Int)] w fun e w'=>e= .returned (.int .i64 (dropT st b).1)/\Aft w w' F p g (dropT st b).2:=by
 unfold dropT
 by_cases hp:0<pinsP st b
 . rw [if_pos hp]
   exact (Drop_no h hb hp).mono fun e w' ⟨he,hw⟩=>⟨he,hw▸Aft.same h (Below.refl _ _)⟩
 . rw [if_neg hp]
   cases hl:look st.fr b with
   |none=>exact (Drop_none h hb hl).mono fun e w' ⟨he,hw⟩=>⟨he,hw▸Aft.same h (Below.refl _ _)⟩
   |some z=>
    obtain ⟨j,f⟩:=z
    exact Drop_some h hb hl (by have:=pinsP_of hl;omega)
end
end Ca
end Go.Proofs.YtjpjjnalpdpljaaGreatDoor
