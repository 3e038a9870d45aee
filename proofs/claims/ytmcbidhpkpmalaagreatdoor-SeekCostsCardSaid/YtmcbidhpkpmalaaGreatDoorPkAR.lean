import Derived.Test.YtmcbidhpkpmalaaGreatDoorPqCacheMem
set_option maxRecDepth 100000
namespace Go.Proofs.YtmcbidhpkpmalaaGreatDoor
open Go.RowKit
open Go.Lib (hid)
namespace Ca
open Mem Dv Cn
section
variable{w:World}{S:List Nat}{p f mp ch cb g k:Nat}{qk:Nat->Nat × Nat}{st:St}{W:Nat->Option Nat}
theorem fT(h:CwW w S p f mp ch cb g qk st W k):CW 101 #[p] w (.bool true):=by obtain⟨c0,c1,c2,c3⟩:=h.cells;clear h c1 c2 c3;go_enter Tryz.func101,Tryz.ntmps101;go_wp2;go_ret;exact⟨rfl,rfl⟩
theorem fH(h:CwW w S p f mp ch cb g qk st W k){b:Nat}(hb:b<st.ls.length):CW 67 #[p,.int .u32 (b:Int)] w (.int .i64 0):=by (have cM:=hid (fT h);have cB:=hid (iQ h.dv);obtain⟨c0,c1,c2,c3⟩:=h.cells;have n1:=h.dv.n1;have n2:=h.dv.n2;obtain⟨n,hn⟩:=eX st.ls.length;rw[<-hn]at cB hb n1 n2;have hwr:IntKind.u32.wrap (n:Int)=(n:Int):=by rw[IntKind.wrap_u32];omega);clear h hn c1 c2 c3;go_enter Tryz.func67,Tryz.ntmps67;go_wp2_with (first|(go_at_call 101;refine cM.mono ?_;rintro e w' ⟨rfl,rfl⟩)|(go_at_call 92;refine cB.mono ?_;rintro e w' ⟨rfl,rfl⟩));go_ret;exact⟨rfl,rfl⟩
theorem iO(h:CwW w S p f mp ch cb g qk st W k){b:Nat}(hb:st.ls.length<=b):CW 67 #[p,.int .u32 (b:Int)] w (.int .i64 4):=by (have cM:=hid (fT h);have cB:=hid (iQ h.dv);obtain⟨c0,c1,c2,c3⟩:=h.cells;have n1:=h.dv.n1;have n2:=h.dv.n2;obtain⟨n,hn⟩:=eX st.ls.length;rw[<-hn]at cB hb n1 n2;have hwr:IntKind.u32.wrap (n:Int)=(n:Int):=by rw[IntKind.wrap_u32];omega);clear h hn c1 c2 c3;go_enter Tryz.func67,Tryz.ntmps67;go_wp2_with (first|(go_at_call 101;refine cM.mono ?_;rintro e w' ⟨rfl,rfl⟩)|(go_at_call 92;refine cB.mono ?_;rintro e w' ⟨rfl,rfl⟩));go_ret;exact⟨rfl,rfl⟩
theorem qN(h:CwW w S p f mp ch cb g qk st W k){b j n:Nat}{x:List UInt8}{d:Bool}(hb:b<4294967296)(hx:st.fr[j]? =some (some (b,x,d,n)))(hW:W b=some j):CW 110 #[p,.int .u32 (b:Int)] w (.int .i64 (n:Int)):=by have cM:=hid (fT h);obtain⟨c0,c1,c2,c3⟩:=h.cells;have hl:=h.mc.wD hb;rw[hW]at hl;simp only[Option.getD_some,Option.isSome_some]at hl;obtain⟨d0,d1,d2,d3⟩:=h.fw.cell hx;have hj:=aR hx;obtain⟨N,hN⟩:=eX st.fr.length;rw[<-hN]at c1 hj;simp only[f3]at d3;clear h hx hW hN c0 c3 d0 d1 d2;go_enter Tryz.func110,Tryz.ntmps110;go_wp2_with (go_at_call 101;refine cM.mono ?_;rintro e w' ⟨rfl,rfl⟩);go_ret;exact⟨rfl,rfl⟩
theorem wE(h:CwW w S p f mp ch cb g qk st W k){b:Nat}(hb:b<4294967296)(hW:W b=none):CW 110 #[p,.int .u32 (b:Int)] w (.int .i64 0):=by have cM:=hid (fT h);obtain⟨c0,c1,c2,c3⟩:=h.cells;have hl:=h.mc.wD hb;rw[hW]at hl;simp only[Option.getD_none,Option.isSome_none]at hl;clear h hW c0 c1 c3;go_enter Tryz.func110,Tryz.ntmps110;go_wp2_with (go_at_call 101;refine cM.mono ?_;rintro e w' ⟨rfl,rfl⟩);go_ret;exact⟨rfl,rfl⟩
end
theorem qO(v0 v2 v3:Value)(A:Option Addr)(m c:Nat)(w:World):CB 106 #[.agg #[v0,.slice A m c,v2,v3]] w (.bool A.isNone):=by have hnil:∀W,(binOp .eql 26 (.slice A m c) (.slice none 0 0)).run Tryz.prog W= .ok (.bool A.isNone) W:=fun W=>Lib.run_eql_slice_nil W _ _ _ _ _ _ _ Tryz.underlying26;go_enter Tryz.func106,Tryz.ntmps106;go_wp2;go_ret;exact⟨rfl,bAx⟩
end Ca
end Go.Proofs.YtmcbidhpkpmalaaGreatDoor
namespace Go.Proofs.YtmcbidhpkpmalaaGreatDoor
open Go.RowKit
open Go.Lib (hid)
open List (drop_succ_cons drop_zero take_succ_cons take_zero)
namespace Ca
open Mem Dv Cn
theorem dV(w:World):Below w.heap.size w { w with drawn:=w.drawn+1 }:=⟨rfl,rfl,rfl,Nat.le_refl _,fun _ _=>rfl⟩
section
variable{w:World}{S:List Nat}{p f mp ch cb g k:Nat}{qk:Nat->Nat × Nat}{st:St}{W:Nat->Option Nat}
theorem yE(h:CwW w S p f mp ch cb g qk st W k){b:Nat}(hb:b<4294967296)(hW:W b=none):CW 72 #[p,.int .u32 (b:Int)] w (.tuple #[.pointer none,(8:Int)]):=by have cM:=hid (fT h);have cP:=hid (wE h hb hW);clear h hb hW;go_enter Tryz.func72,Tryz.ntmps72;go_wp2_with (first|(go_at_call 101;refine cM.mono ?_;rintro e w' ⟨rfl,rfl⟩)|(go_at_call 110;refine cP.mono ?_;rintro e w' ⟨rfl,rfl⟩));exact bodyPost_ret (v:= .tuple #[.pointer none,(8:Int)]) (by simp[results,Tryz.results72,go_sem]) rfl ⟨rfl,rfl⟩
theorem yF(h:CwW w S p f mp ch cb g qk st W k){b j n:Nat}{x:List UInt8}{d:Bool}(hb:b<4294967296)(hx:st.fr[j]? =some (some (b,x,d,n)))(hW:W b=some j)(hn:n=0):CW 72 #[p,.int .u32 (b:Int)] w (.tuple #[.pointer none,(8:Int)]):=by subst hn;have cM:=hid (fT h);have cP:=hid (qN h hb hx hW);clear h hb hW;go_enter Tryz.func72,Tryz.ntmps72;go_wp2_with (first|(go_at_call 101;refine cM.mono ?_;rintro e w' ⟨rfl,rfl⟩)|(go_at_call 110;refine cP.mono ?_;rintro e w' ⟨rfl,rfl⟩));exact bodyPost_ret (v:= .tuple #[.pointer none,(8:Int)]) (by simp[results,Tryz.results72,go_sem]) rfl ⟨rfl,rfl⟩
theorem ig(h:CwW w S p f mp ch cb g qk st W k){b j n:Nat}{x:List UInt8}{d:Bool}(hb:b<4294967296)(hx:st.fr[j]? =some (some (b,x,d,n)))(hW:W b=some j)(hn:0<n):
 CB 72 #[p,.int .u32 (b:Int)] w (.tuple #[.pointer (some ⟨f,j*4,none⟩),(0:Int)]):=by
 have cM:=hid (fT h);have cP:=hid (qN h hb hx hW);have hn0:((n:Int)==0)=false:=by simp;omega
 have hbw:=dV w;have h2:=h.kept hbw;obtain⟨c0,c1,c2,c3⟩:=h2.cells;have hl:=h2.mc.look hb;rw[hW]at hl;simp only[Option.getD_some]at hl;have hj:=aR hx;obtain⟨N,hN⟩:=eX st.fr.length;rw[<-hN]at c1 hj;have HB:=hid hbw;clear h h2 hx hW hN c0 c3 hn hb hbw;go_enter Tryz.func72,Tryz.ntmps72
 go_wp2_with (first
  |(go_at_call 101;refine cM.mono ?_;rintro e w' ⟨rfl,rfl⟩)
  |(go_at_call 110;refine cP.mono ?_;rintro e w' ⟨rfl,rfl⟩))
 refine wp_region_still_tail 11 (by kernel_rfl) (by kernel_rfl) ?_;simp only[take_succ_cons,take_zero,drop_succ_cons,drop_zero];generalize { w with drawn:=w.drawn+1 }=w2 at*
 repeat (refine wpStill_step (fun K hK=>?_);go_simp;(refine hK _ ?_;clear hK K))
 refine wpStill_nil ?_
 go_wp2
 exact bodyPost_ret (v:= .tuple #[.pointer (some ⟨f,j*4,none⟩),(0:Int)]) (by simp[results,Tryz.results72,go_sem]) rfl ⟨rfl,HB.out⟩
theorem Il(h:CwW w S p f mp ch cb g qk st W k){b j n:Nat}{x:List UInt8}(hx:st.fr[j]? =some (some (b,x,false,n))):
 CW 107 #[p,(j:Int)] w (.tuple #[]):=by
 obtain⟨c0,c1,c2,c3⟩:=h.cells;obtain⟨d0,d1,d2,d3⟩:=h.fw.cell hx;simp only[f2]at d2;have hj:=aR hx;obtain⟨N,hN⟩:=eX st.fr.length;rw[<-hN]at c1 hj;clear h hx hN c0 c2 c3 d0 d1 d3;go_enter Tryz.func107,Tryz.ntmps107
 go_wp2
 go_end0
 exact⟨rfl,rfl⟩
theorem EK(h:CwW w S p f mp ch cb g qk st W k){b j n:Nat}{x:List UInt8}(hx:st.fr[j]? =some (some (b,x,true,n)))(hb:b<st.ls.length)(hl:x.length=st.m)(hs:st.s<=1000000):
 Calls Tryz.prog 107 #[p,(j:Int)] w fun e w'=>e=.returned (.tuple #[])/\(∃S',CwW w' S' p f mp ch cb g qk { st with ls:=st.ls.set b x,s:=st.s+1,fr:=st.fr.set j (some (b,x,false,n)) } W k/\zC w S S')/\Flow.Into (f::S) w w':=by
 have hbw:=dV w;have h2:=h.kept hbw;obtain⟨c0,c1,-,-⟩:=h.cells;obtain⟨-,-,d2,-⟩:=h.fw.cell hx;obtain⟨e0,e1,-,-⟩:=h2.cells;obtain⟨g0,g1,-,-⟩:=h2.fw.cell hx;simp only[f2]at d2;simp only[f0]at g0;simp only[f1]at g1;rw[hl]at g1;have hj:=aR hx;have H2:=hid h2;have HX:=hid hx;have HL:=hid hl;have HS:=hid hs;have HB:=hid hbw;obtain⟨q1,q2⟩:=h2.q1 j _ hx
 have cW:=hid (Hf h2.dv b hb hs (some ⟨(qk j).1,0,none⟩) (qk j).2 x hl (h2.by_ j _ hx).bl (fun a ha=>by
  obtain rfl:(⟨(qk j).1,0,none⟩:Addr)=a:=by simpa using ha
  exact q1))
 obtain⟨N,hN⟩:=eX st.fr.length;rw[<-hN]at c1 e1 hj;generalize (qk j).1=Q1 at*;generalize (qk j).2=Q2 at*;clear h h2 hx hbw hl hs hN q1 q2;go_enter Tryz.func107,Tryz.ntmps107
 go_wp2
 refine wp_region_still_tail 12 (by kernel_rfl) (by kernel_rfl) ?_;simp only[take_succ_cons,take_zero,drop_succ_cons,drop_zero];have hw2:w.heap.size<=({ w with drawn:=w.drawn+1 }:World).heap.size:=Nat.le_refl _;generalize { w with drawn:=w.drawn+1 }=w2 at*
 repeat (refine wpStill_step (fun K hK=>?_);go_simp;(refine hK _ ?_;clear hK K))
 refine wpStill_nil ?_;clear c0 c1 d2 e0 g0 g1;go_upto_region 3 with(go_at_call 140;refine cW.mono ?_;rintro e w3 ⟨rfl,⟨S',hd,hg⟩,hi⟩)
 have h3:=H2.toDev hi hd hg;have HX3:Hid ((({ st with ls:=st.ls.set b x,r:=st.r,s:=st.s+1 }:St).fr)[j]? =some (some (b,x,true,n))):=HX.out;obtain⟨-,-,d2,-⟩:=h3.fw.cell HX.out;simp only[f2]at d2;have hf:=h3.fw.free (j*4+2);have H3:=hid h3;have HI:=hid hi;have HG:=hid hg;clear h3 hi hg hd cW e1;go_upto_region 99 with fail
 go_end0
 have hi4:=aS w3 ⟨f,j*4+2,none⟩ (.bool false);refine⟨rfl,⟨S',H3.wF HX3.out hi4 (H3.fw.dirty HX3.out false),fun y hy=>?_⟩,?_⟩
 . rcases HG.out y hy with h'|h'
   . exact .inl h'
   . exact .inr (by omega)
 . exact((Flow.Into.of_below HB.out).trans (HI.mono fun y hy=>List.mem_cons_of_mem _ hy)).trans (hi4.mono fun y hy=>by
    obtain rfl:y=f:=by simpa using hy
    exact List.mem_cons_self)
theorem EL{g b n:Nat}{l:List Nat}(h:Chn w g b n l){j:Nat}(hj:j<n):Calls Tryz.prog 68 #[g,(j:Int)] w fun e w'=>∃z,e=.returned (z:Int)/\Chn w' g b n (del l j)/\Flow.Into [g,b] w w':=
 (SB h j).mono fun e w' ⟨he,hc,hi⟩=>⟨_,he,by
   unfold Qm at hc;rw[DR hj]at hc
   simpa using hc,hi⟩
theorem zS{g b n:Nat}{l:List Nat}(h:Chn w g b n l){j:Nat}(hj:j<n):Calls Tryz.prog 133 #[g,(j:Int)] w fun e w'=>∃z,e=.returned (z:Int)/\Chn w' g b n (del l j++[j])/\Flow.Into [g,b] w w':=
 (Qo h j).mono fun e w' ⟨he,hc,hi⟩=>⟨_,he,by
   unfold KS at hc;rw[DR hj]at hc
   simpa using hc,hi⟩
theorem EM{g b n:Nat}{l:List Nat}(h:Chn w g b n l){j:Nat}(hj:j<n):Calls Tryz.prog 74 #[g,(j:Int)] w fun e w'=>∃z,e=.returned (z:Int)/\Chn w' g b n (j::del l j)/\Flow.Into [g,b] w w':=
 (ND h j).mono fun e w' ⟨he,hc,hi⟩=>⟨_,he,by
   unfold KR at hc;rw[DR hj]at hc
   simpa using hc,hi⟩
theorem RF{U:TypeId}{w:World}{b:Nat}{v0 v1 v2 v3:Value}(h:w.heap[b]? =some (.cells #[v0,v1,v2,v3] U (0,0))):w.cell? ⟨b,0,none⟩=some v0/\w.cell? ⟨b,1,none⟩=some v1/\w.cell? ⟨b,2,none⟩=some v2/\w.cell? ⟨b,3,none⟩=some v3:=by simp[World.cell?,h]
theorem gH{B:Nat}{w w1 w2:World}(h:Below B w w1)(h2:Bw w1 w2)(hB:B<=w.heap.size):Below B w w2:=h.trans (h2.mono (Nat.le_trans hB h.size))
theorem Im(h:CwW w S p f mp ch cb g qk st W k){j b n:Nat}{y:Option Fr}{x:List UInt8}{d:Bool}{q:Nat × Nat}(hy:st.fr[j]? =some y)(hr:Row 5 w q.1 x)(hS:q.1∉S)(hF:q.1∉[p,f,mp,ch,cb])(ho:∀(i:Nat) (z:Fr),st.fr[i]? =some (some z)->i≠j->(qk i).1≠q.1)(hb:b<4294967296)(hk:k<=65536){k':Nat}(hk':(if (W b).isSome then k else k+1)=k'):
 Calls Tryz.prog 71 #[p,(j:Int),.agg #[.int .u32 (b:Int),.slice (some q.1) x.length q.2,.bool d,(n:Int)]] w fun e w'=>e=.returned (.tuple #[])/\
  CwW w' S p f mp ch cb g (fun i=>if i=j then q else qk i) { st with fr:=st.fr.set j (some (b,x,d,n)),row:=del st.row j } (fun z=>if z=b then some j else W z) k'/\Flow.Into [f,mp,ch,cb] w w':=by
 have hj:=aR hy;have hj5:j<65536:=by have:=h.cn.lt.2.2.2.2.1;omega
 have H:=hid h;have HY:=hid hy;have HR:=hid hr;have HQ:=hid (And.intro hS (And.intro hF ho));have HJ:=hid (And.intro hj hj5);have HK:=hid (And.intro hb hk);have HK':=hid hk';obtain⟨N,hN⟩:=eX st.fr.length;have HN:=hid hN;rw[<-hN]at hj;obtain⟨q1,q2⟩:=q;clear hk' h hy hr hS hF ho hj5 hb hk hN;go_enter Tryz.func71,Tryz.ntmps71
 go_upto_region 1 with fail
 have hb1:Bw w (w.alloc (.cells #[.int .u32 (b:Int),.slice (some q1) x.length q2,.bool d,(n:Int)] 125)):=bAx;have hx1:=heap_alloc_new w (.cells #[.int .u32 (b:Int),.slice (some q1) x.length q2,.bool d,(n:Int)] 125);generalize w.alloc (.cells #[.int .u32 (b:Int),.slice (some q1) x.length q2,.bool d,(n:Int)] 125)=w1 at*;have hb2:=gH hb1 (dV w1) (Nat.le_refl _);have h2:=H.kept hb2;obtain⟨d0,d1,d2,d3⟩:=RF (w:={ w1 with drawn:=w1.drawn+1 }) hx1;have hx2:({ w1 with drawn:=w1.drawn+1 }:World).heap[w.heap.size]? =_:=hx1;have hr2:=HR.kept hb2;have hB2:w.heap.size<({ w1 with drawn:=w1.drawn+1 }:World).heap.size:=(Array.getElem?_eq_some_iff.1 hx2).1;obtain⟨-,c1,-,-⟩:=h2.cells;rw[<-HN.out]at c1;obtain⟨e0,e1,e2,e3⟩:=h2.fw.cell HY.out;have k0:=h2.fw.free (j*4);have k1:=h2.fw.free (j*4+1);have k2:=h2.fw.free (j*4+2);have k3:=h2.fw.free (j*4+3);refine wp_region_still_tail 7 (by kernel_rfl) (by kernel_rfl) ?_;simp only[take_succ_cons,take_zero,drop_succ_cons,drop_zero];have HX2:=hid hx2;have HB2:=hid hb2;have HR2:=hid hr2;have H2:=hid h2;have HS2:=hid hB2;clear hx1 hb1 hx2 hb2 hr2 h2 hB2;generalize { w1 with drawn:=w1.drawn+1 }=w2 at*;have hfB:f<w.heap.size:=H.fw.lt
 repeat (refine wpStill_step (fun K hK=>?_);go_simp;(refine hK _ ?_;clear hK K))
 refine wpStill_nil ?_;go_upto_region 2 with fail
 have hi3:Flow.Into [f] w2 ((((w2.setCell ⟨f,j*4,none⟩ (.int .u32 (b:Int))).setCell ⟨f,j*4+1,none⟩ (.slice (some q1) x.length q2)).setCell ⟨f,j*4+2,none⟩ (.bool d)).setCell ⟨f,j*4+3,none⟩ (n:Int)):=
  (((aS w2 ⟨f,j*4,none⟩ _).trans (aS _ ⟨f,j*4+1,none⟩ _)).trans (aS _ ⟨f,j*4+2,none⟩ _)).trans (aS _ ⟨f,j*4+3,none⟩ _)
 have h3:=H2.N7 (q:=(q1,q2)) (x:=(b,x,d,n)) HY.out HR2.out HQ.1 HQ.2.1 HQ.2.2 hi3 (H2.fw.put HY.out (q1,q2) (some (b,x,d,n)));have hx3:=(hi3.block w.heap.size HS2.out (by simp;omega)).trans HX2.out;clear d0 d1 d2 d3 c1 e0 e1 e2 e3 k0 k1 k2 k3;generalize ((((w2.setCell ⟨f,j*4,none⟩ (.int .u32 (b:Int))).setCell ⟨f,j*4+1,none⟩ (.slice (some q1) x.length q2)).setCell ⟨f,j*4+2,none⟩ (.bool d)).setCell ⟨f,j*4+3,none⟩ (n:Int))=w3 at*;have hb4:=dV w3;have h4:=h3.kept hb4;obtain⟨d0,-,-,-⟩:=RF (w:={ w3 with drawn:=w3.drawn+1 }) hx3;obtain⟨-,-,c2,-⟩:=h4.cells;obtain⟨w5,hrun,hm5,hi5⟩:=h4.mc.store HK.1 HJ.2 HK.2;rw[HK'.out]at hm5;refine wp_region_still_tail 7 (by kernel_rfl) (by kernel_rfl) ?_;simp only[take_succ_cons,take_zero,drop_succ_cons,drop_zero];have H4:=hid h4;have HB4:=hid hb4;have HM5:=hid hm5;have HI5:=hid hi5;have HI3:=hid hi3;clear h3 hx3 h4 hb4 hm5 hi5 hi3;generalize { w3 with drawn:=w3.drawn+1 }=w4 at*
 repeat (refine wpStill_step (fun K hK=>?_);go_simp;(refine hK _ ?_;clear hK K))
 refine wpStill_nil ?_;go_upto_region 3 with fail
 have h5:=H4.N8 HI5.out HM5.out;have cC:=hid (EL h5.cn (j:=j) (by simpa using HJ.1));obtain⟨-,-,-,c3⟩:=h5.cells;have H5:=hid h5;clear h5 d0 c2 hrun;go_wp2_with (go_at_call 68;refine cC.mono ?_;rintro e w6 ⟨z,rfl,hc,hi⟩)
 go_end0
 refine⟨rfl,?_,?_⟩
 . exact H5.toRow hi hc
 . have e1:Flow.Into [f,mp,ch,cb] w w3:=(Flow.Into.of_below HB2.out).trans (HI3.mono fun y hy=>by simp at hy ⊢;exact .inl hy)
   have e2:Flow.Into [f,mp,ch,cb] w3 w5:=(Flow.Into.of_below HB4.out).trans (HI5.mono fun y hy=>by simp at hy ⊢;exact .inr (.inl hy));exact(e1.trans e2).trans (hi.mono fun y hy=>by simp at hy ⊢;exact .inr (.inr hy))
theorem EN(h:CwW w S p f mp ch cb g qk st W k){j b n:Nat}{x:List UInt8}{d:Bool}(hx:st.fr[j]? =some (some (b,x,d,n)))(hW:W b=some j)(hb:b<4294967296):
 Calls Tryz.prog 108 #[p,(j:Int)] w fun e w'=>e=.returned (.tuple #[])/\
  CwW w' S p f mp ch cb g qk { st with fr:=st.fr.set j none,row:=del st.row j++[j] } (fun z=>if z=b then none else W z) (k-1)/\Flow.Into [f,mp,ch,cb] w w':=by
 have hj:=aR hx;have hb2:=dV w;have h2:=h.kept hb2;obtain⟨w3,hrun,hm3,hi3⟩:=h2.mc.drop hb (by rw[hW];rfl) 0;obtain⟨-,c1,c2,-⟩:=h2.cells;obtain⟨e0,-,-,-⟩:=h2.fw.cell hx;simp only[f0]at e0;obtain⟨N,hN⟩:=eX st.fr.length;have HN:=hid hN;have HJ:=hid hj;rw[<-hN]at hj c1;have HX:=hid hx;have HB2:=hid hb2;have H2:=hid h2;have HI3:=hid hi3;have HM3:=hid hm3;clear h hx hW hb hb2 h2 hi3 hm3 hN;go_enter Tryz.func108,Tryz.ntmps108
 go_upto_region 0 with fail
 refine wp_region_still_tail 12 (by kernel_rfl) (by kernel_rfl) ?_;simp only[take_succ_cons,take_zero,drop_succ_cons,drop_zero];generalize { w with drawn:=w.drawn+1 }=w2 at*
 repeat (refine wpStill_step (fun K hK=>?_);go_simp;(refine hK _ ?_;clear hK K))
 refine wpStill_nil ?_;go_upto_region 1 with fail
 have h3:=H2.N8 HI3.out HM3.out;obtain⟨-,c1',-,-⟩:=h3.cells;rw[<-HN.out]at c1';obtain⟨e0',e1,e2,e3⟩:=h3.fw.cell HX.out;have k0:=h3.fw.free (j*4);have k1:=h3.fw.free (j*4+1);have k2:=h3.fw.free (j*4+2);have k3:=h3.fw.free (j*4+3);have H3:=hid h3;clear h3 c1 c2 e0 hrun;go_upto_region 2 with fail
 have hi4:Flow.Into [f] w3 ((((w3.setCell ⟨f,j*4,none⟩ (.int .u32 0)).setCell ⟨f,j*4+1,none⟩ ()).setCell ⟨f,j*4+2,none⟩ (.bool false)).setCell ⟨f,j*4+3,none⟩ (0:Int)):=
  (((aS w3 ⟨f,j*4,none⟩ _).trans (aS _ ⟨f,j*4+1,none⟩ _)).trans (aS _ ⟨f,j*4+2,none⟩ _)).trans (aS _ ⟨f,j*4+3,none⟩ _)
 have h4:=H3.N9 (q:=qk j) hi4 (H3.fw.put HX.out (qk j) none)
 have hqk:(fun i=>if i=j then qk j else qk i)=qk:=by
  funext i;by_cases e:i=j
  . subst e;rw[if_pos rfl]
  . rw[if_neg e]
 rw[hqk]at h4;clear c1' e0' e1 e2 e3 k0 k1 k2 k3;generalize ((((w3.setCell ⟨f,j*4,none⟩ (.int .u32 0)).setCell ⟨f,j*4+1,none⟩ ()).setCell ⟨f,j*4+2,none⟩ (.bool false)).setCell ⟨f,j*4+3,none⟩ (0:Int))=w4 at*;have cB:=hid (zS h4.cn (j:=j) (by simpa using HJ.out));obtain⟨-,-,-,c3⟩:=h4.cells;have H4:=hid h4;have HI4:=hid hi4;clear h4 hi4;go_wp2_with (go_at_call 133;refine cB.mono ?_;rintro e w5 ⟨z,rfl,hc,hi⟩)
 go_end0
 refine⟨rfl,H4.toRow hi hc,?_⟩;have e2:Flow.Into [f,mp,ch,cb] w w3:=(Flow.Into.of_below HB2.out).trans (HI3.mono fun y hy=>by simp at hy ⊢;exact .inr (.inl hy));have e3:Flow.Into [f,mp,ch,cb] w3 w4:=HI4.mono fun y hy=>by simp at hy ⊢;exact .inl hy
 exact(e2.trans e3).trans (hi.mono fun y hy=>by simp at hy ⊢;exact .inr (.inr hy))
end
end Ca
end Go.Proofs.YtmcbidhpkpmalaaGreatDoor
namespace Go.Proofs.YtmcbidhpkpmalaaGreatDoor
open Go.RowKit
open Go.Lib (hid)
open List (mem_cons mem_cons_of_mem)
namespace Ca
open Mem Dv Cn
def Cw(w:World)(F:List Nat)(p g:Nat)(st:St):Prop:=
 ∃S f mp ch cb qk,CwW w S p f mp ch cb g qk st (ix st.fr) (occ st.fr)/\(∀x,x∈S->x∈F)/\(∀x,x∈[p,f,mp,ch,cb]->x∈F)/\(∀(j:Nat) (x:Fr),st.fr[j]? =some (some x)->(qk j).1∈F)/\Good st/\∀x,x∈F->x<w.heap.size
def Aft(w w':World)(F:List Nat)(p g:Nat)(st:St):Prop:=(∃F',Cw w' F' p g st/\zC w F F')/\Flow.Into F w w'
section
variable{w w' w1 w2:World}{F:List Nat}{p g:Nat}{st st1 st2:St}
theorem Cw.good(h:Cw w F p g st):Good st:=by obtain⟨_,_,_,_,_,_,_,_,_,_,h,_⟩:=h;exact h
theorem Cw.lt(h:Cw w F p g st):∀x,x∈F->x<w.heap.size:=by obtain⟨_,_,_,_,_,_,_,_,_,_,_,h⟩:=h;exact h
theorem Cw.kept(h:Cw w F p g st)(hb:Bw w w'):Cw w' F p g st:=by obtain⟨S,f,mp,ch,cb,qk,h1,h2,h3,h4,h5,h6⟩:=h;exact⟨S,f,mp,ch,cb,qk,h1.kept hb,h2,h3,h4,h5,fun x hx=>Nat.lt_of_lt_of_le (h6 x hx) hb.size⟩
theorem iV(w:World)(F:List Nat):zC w F F:=fun _ h=> .inl h
theorem Aft.same(h:Cw w F p g st)(hb:Bw w w'):Aft w w' F p g st:=⟨⟨F,h.kept hb,iV w F⟩,Flow.Into.of_below hb⟩
theorem Aft.behind(hb:Bw w w1)(h:Aft w1 w2 F p g st):Aft w w2 F p g st:=by obtain⟨⟨F1,h1,h2⟩,h3⟩:=h;refine⟨⟨F1,h1,fun x hx=>?_⟩,(Flow.Into.of_below hb).trans h3⟩;rcases h2 x hx with h'|h';(. exact .inl h');. exact .inr (Nat.le_trans hb.size h')
theorem Oa(h:Cw w F p g st){j:Nat}{f:Fr}(hf:st.fr[j]? =some (some f))(hs:st.s<=1000000):Calls Tryz.prog 107 #[p,(j:Int)] w fun e w'=>e=.returned (.tuple #[])/\Aft w w' F p g (bM st j):=by have h':=h;obtain⟨S,fb,mp,ch,cb,qk,h1,h2,h3,h4,h5,h6⟩:=h';obtain⟨b,x,d,n⟩:=f;obtain⟨hb,hl⟩:=h5.blk _ _ hf;cases d with|false=>(refine(Il h1 hf).mono fun e w' ⟨he,hw⟩=>⟨he,?_⟩;subst hw;have e1:bM st j=st:=by unfold bM;rw[hf]);rw[e1];exact Aft.same h (Below.refl _ _)|true=>refine(EK h1 hf hb hl hs).mono fun e w' ⟨he,⟨S',hc,hg⟩,hi⟩=>⟨he,⟨⟨S'++F,?_,fun y hy=>?_⟩,hi.mono fun y hy=>?_⟩⟩;(. (have e1:bM st j={ st with ls:=st.ls.set b x,s:=st.s+1,fr:=st.fr.set j (some (b,x,false,n)) }:=by unfold bM;rw[hf]);have hgd:=h5.clean j;rw[e1]at hgd ⊢;(have hix:ix (st.fr.set j (some (b,x,false,n)))=ix st.fr:=by funext y;refine(Cr (f:=(b,x,false,n)) h5.uq (aR hf) (fun i u hi e=>h5.uq i j u _ hi hf e) (fun u hu=>by rw[hf]at hu;cases hu;rfl) y).trans ?_;by_cases e:y=b;(. subst e;have:=kI h5.uq hf;rw[if_pos rfl];exact this.symm);. rw[if_neg e]);(have hoc:occ (st.fr.set j (some (b,x,false,n)))=occ st.fr:=by have:=sU (y:=some (b,x,false,n)) hf;simpa using this);refine⟨S',fb,mp,ch,cb,qk,?_,fun y hy=>List.mem_append_left _ hy,fun y hy=>List.mem_append_right _ (h3 y hy),fun i u hi=>?_,hgd,fun y hy=>?_⟩;(. show CwW w' S' p fb mp ch cb g qk _ (ix (st.fr.set j (some (b,x,false,n)))) (occ (st.fr.set j (some (b,x,false,n))));rw[hix,hoc];exact hc);(. by_cases e:i=j;(. subst e;exact List.mem_append_right _ (h4 i _ hf));. have:(st.fr.set j (some (b,x,false,n)))[i]? =st.fr[i]? :=dQ e;rw[this]at hi;exact List.mem_append_right _ (h4 i u hi));. rcases List.mem_append.1 hy with hy|hy;(. exact hc.dv.lt y hy);. exact Nat.lt_of_lt_of_le (h6 y hy) hi.size);(. rcases List.mem_append.1 hy with hy|hy;(. rcases hg y hy with h'|h';(. exact .inl (h2 y h'));. exact .inr h');. exact .inl hy);. rcases mem_cons.1 hy with rfl|hy;(. exact h3 _ (by simp));. exact h2 y hy
theorem Ob(h:Cw w F p g st){j:Nat}{f:Fr}(hf:st.fr[j]? =some (some f)):Calls Tryz.prog 108 #[p,(j:Int)] w fun e w'=>e=.returned (.tuple #[])/\Aft w w' F p g (jy st j):=by (obtain⟨S,fb,mp,ch,cb,qk,h1,h2,h3,h4,h5,h6⟩:=h;obtain⟨b,x,d,n⟩:=f;obtain⟨hb,hl⟩:=h5.blk _ _ hf;have hb2:b<4294967296:=by have:=h5.l32;simp only at hb;omega);refine(EN h1 hf (kI h5.uq hf) hb2).mono fun e w' ⟨he,hc,hi⟩=>⟨he,⟨⟨F,?_,iV w F⟩,hi.mono fun y hy=>h3 y (mem_cons_of_mem _ hy)⟩⟩;(have hix:ix (st.fr.set j none)=fun z=>if z=b then none else ix st.fr z:=by funext y;exact Gt h5.uq hf y);(have hoc:occ (st.fr.set j none)=occ st.fr-1:=by have:=sU (y:=none) hf;simp at this;omega);refine⟨S,fb,mp,ch,cb,qk,?_,h2,h3,fun i u hi'=>?_,h5.empty hf,fun y hy=>Nat.lt_of_lt_of_le (h6 y hy) hi.size⟩;(. show CwW w' S p fb mp ch cb g qk _ (ix (st.fr.set j none)) (occ (st.fr.set j none));rw[hix,hoc];exact hc);. have hi2:(st.fr.set j none)[i]? =some (some u):=hi';by_cases e:i=j;(. subst e;rw[fM hf]at hi2;cases hi2);. rw[dQ e]at hi2;exact h4 i u hi2
theorem Oc(h:Cw w F p g st){j b n q c:Nat}{y:Option Fr}{x:List UInt8}{d:Bool}(hy:st.fr[j]? =some y)(hr:Row 5 w q x)(hq:q∉F)(h1':b<st.ls.length)(h2':x.length=st.m)(h3':0<n)(hc':d=false->st.ls[b]? =some x)
 (ho:∀(i:Nat) (u:Fr),st.fr[i]? =some (some u)->u.1=b->i=j) (hn:∀u:Fr,y=some u->u.1=b):
 Calls Tryz.prog 71 #[p,(j:Int),.agg #[.int .u32 (b:Int),.slice (some q) x.length c,.bool d,(n:Int)]] w fun e w'=>e=.returned (.tuple #[])/\
  (∃F',Cw w' F' p g (gI st j (b,x,d,n))/\∀z,z∈F'->z∈F\/z=q)/\Flow.Into F w w':=by
 obtain⟨S,fb,mp,ch,cb,qk,h1,h2,h3,h4,h5,h6⟩:=h;have hb2:b<4294967296:=by have:=h5.l32;omega
 have hk:occ st.fr<=65536:=by have:=M6 st.fr;have:=h5.n2;omega
 have hgd:Good (gI st j (b,x,d,n)):=h5.fill hy h1' h2' h3' hc' ho
 have hix:ix (st.fr.set j (some (b,x,d,n)))=fun z=>if z=b then some j else ix st.fr z:=by
  funext z;exact Cr h5.uq (aR hy) ho (fun u hu=>by rw[hy]at hu;exact hn u (by simpa using hu)) z
 have hoc:(if (ix st.fr b).isSome then occ st.fr else occ st.fr+1)=occ (st.fr.set j (some (b,x,d,n))):=by
  have e1:=sU (y:=some (b,x,d,n)) hy;cases y with
  |none=>
   have:ix st.fr b=none:=fq fun i u hi e=>by
    obtain rfl:=ho i u hi e;rw[hy]at hi;cases hi
   rw[this];simp at e1 ⊢;omega
  |some u=>
   have e2:=hn u rfl;have:ix st.fr b=some j:=e2▸kI h5.uq hy;rw[this];simp at e1 ⊢;omega
 refine(Im (q:=(q,c)) h1 hy hr (fun hh=>hq (h2 _ hh)) (fun hh=>hq (h3 _ hh)) (fun i u hi _=>?_) hb2 hk hoc).mono fun e w' ⟨he,hc,hi⟩=>⟨he,⟨q::F,?_,fun z hz=>?_⟩,hi.mono fun y hy=>h3 y (mem_cons_of_mem _ hy)⟩
 . rintro rfl;exact hq (h4 i u hi)
 . refine⟨S,fb,mp,ch,cb,fun i=>if i=j then(q,c)else qk i,?_,fun z hz=>mem_cons_of_mem _ (h2 z hz),fun z hz=>mem_cons_of_mem _ (h3 z hz),fun i u hi'=>?_,hgd,fun z hz=>?_⟩
   . show CwW w' S p fb mp ch cb g _ _ (ix (st.fr.set j (some (b,x,d,n)))) (occ (st.fr.set j (some (b,x,d,n))))
     rw[hix];exact hc
   . have hi2:(st.fr.set j (some (b,x,d,n)))[i]? =some (some u):=hi'
     by_cases e:i=j
     . simp[e]
     . rw[dQ e]at hi2
       simp only[if_neg e];exact mem_cons_of_mem _ (h4 i u hi2)
   . rcases mem_cons.1 hz with rfl|hz
     . exact Nat.lt_of_lt_of_le hr.lt hi.size
     . exact Nat.lt_of_lt_of_le (h6 z hz) hi.size
 . rcases mem_cons.1 hz with rfl|hz
   . exact .inr rfl
   . exact .inl hz
theorem zT{a:Nat}:∀{l:List Nat} (x:Nat),l.getLast? =some a->lst x l=a
 |[],_,h=>by cases h
 |[y],_,h=>by simpa[lst]using h
 |y::z::r,_,h=>by have:=zT (l:=z::r) y (by simpa using h);simpa[lst]using this
theorem EO(h:Cw w F p g st)(hr:st.row.getLast? =none):Calls Tryz.prog 69 #[p] w fun e w'=>e=.returned (.tuple #[(0:Int),(7:Int)])/\Aft w w' F p g st:=by (have H:=hid h;obtain⟨S,fb,mp,ch,cb,qk,h1,h2,h3,h4,h5,h6⟩:=h;have cL:=hid (KT h1.cn);obtain⟨-,-,-,c3⟩:=h1.cells;have e0:st.row=[]:=by simpa using hr);rw[e0]at cL;simp only[lst,List.length_nil,Nat.lt_irrefl,decide_false]at cL;clear h1 h2 h3 h4 h5 h6 hr e0;go_enter Tryz.func69,Tryz.ntmps69;go_wp2_with (go_at_call 105;refine cL.mono ?_;rintro e w1 ⟨rfl,hb⟩;have HB:=hid hb;clear hb);exact bodyPost_ret (v:= .tuple #[(0:Int),(7:Int)]) (by simp[results,Tryz.results69,go_sem]) rfl ⟨rfl,Aft.same H.out HB.out⟩
theorem sK{a:Nat}{l:List Nat}(hr:l.getLast? =some a):((lst 0 l:Nat):Int)=(a:Int)/\decide (0<l.length)=true:=by refine⟨by rw[zT 0 hr],?_⟩;cases l with|nil=>cases hr|cons x r=>simp
theorem EP(h:Cw w F p g st){a:Nat}(hr:st.row.getLast? =some a)(hf:st.fr[a]? =some none):Calls Tryz.prog 69 #[p] w fun e w'=>e=.returned (.tuple #[(a:Int),(0:Int)])/\Aft w w' F p g st:=by have H:=hid h;obtain⟨S,fb,mp,ch,cb,qk,h1,h2,h3,h4,h5,h6⟩:=h;have cL:=hid (KT h1.cn);obtain⟨-,-,-,c3⟩:=h1.cells;obtain⟨e1,e2⟩:=sK hr;rw[e1,e2]at cL;have HF:=hid hf;have hj:=aR hf;have H1:=hid h1;have cE:=fun w=>hid (qO (.int .u32 0) (.bool false) (.int .i64 0) none 0 0 w);obtain⟨N,hN⟩:=eX st.fr.length;have HN:=hid hN;rw[<-hN]at hj;clear h1 h2 h3 h4 h5 h6 hr e1 e2 hf hN;go_enter Tryz.func69,Tryz.ntmps69;go_upto_region 4 with(go_at_call 105;refine cL.mono ?_;rintro e w1 ⟨rfl,hb⟩;have HB:=hid hb;clear hb);have h1:=H1.kept HB.out;obtain⟨-,c1,-,-⟩:=h1.cells;rw[<-HN.out]at c1;obtain⟨d0,d1,d2,d3⟩:=h1.fw.cell HF.out;simp only[f0,f1,f2,f3]at d0 d1 d2 d3;clear h1 c3;go_wp2_with (go_at_call 106;refine(cE _).mono ?_;rintro e w2 ⟨rfl,hb⟩;have HB2:=hid hb;clear hb);exact bodyPost_ret (v:= .tuple #[(a:Int),(0:Int)]) (by simp[results,Tryz.results69,go_sem]) rfl ⟨rfl,Aft.same H.out (gH HB.out HB2.out (Nat.le_refl _))⟩
theorem ES(h:Cw w F p g st){a:Nat}{f:Fr}(hr:st.row.getLast? =some a)(hf:st.fr[a]? =some (some f))(hs:st.s<=1000000):Calls Tryz.prog 69 #[p] w fun e w'=>e=.returned (.tuple #[(a:Int),(0:Int)])/\Aft w w' F p g (jy (bM st a) a):=by have H:=hid h;obtain⟨S,fb,mp,ch,cb,qk,h1,h2,h3,h4,h5,h6⟩:=h;obtain⟨b,x,d,n⟩:=f;have cL:=hid (KT h1.cn);obtain⟨-,-,-,c3⟩:=h1.cells;obtain⟨e1,e2⟩:=sK hr;rw[e1,e2]at cL;have HF:=hid hf;have hj:=aR hf;have H1:=hid h1;have HS:=hid hs;have cE:=fun w=>hid (qO (.int .u32 (b:Int)) (.bool d) (.int .i64 (n:Int)) (some ⟨(qk a).1,0,none⟩) x.length (qk a).2 w);simp only[Option.isNone_some]at cE;obtain⟨N,hN⟩:=eX st.fr.length;have HN:=hid hN;rw[<-hN]at hj;clear h1 h2 h3 h4 h5 h6 hr e1 e2 hf hN hs;go_enter Tryz.func69,Tryz.ntmps69;go_upto_region 4 with(go_at_call 105;refine cL.mono ?_;rintro e w1 ⟨rfl,hb⟩;have HB:=hid hb;clear hb);have h1:=H1.kept HB.out;obtain⟨-,c1,-,-⟩:=h1.cells;rw[<-HN.out]at c1;obtain⟨d0,d1,d2,d3⟩:=h1.fw.cell HF.out;simp only[f0,f1,f2,f3]at d0 d1 d2 d3;clear h1 c3;go_upto_region 5 with(go_at_call 106;refine(cE _).mono ?_;rintro e w2 ⟨rfl,hb⟩;have HB2:=hid hb;clear hb);have hb2:=gH HB.out HB2.out (Nat.le_refl _);have h2:=H.kept hb2;have cC:=hid (Oa h2 HF.out HS.out);have H2:=hid hb2;clear h2 hb2 d0 d1 d2 d3 c1;go_upto_region 6 with(go_at_call 107;refine cC.mono ?_;rintro e w3 ⟨rfl,ha⟩);have hA:=hid (Aft.behind H2.out ha);clear ha;obtain⟨⟨F3,h3,hg3⟩,hi3⟩:=hA.out;have cX:=hid (Ob h3 (oN HF.out));have HG3:=hid hg3;have HI3:=hid hi3;have H3:=hid h3;clear h3 hg3 hi3;go_wp2_with (go_at_call 108;refine cX.mono ?_;rintro e w4 ⟨rfl,ha⟩;have HA4:=hid ha;clear ha);refine bodyPost_ret (v:= .tuple #[(a:Int),(0:Int)]) (by simp[results,Tryz.results69,go_sem]) rfl ⟨rfl,?_⟩;obtain⟨⟨F4,h4,hg4⟩,hi4⟩:=HA4.out;refine⟨⟨F4,h4,fun y hy=>?_⟩,bq HI3.out hi4 HG3.out⟩;rcases hg4 y hy with h'|h';(. exact HG3.out y h');. exact .inr (Nat.le_trans HI3.size h')
def jm(w w':World)(F:List Nat)(p g:Nat)(st:St)(e:Ending):Prop:=match gq st with
 |none=>e=.returned (.tuple #[.int .i64 0,.int .i64 7])/\Aft w w' F p g st
 |some (a,t)=>e=.returned (.tuple #[.int .i64 (a:Int),.int .i64 0])/\Aft w w' F p g t
theorem LB(h:Cw w F p g st)(hs:st.s<=1000000):Calls Tryz.prog 69 #[p] w fun e w'=>jm w w' F p g st e:=by cases hr:st.row.getLast? with|none=>refine(EO h hr).mono fun e w' hh=>?_;unfold jm gq;rw[hr];exact hh|some a=>(have hlt:=((h.good.rw a).1 (List.mem_of_getLast? hr)).1;cases hf:st.fr[a]? with|none=>rw[List.getElem?_eq_none_iff]at hf;omega|some y=>(cases y with|none=>refine(EP h hr hf).mono fun e w' hh=>?_;unfold jm gq;simp only[hr,hf];exact hh|some f=>refine(ES h hr hf hs).mono fun e w' hh=>?_;unfold jm gq;simp only[hr,hf];exact hh))
end
end Ca
end Go.Proofs.YtmcbidhpkpmalaaGreatDoor
namespace Go.Proofs.YtmcbidhpkpmalaaGreatDoor
open Go.RowKit
open Go.Lib (hid)
namespace Ca
open Mem Dv Cn
section
variable{w w' w1 w2:World}{F F1:List Nat}{p g:Nat}{st st1 st2:St}
theorem Aft.fin(hi:Flow.Into F w w1)(hg:zC w F F1)(k:Flow.Into F1 w1 w2){q:Nat}(hq:w.heap.size<=q)(h:∃F',Cw w2 F' p g st/\∀z,z∈F'->z∈F1\/z=q):Aft w w2 F p g st:=by obtain⟨F',h1,h2⟩:=h;refine⟨⟨F',h1,fun x hx=>?_⟩,bq hi k hg⟩;rcases h2 x hx with h'|rfl;(. exact hg x h');. exact .inr hq
theorem oz(h:Cw w F p g st)(b:Nat):CW 67 #[p,.int .u32 (b:Int)] w (.int .i64 (if b<st.ls.length then 0 else 4)):=by obtain⟨S,fb,mp,ch,cb,qk,h1,h2,h3,h4,h5,h6⟩:=h;by_cases hb:b<st.ls.length;(. rw[if_pos hb];exact fH h1 hb);. rw[if_neg hb];exact iO h1 (by omega)
theorem LC(h:Cw w F p g st){b:Nat}(hb:b<4294967296):CW 110 #[p,.int .u32 (b:Int)] w (.int .i64 (bH st b:Int)):=by obtain⟨S,fb,mp,ch,cb,qk,h1,h2,h3,h4,h5,h6⟩:=h;unfold bH;cases hl:look st.fr b with|none=>exact wE h1 hb (fq (bL hl))|some y=>obtain⟨j,b',x,d,n⟩:=y;obtain⟨hf,rfl⟩:=aL hl;exact qN h1 hb hf (kI h5.uq hf)
theorem Qy(h:Cw w F p g st){b:Nat}{x:List UInt8}(hx:st.ls[b]? =some x)(hr:st.r<=1000000):Calls Tryz.prog 70 #[g,.int .u32 (b:Int)] w fun e w'=>
 (∃q k,e=.returned (.tuple #[.slice (some (q:Nat)) st.m k,(0:Int)])/\Row 5 w' q x/\w.heap.size<=q)/\Cw w' F p g (vC st)/\Flow.Into F w w':=by
 obtain⟨S,fb,mp,ch,cb,qk,h1,h2,h3,h4,h5,h6⟩:=h;refine(KY h1.dv b x hx hr).mono fun e w' ⟨he,hd,hi⟩=>⟨he,⟨S,fb,mp,ch,cb,qk,?_,h2,h3,h4,h5.read,fun y hy=>Nat.lt_of_lt_of_le (h6 y hy) hi.size⟩,hi.mono fun y hy=>?_⟩
 . exact h1.toDev (hi.mono fun y hy=>by
    obtain rfl:y=g:=by simpa using hy
    exact h1.dv.Rp) hd fun y hy=> .inl hy
 . obtain rfl:y=g:=by simpa using hy
   exact h2 _ h1.dv.Rp
theorem ET(h:Cw w F p g st){b j:Nat}{f:Fr}(hb:b<4294967296)(hl:look st.fr b=some (j,f)):CW 131 #[p,.int .u32 (b:Int)] w (.tuple #[(j:Int),(0:Int)]):=by obtain⟨S,fb,mp,ch,cb,qk,h1,h2,h3,h4,h5,h6⟩:=h;obtain⟨hf,rfl⟩:=aL hl;obtain⟨-,-,c2,-⟩:=h1.cells;have hq:=h1.mc.wD hb;rw[kI h5.uq hf]at hq;simp only[Option.getD_some,Option.isSome_some]at hq;clear h1 h2 h3 h4 h5 h6 hf hl;go_enter Tryz.func131,Tryz.ntmps131;go_wp2;exact bodyPost_ret (v:= .tuple #[(j:Int),(0:Int)]) (by simp[results,Tryz.results131,go_sem]) rfl ⟨rfl,rfl⟩
theorem look_ok{S:List Nat}{f mp ch cb g' k:Nat}{qk:Nat->Nat × Nat}(h:CwW w S p f mp ch cb g' qk st (ix st.fr) k){b:Nat}(hb:b<4294967296)(hl:look st.fr b=none):(Instr.lookup 120 (.map (some mp)) (.int .u32 (b:Int)) true).run Tryz.prog w= .ok (.tuple #[(0:Int),.bool false]) w:=by have hq:=h.mc.wD hb;rw[fq (bL hl)]at hq;simpa using hq
theorem wG(h:Cw w F p g st){b:Nat}(hb:b<4294967296)(hl:look st.fr b=none){z y:Int}{st':St}(hR:Calls Tryz.prog 69 #[p] w fun e w'=>e=.returned (.tuple #[z,y])/\Aft w w' F p g st'):Calls Tryz.prog 131 #[p,.int .u32 (b:Int)] w fun e w'=>e=.returned (.tuple #[z,y])/\Aft w w' F p g st':=by obtain⟨S,fb,mp,ch,cb,qk,h1,h2,h3,h4,h5,h6⟩:=h;obtain⟨-,-,c2,-⟩:=h1.cells;have hq:=look_ok h1 hb hl;have cR:=hid hR;clear h1 h2 h3 h4 h5 h6 hl hR;go_enter Tryz.func131,Tryz.ntmps131;go_wp2_with (go_at_call 69;refine cR.mono ?_;rintro e w' ⟨rfl,ha⟩);exact bodyPost_ret (v:= .tuple #[z,y]) (by simp[results,Tryz.results131,go_sem]) rfl ⟨rfl,ha⟩
theorem LD{fr:List (Option Fr)}(hU:Uq fr){j b n n':Nat}{x x':List UInt8}{d d':Bool}(hf:fr[j]? =some (some (b,x,d,n))):ix (fr.set j (some (b,x',d',n')))=ix fr:=by funext y;refine(Cr (f:=(b,x',d',n')) hU (aR hf) (fun i u hi e=>hU i j u _ hi hf e) (fun u hu=>by rw[hf]at hu;cases hu;rfl) y).trans ?_;by_cases e:y=b;(. subst e;have:=kI hU hf;rw[if_pos rfl];exact this.symm);. rw[if_neg e]
theorem Ip{fr:List (Option Fr)}{j:Nat}{f f':Fr}(hf:fr[j]? =some (some f)):occ (fr.set j (some f'))=occ fr:=by have:=sU (y:=some f') hf;simpa using this
theorem Cw.uK{S:List Nat}{fb mp ch cb:Nat}{qk:Nat->Nat × Nat}{j b n n':Nat}{x x':List UInt8}{d d':Bool}{row':List Nat}(hf:st.fr[j]? =some (some (b,x,d,n)))(hU:Uq st.fr)
 (h:CwW w' S p fb mp ch cb g qk { st with fr:=st.fr.set j (some (b,x',d',n')),row:=row' } (ix st.fr) (occ st.fr)) (h2:∀x,x∈S->x∈F) (h3:∀x,x∈[p,fb,mp,ch,cb]->x∈F) (h4:∀(j:Nat) (x:Fr),st.fr[j]? =some (some x)->(qk j).1∈F)
 (hg:Good { st with fr:=st.fr.set j (some (b,x',d',n')),row:=row' }) (h6:∀x,x∈F->x<w.heap.size) (hs:w.heap.size<=w'.heap.size):Cw w' F p g { st with fr:=st.fr.set j (some (b,x',d',n')),row:=row' }:=by
 refine⟨S,fb,mp,ch,cb,qk,?_,h2,h3,fun i u hi=>?_,hg,fun y hy=>Nat.lt_of_lt_of_le (h6 y hy) hs⟩
 . show CwW w' S p fb mp ch cb g qk _ (ix (st.fr.set j (some (b,x',d',n')))) (occ (st.fr.set j (some (b,x',d',n'))))
   rw[LD hU hf,Ip hf];exact h
 . have hi2:(st.fr.set j (some (b,x',d',n')))[i]? =some (some u):=hi
   by_cases e:i=j
   . subst e;exact h4 i _ hf
   . rw[dQ e]at hi2
     exact h4 i u hi2
theorem LG(h:Cw w F p g st){b:Nat}(hb:st.ls.length<=b):CW 37 #[p,.int .u32 (b:Int)] w (.int .i64 4):=by have cP:=oz h b;rw[if_neg (by omega)]at cP;have cP:=hid cP;clear h;go_enter Tryz.func37,Tryz.ntmps37;go_wp2_with (go_at_call 67;refine cP.mono ?_;rintro e w' ⟨rfl,rfl⟩);go_ret;exact⟨rfl,rfl⟩
theorem LH(h:Cw w F p g st){b j:Nat}{f:Fr}(hb:b<st.ls.length)(hl:look st.fr b=some (j,f))(hp:f.2.2.2<=1000000):
 Calls Tryz.prog 37 #[p,.int .u32 (b:Int)] w fun e w'=>e=.returned (0:Int)/\Aft w w' F p g (gI st j (f.1,f.2.1,f.2.2.1,f.2.2.2+1)):=by
 have cP:=oz h b;rw[if_pos hb]at cP;have cP:=hid cP;have hgd:=h.good.pin b;unfold rC at hgd;rw[if_pos hb,hl]at hgd;have HG:=hid hgd;obtain⟨S,fb,mp,ch,cb,qk,h1,h2,h3,h4,h5,h6⟩:=h;have hb2:b<4294967296:=by have:=h5.l32;omega
 obtain⟨hf,rfl⟩:=aL hl;obtain⟨b,x,d,n⟩:=f;simp only at hp hb hb2;obtain⟨-,c1,c2,-⟩:=h1.cells;have hq:=h1.mc.wD hb2;have LJ:=kI h5.uq hf;simp only at LJ;rw[LJ]at hq;simp only[Option.getD_some,Option.isSome_some]at hq;obtain⟨-,-,-,d3⟩:=h1.fw.cell hf;simp only[f3]at d3;have k3:=h1.fw.free (j*4+3);have hwr:IntKind.i64.wrap ((n:Int)+1)=(n:Int)+1:=by rw[IntKind.wrap_i64];omega
 have hj:=aR hf;have H1:=hid h1;have HF:=hid hf;have HS:=hid (And.intro h2 (And.intro h3 (And.intro h4 h6)));have H5:=hid h5;obtain⟨N,hN⟩:=eX st.fr.length;have HN:=hid hN;rw[<-hN]at hj c1;clear h1 h2 h3 h4 h5 h6 hf hl LJ hgd hN;go_enter Tryz.func37,Tryz.ntmps37
 go_upto_region 7 with(go_at_call 67;refine cP.mono ?_;rintro e w' ⟨rfl,rfl⟩)
 have hi1:=aS w ⟨fb,j*4+3,none⟩ (.int .i64 ((n:Int)+1));have h1:=H1.wF (d':=d) (n':=n+1) HF.out hi1 (by simpa using H1.fw.pin HF.out (n+1));clear d3 k3 c1 c2 hq;generalize w.setCell ⟨fb,j*4+3,none⟩ ((n:Int)+1:Int)=w1 at*;have cC:=hid (EL h1.cn (j:=j) (by simpa using aR HF.out));obtain⟨-,-,-,c3⟩:=h1.cells;have H1':=hid h1;have HI1:=hid hi1;clear h1 hi1;go_wp2_with (go_at_call 68;refine cC.mono ?_;rintro e w2 ⟨z,rfl,hc,hi⟩)
 go_ret
 have hiF:Flow.Into F w w2:=(HI1.mono fun y hy=>HS.2.1 y (by simp at hy ⊢;exact .inr (.inl hy))).trans (hi.mono fun y hy=>HS.2.1 y (by simp at hy ⊢;exact .inr (.inr (.inr hy))));exact⟨rfl,⟨F,Cw.uK HF.out H5.uq (H1'.toRow hi hc) HS.1 HS.2.1 HS.2.2.1 HG.out HS.2.2.2 hiF.size,iV w F⟩,hiF⟩
theorem Iq(h:Cw w F p g st){b:Nat}(hb:b<st.ls.length)(hl:look st.fr b=none)(hs:st.s<=1000000)(hr:gq st=none):
 Calls Tryz.prog 37 #[p,.int .u32 (b:Int)] w fun e w'=>e=.returned (7:Int)/\Aft w w' F p g st:=by
 have cP:=oz h b;rw[if_pos hb]at cP;have cP:=hid cP;have cR:=LB h hs;unfold jm at cR;rw[hr]at cR;simp only at cR;have cR:=hid cR;obtain⟨S,fb,mp,ch,cb,qk,h1,h2,h3,h4,h5,h6⟩:=h;have hb2:b<4294967296:=by have:=h5.l32;omega
 obtain⟨-,-,c2,-⟩:=h1.cells;have hq:=look_ok h1 hb2 hl;clear h1 h2 h3 h4 h5 h6 hl hr hb hs hb2;go_enter Tryz.func37,Tryz.ntmps37
 go_wp2_with (first
  |(go_at_call 67;refine cP.mono ?_;rintro e w' ⟨rfl,rfl⟩)
  |(go_at_call 69;refine cR.mono ?_;rintro e w' ⟨rfl,ha⟩))
 go_ret
 exact⟨rfl,ha⟩
theorem Ir(h:Cw w F p g st){b a:Nat}{t:St}(hb:b<st.ls.length)(hl:look st.fr b=none)(hs:st.s<=1000000)(hrd:st.r<=1000000)(hr:gq st=some (a,t)):
 Calls Tryz.prog 37 #[p,.int .u32 (b:Int)] w fun e w'=>e=.returned (0:Int)/\Aft w w' F p g (gI (vC t) a (b,(t.ls[b]?).getD [],false,1)):=by
 have cP:=oz h b;rw[if_pos hb]at cP;have cP:=hid cP;have cR:=LB h hs;unfold jm at cR;rw[hr]at cR;simp only at cR;have cR:=hid cR;obtain⟨g1,g2,g3,g4,g5,g6,g7⟩:=gu h.good hr;have hbt:b<t.ls.length:=by rw[g4];exact hb
 have hx:t.ls[b]? =some (t.ls[b]):=List.getElem?_eq_getElem hbt;obtain⟨x,hxx⟩:=eX (t.ls[b]);rw[<-hxx]at hx;have hxm:x.length=t.m:=by rw[hxx];exact g1.lm _ (List.getElem_mem hbt)
 rw[hx];simp only[Option.getD_some];have HX:=hid (And.intro hx (And.intro hxm hbt));have HG:=hid (And.intro g1 g2);have HN:=hid (fun(i:Nat) (u:Fr) (hi:t.fr[i]? =some (some u))=>bL hl i u (g5 i u hi));have HR:=hid (by rw[g6];exact hrd:t.r<=1000000);obtain⟨S,fb,mp,ch,cb,qk,h1,h2,h3,h4,h5,h6⟩:=h;have hb2:b<4294967296:=by have:=h5.l32;omega
 obtain⟨-,-,c2,-⟩:=h1.cells;have hq:=look_ok h1 hb2 hl;clear h1 h2 h3 h4 h5 h6 hl hr hb hs hrd hb2 g1 g2 g3 g4 g5 g6 g7 hx hxx hxm hbt;go_enter Tryz.func37,Tryz.ntmps37
 go_upto_region 12 with(first
  |(go_at_call 67;refine cP.mono ?_;rintro e w' ⟨rfl,rfl⟩)
  |(go_at_call 69;refine cR.mono ?_;rintro e w1 ⟨rfl,⟨F1,hc1,hg1⟩,hi1⟩))
 have cD:=hid (Qy hc1 HX.1 HR.out)
 have c0:w1.cell? ⟨p,0,none⟩=some (.pointer (some ⟨g,0,none⟩)):=by
  obtain⟨S,fb,mp,ch,cb,qk,h1,_⟩:=hc1;exact h1.cells.1
 have HG1:=hid (And.intro hg1 (And.intro hi1 hc1.lt));clear hc1 hg1 hi1 hq c2;go_upto_region 13 with(go_at_call 70;refine cD.mono ?_;rintro e w2 ⟨⟨q,k,rfl,hrow,hqs⟩,hc2,hi2⟩)
 have hqF:q∉F1:=fun hm=>by have:=HG1.2.2 q hm;omega
 have cF:=Oc (j:=a) (b:=b) (n:=1) (c:=k) (d:=false) hc2 HG.2 hrow hqF HX.2.2 HX.2.1 (by omega) (fun _=>HX.1) (fun i u hi e=>absurd e (HN.out i u hi)) (fun u hu=>by cases hu);rw[HX.2.1]at cF;have cF:=hid cF;have HQ:=hid hqs;have HI2:=hid hi2;clear hc2 hrow hqF hqs hi2 c0;go_wp2_with (go_at_call 71;refine cF.mono ?_;rintro e w3 ⟨rfl,hF3,hi3⟩)
 go_ret
 exact⟨rfl,Aft.fin HG1.2.1 HG1.1 (HI2.trans hi3) (Nat.le_trans HG1.2.1.size HQ.out) hF3⟩
end
end Ca
namespace Ca
open Mem Dv Cn
section
variable{w w' w1 w2:World}{F F1:List Nat}{p g:Nat}{st st1 st2 t:St}
theorem Tm(h:Cw w F p g st)(hK:Sm st 1000000)(b:Nat):Calls Tryz.prog 37 #[p,.int .u32 (b:Int)] w fun e w'=>e=.returned (.int .i64 (rC st b).1)/\Aft w w' F p g (rC st b).2:=by unfold rC;by_cases hb:b<st.ls.length;(. rw[if_pos hb];cases hl:look st.fr b with|some y=>obtain⟨j,f⟩:=y;exact LH h hb hl (hK.p j f (aL hl).1)|none=>(cases hr:gq st with|none=>exact Iq h hb hl hK.s hr|some y=>obtain⟨a,t⟩:=y;exact Ir h hb hl hK.s hK.r hr));. rw[if_neg hb];exact(LG h (by omega)).mono fun e w' ⟨he,hw⟩=>⟨he,hw▸Aft.same h (Below.refl _ _)⟩
theorem Od(h:Cw w F p g st):CW 93 #[g] w (.int .i64 (st.m:Int)):=by obtain⟨S,fb,mp,ch,cb,qk,h1,h2,h3,h4,h5,h6⟩:=h;exact vQ h1.dv
theorem Cw.Qz(h:Cw w F p g st):1<=st.m/\st.m<=65536:=by obtain⟨S,fb,mp,ch,cb,qk,h1,h2,h3,h4,h5,h6⟩:=h;exact⟨h1.dv.m1,h1.dv.m2⟩
theorem Cw.cell0(h:Cw w F p g st):w.cell? ⟨p,0,none⟩=some (.pointer (some ⟨g,0,none⟩)):=by obtain⟨S,fb,mp,ch,cb,qk,h1,_⟩:=h;exact h1.cells.1
theorem EU(h:Cw w F p g st){b:Nat}(hb:st.ls.length<=b):CW 85 #[p,.int .u32 (b:Int)] w (.int .i64 4):=by have cP:=oz h b;rw[if_neg (by omega)]at cP;have cP:=hid cP;clear h;go_enter Tryz.func85,Tryz.ntmps85;go_wp2_with (go_at_call 67;refine cP.mono ?_;rintro e w' ⟨rfl,rfl⟩);go_ret;exact⟨rfl,rfl⟩
theorem wH(h:Cw w F p g st){b:Nat}(hb:b<st.ls.length)(hp:0<bH st b):CW 85 #[p,.int .u32 (b:Int)] w (.int .i64 8):=by have cP:=oz h b;rw[if_pos hb]at cP;have cP:=hid cP;have cN:=hid (LC h (b:=b) (by have:=h.good.l32;omega));generalize bH st b=n at*;clear h;go_enter Tryz.func85,Tryz.ntmps85;go_wp2_with (first|(go_at_call 67;refine cP.mono ?_;rintro e w' ⟨rfl,rfl⟩)|(go_at_call 110;refine cN.mono ?_;rintro e w' ⟨rfl,rfl⟩));go_ret;exact⟨rfl,rfl⟩
theorem Bp(h:Cw w F p g st){b:Nat}(hb:b<st.ls.length)(hp:bH st b=0)(hS:Calls Tryz.prog 131 #[p,.int .u32 (b:Int)] w fun e w'=>e=.returned (.tuple #[(0:Int),(7:Int)])/\Aft w w' F p g st):Calls Tryz.prog 85 #[p,.int .u32 (b:Int)] w fun e w'=>e=.returned (7:Int)/\Aft w w' F p g st:=by have cP:=oz h b;rw[if_pos hb]at cP;have cP:=hid cP;have cN:=LC h (b:=b) (by have:=h.good.l32;omega);rw[hp]at cN;have cN:=hid cN;have cS:=hid hS;clear h hS;go_enter Tryz.func85,Tryz.ntmps85;go_wp2_with (first|(go_at_call 67;refine cP.mono ?_;rintro e w' ⟨rfl,rfl⟩)|(go_at_call 110;refine cN.mono ?_;rintro e w' ⟨rfl,rfl⟩)|(go_at_call 131;refine cS.mono ?_;rintro e w' ⟨rfl,ha⟩));go_ret;exact⟨rfl,ha⟩
theorem zU(h:Cw w F p g st){b a:Nat}{y:Option Fr}(hb:b<st.ls.length)(hp:bH st b=0)(hS:Calls Tryz.prog 131 #[p,.int .u32 (b:Int)] w fun e w'=>e=.returned (.tuple #[(a:Int),(0:Int)])/\Aft w w' F p g t)
 (hbt:b<t.ls.length) (hy:t.fr[a]? =some y) (ho:∀(i:Nat) (u:Fr),t.fr[i]? =some (some u)->u.1=b->i=a) (hn:∀u:Fr,y=some u->u.1=b):
 Calls Tryz.prog 85 #[p,.int .u32 (b:Int)] w fun e w'=>e=.returned (0:Int)/\Aft w w' F p g (gI t a (b,List.replicate t.m 0,true,1)):=by
 have cP:=oz h b;rw[if_pos hb]at cP;have cP:=hid cP;have cN:=LC h (b:=b) (by have:=h.good.l32;omega);rw[hp]at cN;have cN:=hid cN;have cS:=hid hS;have HY:=hid (And.intro hbt (And.intro hy (And.intro ho hn)));clear h hS hb hp hbt hy ho hn;go_enter Tryz.func85,Tryz.ntmps85
 go_upto_region 9 with(first
  |(go_at_call 67;refine cP.mono ?_;rintro e w' ⟨rfl,rfl⟩)
  |(go_at_call 110;refine cN.mono ?_;rintro e w' ⟨rfl,rfl⟩)
  |(go_at_call 131;refine cS.mono ?_;rintro e w1 ⟨rfl,⟨F1,hc1,hg1⟩,hi1⟩))
 obtain⟨m1,m2⟩:=hc1.Qz;have cB:=hid (Od hc1);have c0:=hc1.cell0;have hmk:=fP (P:=Tryz.prog) Tryz.underlying26 gK rfl (by omega) t.m (by omega) w1;have hbw:Bw w1 (w1.alloc (.cells (Array.replicate t.m (.int .u8 0)) 5)):=bAx
 have hrow:Row 5 (w1.alloc (.cells (Array.replicate t.m (.int .u8 0)) 5)) w1.heap.size (List.replicate t.m 0):=by
  have:=Row.new 5 w1 (List.replicate t.m 0);simpa[aD,kH]using this
 have hqF:w1.heap.size∉F1:=fun hm=>by have:=hc1.lt _ hm;omega
 have cF:=Oc (j:=a) (b:=b) (n:=1) (c:=t.m) (d:=true) (hc1.kept hbw) HY.2.1 hrow hqF HY.1 (by simp) (by omega) (fun hd=>by cases hd) HY.2.2.1 HY.2.2.2;rw[List.length_replicate]at cF;have cF:=hid cF;have HG1:=hid (And.intro hg1 (And.intro hi1 hbw));have HM:=hid (And.intro m1 m2);have hm3:(t.m:Int)<=140737488355328:=by omega
 clear hc1 hg1 hi1 hbw hrow hqF m1 m2
 go_wp2_with (first
  |(go_at_call 93;refine cB.mono ?_;rintro e w' ⟨rfl,rfl⟩)
  |(go_at_call 71;refine cF.mono ?_;rintro e w3 ⟨rfl,hF3,hi3⟩))
 go_ret
 exact⟨rfl,Aft.fin HG1.2.1 HG1.1 ((Flow.Into.of_below HG1.2.2).trans hi3) HG1.2.1.size hF3⟩
theorem Oe(h:Cw w F p g st)(hK:Sm st 1000000)(b:Nat):Calls Tryz.prog 85 #[p,.int .u32 (b:Int)] w fun e w'=>e=.returned (.int .i64 (fB st b).1)/\Aft w w' F p g (fB st b).2:=by unfold fB;by_cases hb:b<st.ls.length;(. (have hb2:b<4294967296:=by have:=h.good.l32;omega);rw[if_pos hb];by_cases hp:0<bH st b;(. rw[if_pos hp];exact(wH h hb hp).mono fun e w' ⟨he,hw⟩=>⟨he,hw▸Aft.same h (Below.refl _ _)⟩);. rw[if_neg hp];have hp0:bH st b=0:=(by omega);cases hl:look st.fr b with|some y=>obtain⟨j,f⟩:=y;obtain⟨hf,he⟩:=aL hl;exact zU h hb hp0 ((ET h hb2 hl).mono fun e w' ⟨he,hw⟩=>⟨he,hw▸Aft.same h (Below.refl _ _)⟩) hb hf (fun i u hi e=>h.good.uq i j u f hi hf (e.trans he.symm)) (fun u hu=>by cases hu;exact he)|none=>(have cR:=LB h hK.s;unfold jm at cR;cases hr:gq st with|none=>rw[hr]at cR;exact Bp h hb hp0 (wG h hb2 hl cR)|some y=>obtain⟨a,t⟩:=y;rw[hr]at cR;obtain⟨g1,g2,g3,g4,g5,g6,g7⟩:=gu h.good hr;have:=zU h hb hp0 (wG h hb2 hl cR) (by rw[g4];exact hb) g2 (fun i u hi e=>absurd e (bL hl i u (g5 i u hi))) (fun u hu=>by cases hu);rw[g3]at this;exact this));. rw[if_neg hb];exact(EU h (by omega)).mono fun e w' ⟨he,hw⟩=>⟨he,hw▸Aft.same h (Below.refl _ _)⟩
theorem sM(h:Cw w F p g st){b:Nat}(hb:b<4294967296)(hp:bH st b=0):CW 72 #[p,.int .u32 (b:Int)] w (.tuple #[.pointer none,(8:Int)]):=by obtain⟨S,fb,mp,ch,cb,qk,h1,h2,h3,h4,h5,h6⟩:=h;unfold bH at hp;cases hl:look st.fr b with|none=>exact yE h1 hb (fq (bL hl))|some y=>obtain⟨j,b',x,d,n⟩:=y;obtain⟨hf,rfl⟩:=aL hl;rw[hl]at hp;exact yF h1 hb hf (kI h5.uq hf) hp
theorem zV(h:Cw w F p g st){b:Nat}(hb:b<4294967296)(hp:bH st b=0):CW 39 #[p,.int .u32 (b:Int)] w (.int .i64 8):=by have cP:=hid (sM h hb hp);clear h;go_enter Tryz.func39,Tryz.ntmps39;go_wp2_with (go_at_call 72;refine cP.mono ?_;rintro e w' ⟨rfl,rfl⟩);go_ret;exact⟨rfl,rfl⟩
theorem zW(h:Cw w F p g st){b:Nat}(hb:b<4294967296)(hp:bH st b=0)(v:Value):CW 84 #[p,.int .u32 (b:Int),v] w (.int .i64 8):=by have cP:=hid (sM h hb hp);clear h;go_enter Tryz.func84,Tryz.ntmps84;go_wp2_with (go_at_call 72;refine cP.mono ?_;rintro e w' ⟨rfl,rfl⟩);go_ret;exact⟨rfl,rfl⟩
end
end Ca
end Go.Proofs.YtmcbidhpkpmalaaGreatDoor
