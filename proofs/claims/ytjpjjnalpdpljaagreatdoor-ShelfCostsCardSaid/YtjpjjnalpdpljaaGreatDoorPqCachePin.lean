import Derived.Test.YtjpjjnalpdpljaaGreatDoorPqCacheAsk
set_option maxRecDepth 100000
namespace Go.Proofs.YtjpjjnalpdpljaaGreatDoor
open Go.RowKit
namespace Ca
open Mem Dv Cn
theorem below_drawn (w:World):Below w.heap.size w { w with drawn:=w.drawn+1 }:=⟨rfl,rfl,rfl,Nat.le_refl _,fun _ _=>rfl⟩
section
variable {w:World} {S:List Nat} {p f mp ch cb g k:Nat} {qk:Nat->Nat × Nat} {st:St} {W:Nat->Option Nat}
theorem pinned_none (h:CwW w S p f mp ch cb g qk st W k) {b:Nat} (hb:b<4294967296) (hW:W b=none):Calls Tryz.prog 86 #[.pointer (some ⟨p,0,none⟩), .int .u32 (b:Int)] w fun e w'=>e= .returned (.tuple #[.pointer none, .int .i64 8])/\w=w':=by
 have cM:=Lib.hid (isMade_any h)
 have cP:=Lib.hid (Pins_none h hb hW)
 clear h hb hW
 go_enter Tryz.func86,Tryz.ntmps86
 go_wp2_with (first
  |(go_at_call 94;refine cM.out.mono ?_;rintro e w' ⟨rfl,rfl⟩)
  |(go_at_call 116;refine cP.out.mono ?_;rintro e w' ⟨rfl,rfl⟩))
 exact bodyPost_ret (v:= .tuple #[.pointer none, .int .i64 8]) (by simp [results,Tryz.results86,go_sem]) rfl ⟨rfl,rfl⟩
theorem pinned_zero (h:CwW w S p f mp ch cb g qk st W k) {b j n:Nat} {x:List UInt8} {d:Bool} (hb:b<4294967296) (hx:st.fr[j]? =some (some (b,x,d,n))) (hW:W b=some j) (hn:n=0):Calls Tryz.prog 86 #[.pointer (some ⟨p,0,none⟩), .int .u32 (b:Int)] w fun e w'=>e= .returned (.tuple #[.pointer none, .int .i64 8])/\w=w':=by
 subst hn
 have cM:=Lib.hid (isMade_any h)
 have cP:=Lib.hid (Pins_some h hb hx hW)
 clear h hb hW
 go_enter Tryz.func86,Tryz.ntmps86
 go_wp2_with (first
  |(go_at_call 94;refine cM.out.mono ?_;rintro e w' ⟨rfl,rfl⟩)
  |(go_at_call 116;refine cP.out.mono ?_;rintro e w' ⟨rfl,rfl⟩))
 exact bodyPost_ret (v:= .tuple #[.pointer none, .int .i64 8]) (by simp [results,Tryz.results86,go_sem]) rfl ⟨rfl,rfl⟩
theorem pinned_some (h:CwW w S p f mp ch cb g qk st W k) {b j n:Nat} {x:List UInt8} {d:Bool} (hb:b<4294967296) (hx:st.fr[j]? =some (some (b,x,d,n))) (hW:W b=some j) (hn:0<n):
 Calls Tryz.prog 86 #[.pointer (some ⟨p,0,none⟩), .int .u32 (b:Int)] w fun e w'=>e= .returned (.tuple #[.pointer (some ⟨f,j*4,none⟩), .int .i64 0])/\Below w.heap.size w w':=by
 have cM:=Lib.hid (isMade_any h)
 have cP:=Lib.hid (Pins_some h hb hx hW)
 have hn0:((n:Int)==0)=false:=by simp;omega
 have hbw:=below_drawn w
 have h2:=h.kept hbw
 obtain ⟨c0,c1,c2,c3⟩:=h2.cells
 have hl:=h2.mc.look hb
 rw [hW] at hl
 simp only [Option.getD_some] at hl
 have hj:=lt_of_get hx
 obtain ⟨N,hN⟩:∃N,N=st.fr.length:=⟨_,rfl⟩
 rw [<-hN] at c1 hj
 have HB:=Lib.hid hbw
 clear h h2 hx hW hN c0 c3 hn hb hbw
 go_enter Tryz.func86,Tryz.ntmps86
 go_wp2_with (first
  |(go_at_call 94;refine cM.out.mono ?_;rintro e w' ⟨rfl,rfl⟩)
  |(go_at_call 116;refine cP.out.mono ?_;rintro e w' ⟨rfl,rfl⟩))
 refine wp_region_still_tail 11 (by kernel_rfl) (by kernel_rfl) ?_
 simp only [List.take_succ_cons,List.take_zero,List.drop_succ_cons,List.drop_zero]
 generalize { w with drawn:=w.drawn+1 }=w2 at*
 repeat (refine wpStill_step (fun K hK=>?_);go_simp;(refine hK _ ?_;clear hK K))
 refine wpStill_nil ?_
 go_wp2
 exact bodyPost_ret (v:= .tuple #[.pointer (some ⟨f,j*4,none⟩), .int .i64 0]) (by simp [results,Tryz.results86,go_sem]) rfl ⟨rfl,HB.out⟩
theorem clean_no (h:CwW w S p f mp ch cb g qk st W k) {b j n:Nat} {x:List UInt8} (hx:st.fr[j]? =some (some (b,x,false,n))):
 Calls Tryz.prog 96 #[.pointer (some ⟨p,0,none⟩), .int .i64 (j:Int)] w fun e w'=>e= .returned (.tuple #[])/\w=w':=by
 obtain ⟨c0,c1,c2,c3⟩:=h.cells
 obtain ⟨d0,d1,d2,d3⟩:=h.fw.cell hx
 simp only [f2] at d2
 have hj:=lt_of_get hx
 obtain ⟨N,hN⟩:∃N,N=st.fr.length:=⟨_,rfl⟩
 rw [<-hN] at c1 hj
 clear h hx hN c0 c2 c3 d0 d1 d3
 go_enter Tryz.func96,Tryz.ntmps96
 go_wp2
 go_end0
 exact ⟨rfl,rfl⟩
theorem clean_yes (h:CwW w S p f mp ch cb g qk st W k) {b j n:Nat} {x:List UInt8} (hx:st.fr[j]? =some (some (b,x,true,n))) (hb:b<st.ls.length) (hl:x.length=st.m) (hs:st.s<=1000000):
 Calls Tryz.prog 96 #[.pointer (some ⟨p,0,none⟩), .int .i64 (j:Int)] w fun e w'=>e= .returned (.tuple #[])/\(∃S',CwW w' S' p f mp ch cb g qk { st with ls:=st.ls.set b x,s:=st.s+1,fr:=st.fr.set j (some (b,x,false,n)) } W k/\Grew w S S')/\Flow.Into (f::S) w w':=by
 have hbw:=below_drawn w
 have h2:=h.kept hbw
 obtain ⟨c0,c1,-,-⟩:=h.cells
 obtain ⟨-,-,d2,-⟩:=h.fw.cell hx
 obtain ⟨e0,e1,-,-⟩:=h2.cells
 obtain ⟨g0,g1,-,-⟩:=h2.fw.cell hx
 simp only [f2] at d2
 simp only [f0] at g0
 simp only [f1] at g1
 rw [hl] at g1
 have hj:=lt_of_get hx
 have H2:=Lib.hid h2
 have HX:=Lib.hid hx
 have HL:=Lib.hid hl
 have HS:=Lib.hid hs
 have HB:=Lib.hid hbw
 obtain ⟨q1,q2⟩:=h2.q1 j _ hx
 have cW:=Lib.hid (Write_in h2.dv b hb hs (some ⟨(qk j).1,0,none⟩) (qk j).2 x hl (h2.by_ j _ hx).bl (fun a ha=>by
  obtain rfl:(⟨(qk j).1,0,none⟩:Addr)=a:=by simpa using ha
  exact q1))
 obtain ⟨N,hN⟩:∃N,N=st.fr.length:=⟨_,rfl⟩
 rw [<-hN] at c1 e1 hj
 generalize (qk j).1=Q1 at*
 generalize (qk j).2=Q2 at*
 clear h h2 hx hbw hl hs hN q1 q2
 go_enter Tryz.func96,Tryz.ntmps96
 go_wp2
 refine wp_region_still_tail 12 (by kernel_rfl) (by kernel_rfl) ?_
 simp only [List.take_succ_cons,List.take_zero,List.drop_succ_cons,List.drop_zero]
 have hw2:w.heap.size<=({ w with drawn:=w.drawn+1 }:World).heap.size:=Nat.le_refl _
 generalize { w with drawn:=w.drawn+1 }=w2 at*
 repeat (refine wpStill_step (fun K hK=>?_);go_simp;(refine hK _ ?_;clear hK K))
 refine wpStill_nil ?_
 clear c0 c1 d2 e0 g0 g1
 go_upto_region 3 with (go_at_call 133;refine cW.out.mono ?_;rintro e w3 ⟨rfl,⟨S',hd,hg⟩,hi⟩)
 have h3:=H2.out.toDev hi hd hg
 have HX3:Hid ((({ st with ls:=st.ls.set b x,r:=st.r,s:=st.s+1 }:St).fr)[j]? =some (some (b,x,true,n))):=HX.out
 obtain ⟨-,-,d2,-⟩:=h3.fw.cell HX.out
 simp only [f2] at d2
 have hf:=h3.fw.free (j*4+2)
 have H3:=Lib.hid h3
 have HI:=Lib.hid hi
 have HG:=Lib.hid hg
 clear h3 hi hg hd cW e1
 go_upto_region 99 with fail
 go_end0
 have hi4:=into_setCell w3 ⟨f,j*4+2,none⟩ (.bool false)
 refine ⟨rfl,⟨S',H3.out.toMark HX3.out hi4 (H3.out.fw.dirty HX3.out false),fun y hy=>?_⟩,?_⟩
 . rcases HG.out y hy with h'|h'
   . exact .inl h'
   . exact .inr (by omega)
 . exact ((Flow.Into.of_below HB.out).trans (HI.out.mono fun y hy=>List.mem_cons_of_mem _ hy)).trans (hi4.mono fun y hy=>by
    obtain rfl:y=f:=by simpa using hy
    exact List.mem_cons_self)
theorem Cut_any {g b n:Nat} {l:List Nat} (h:Chn w g b n l) {j:Nat} (hj:j<n):Calls Tryz.prog 83 #[.pointer (some ⟨g,0,none⟩), .int .i64 (j:Int)] w fun e w'=>∃z,e= .returned (.int .i64 z)/\Chn w' g b n (del l j)/\Flow.Into [g,b] w w':=
 (CCut h j).mono fun e w' ⟨he,hc,hi⟩=>⟨_,he,by
   unfold cutT at hc
   rw [inN_of hj] at hc
   simpa using hc,hi⟩
theorem Back_any {g b n:Nat} {l:List Nat} (h:Chn w g b n l) {j:Nat} (hj:j<n):Calls Tryz.prog 108 #[.pointer (some ⟨g,0,none⟩), .int .i64 (j:Int)] w fun e w'=>∃z,e= .returned (.int .i64 z)/\Chn w' g b n (del l j++[j])/\Flow.Into [g,b] w w':=
 (CBack h j).mono fun e w' ⟨he,hc,hi⟩=>⟨_,he,by
   unfold backT at hc
   rw [inN_of hj] at hc
   simpa using hc,hi⟩
theorem Front_any {g b n:Nat} {l:List Nat} (h:Chn w g b n l) {j:Nat} (hj:j<n):Calls Tryz.prog 88 #[.pointer (some ⟨g,0,none⟩), .int .i64 (j:Int)] w fun e w'=>∃z,e= .returned (.int .i64 z)/\Chn w' g b n (j::del l j)/\Flow.Into [g,b] w w':=
 (CFront h j).mono fun e w' ⟨he,hc,hi⟩=>⟨_,he,by
   unfold fronT at hc
   rw [inN_of hj] at hc
   simpa using hc,hi⟩
theorem box4 {U:TypeId} {w:World} {b:Nat} {v0 v1 v2 v3:Value} (h:w.heap[b]? =some (.cells #[v0,v1,v2,v3] U (0,0))):w.cell? ⟨b,0,none⟩=some v0/\w.cell? ⟨b,1,none⟩=some v1/\w.cell? ⟨b,2,none⟩=some v2/\w.cell? ⟨b,3,none⟩=some v3:=by
 simp [World.cell?,h]
theorem below_all {B:Nat} {w w1 w2:World} (h:Below B w w1) (h2:Below w1.heap.size w1 w2) (hB:B<=w.heap.size):Below B w w2:=h.trans (h2.mono (Nat.le_trans hB h.size))
theorem fill_any (h:CwW w S p f mp ch cb g qk st W k) {j b n:Nat} {y:Option Fr} {x:List UInt8} {d:Bool} {q:Nat × Nat} (hy:st.fr[j]? =some y) (hr:Row 5 w q.1 x) (hS:q.1∉S) (hF:q.1∉[p,f,mp,ch,cb]) (ho:∀(i:Nat) (z:Fr),st.fr[i]? =some (some z)->i≠j->(qk i).1≠q.1) (hb:b<4294967296) (hk:k<=65536) {k':Nat} (hk':(if (W b).isSome then k else k+1)=k'):
 Calls Tryz.prog 85 #[.pointer (some ⟨p,0,none⟩), .int .i64 (j:Int), .agg #[.int .u32 (b:Int), .slice (some ⟨q.1,0,none⟩) x.length q.2, .bool d, .int .i64 (n:Int)]] w fun e w'=>e= .returned (.tuple #[])/\
  CwW w' S p f mp ch cb g (fun i=>if i=j then q else qk i) { st with fr:=st.fr.set j (some (b,x,d,n)),row:=del st.row j } (fun z=>if z=b then some j else W z) k'/\Flow.Into [f,mp,ch,cb] w w':=by
 have hj:=lt_of_get hy
 have hj5:j<65536:=by have:=h.cn.lt.2.2.2.2.1;omega
 have H:=Lib.hid h
 have HY:=Lib.hid hy
 have HR:=Lib.hid hr
 have HQ:=Lib.hid (And.intro hS (And.intro hF ho))
 have HJ:=Lib.hid (And.intro hj hj5)
 have HK:=Lib.hid (And.intro hb hk)
 have HK':=Lib.hid hk'
 obtain ⟨N,hN⟩:∃N,N=st.fr.length:=⟨_,rfl⟩
 have HN:=Lib.hid hN
 rw [<-hN] at hj
 obtain ⟨q1,q2⟩:=q
 clear hk' h hy hr hS hF ho hj5 hb hk hN
 go_enter Tryz.func85,Tryz.ntmps85
 go_upto_region 1 with fail
 have hb1:Below w.heap.size w (w.alloc (.cells #[.int .u32 (b:Int), .slice (some ⟨q1,0,none⟩) x.length q2, .bool d, .int .i64 (n:Int)] 131)):=(Below.refl _ _).alloc (Nat.le_refl _) _
 have hx1:=heap_alloc_new w (.cells #[.int .u32 (b:Int), .slice (some ⟨q1,0,none⟩) x.length q2, .bool d, .int .i64 (n:Int)] 131)
 generalize w.alloc (.cells #[.int .u32 (b:Int), .slice (some ⟨q1,0,none⟩) x.length q2, .bool d, .int .i64 (n:Int)] 131)=w1 at*
 have hb2:=below_all hb1 (below_drawn w1) (Nat.le_refl _)
 have h2:=H.out.kept hb2
 obtain ⟨d0,d1,d2,d3⟩:=box4 (w:={ w1 with drawn:=w1.drawn+1 }) hx1
 have hx2:({ w1 with drawn:=w1.drawn+1 }:World).heap[w.heap.size]? =_:=hx1
 have hr2:=HR.out.kept hb2
 have hB2:w.heap.size<({ w1 with drawn:=w1.drawn+1 }:World).heap.size:=(Array.getElem?_eq_some_iff.1 hx2).1
 obtain ⟨-,c1,-,-⟩:=h2.cells
 rw [<-HN.out] at c1
 obtain ⟨e0,e1,e2,e3⟩:=h2.fw.cell HY.out
 have k0:=h2.fw.free (j*4)
 have k1:=h2.fw.free (j*4+1)
 have k2:=h2.fw.free (j*4+2)
 have k3:=h2.fw.free (j*4+3)
 refine wp_region_still_tail 7 (by kernel_rfl) (by kernel_rfl) ?_
 simp only [List.take_succ_cons,List.take_zero,List.drop_succ_cons,List.drop_zero]
 have HX2:=Lib.hid hx2
 have HB2:=Lib.hid hb2
 have HR2:=Lib.hid hr2
 have H2:=Lib.hid h2
 have HS2:=Lib.hid hB2
 clear hx1 hb1 hx2 hb2 hr2 h2 hB2
 generalize { w1 with drawn:=w1.drawn+1 }=w2 at*
 have hfB:f<w.heap.size:=H.out.fw.lt
 repeat (refine wpStill_step (fun K hK=>?_);go_simp;(refine hK _ ?_;clear hK K))
 refine wpStill_nil ?_
 go_upto_region 2 with fail
 have hi3:Flow.Into [f] w2 ((((w2.setCell ⟨f,j*4,none⟩ (.int .u32 (b:Int))).setCell ⟨f,j*4+1,none⟩ (.slice (some ⟨q1,0,none⟩) x.length q2)).setCell ⟨f,j*4+2,none⟩ (.bool d)).setCell ⟨f,j*4+3,none⟩ (.int .i64 (n:Int))):=
  (((into_setCell w2 ⟨f,j*4,none⟩ _).trans (into_setCell _ ⟨f,j*4+1,none⟩ _)).trans (into_setCell _ ⟨f,j*4+2,none⟩ _)).trans (into_setCell _ ⟨f,j*4+3,none⟩ _)
 have h3:=H2.out.toSome (q:=(q1,q2)) (x:=(b,x,d,n)) HY.out HR2.out HQ.out.1 HQ.out.2.1 HQ.out.2.2 hi3 (H2.out.fw.put HY.out (q1,q2) (some (b,x,d,n)))
 have hx3:=(hi3.block w.heap.size HS2.out (by simp;omega)).trans HX2.out
 clear d0 d1 d2 d3 c1 e0 e1 e2 e3 k0 k1 k2 k3
 generalize ((((w2.setCell ⟨f,j*4,none⟩ (.int .u32 (b:Int))).setCell ⟨f,j*4+1,none⟩ (.slice (some ⟨q1,0,none⟩) x.length q2)).setCell ⟨f,j*4+2,none⟩ (.bool d)).setCell ⟨f,j*4+3,none⟩ (.int .i64 (n:Int)))=w3 at*
 have hb4:=below_drawn w3
 have h4:=h3.kept hb4
 obtain ⟨d0,-,-,-⟩:=box4 (w:={ w3 with drawn:=w3.drawn+1 }) hx3
 obtain ⟨-,-,c2,-⟩:=h4.cells
 obtain ⟨w5,hrun,hm5,hi5⟩:=h4.mc.store HK.out.1 HJ.out.2 HK.out.2
 rw [HK'.out] at hm5
 refine wp_region_still_tail 7 (by kernel_rfl) (by kernel_rfl) ?_
 simp only [List.take_succ_cons,List.take_zero,List.drop_succ_cons,List.drop_zero]
 have H4:=Lib.hid h4
 have HB4:=Lib.hid hb4
 have HM5:=Lib.hid hm5
 have HI5:=Lib.hid hi5
 have HI3:=Lib.hid hi3
 clear h3 hx3 h4 hb4 hm5 hi5 hi3
 generalize { w3 with drawn:=w3.drawn+1 }=w4 at*
 repeat (refine wpStill_step (fun K hK=>?_);go_simp;(refine hK _ ?_;clear hK K))
 refine wpStill_nil ?_
 go_upto_region 3 with fail
 have h5:=H4.out.toMap HI5.out HM5.out
 have cC:=Lib.hid (Cut_any h5.cn (j:=j) (by simpa using HJ.out.1))
 obtain ⟨-,-,-,c3⟩:=h5.cells
 have H5:=Lib.hid h5
 clear h5 d0 c2 hrun
 go_wp2_with (go_at_call 83;refine cC.out.mono ?_;rintro e w6 ⟨z,rfl,hc,hi⟩)
 go_end0
 refine ⟨rfl,?_,?_⟩
 . exact H5.out.toRow hi hc
 . have e1:Flow.Into [f,mp,ch,cb] w w3:=(Flow.Into.of_below HB2.out).trans (HI3.out.mono fun y hy=>by simp at hy ⊢;exact .inl hy)
   have e2:Flow.Into [f,mp,ch,cb] w3 w5:=(Flow.Into.of_below HB4.out).trans (HI5.out.mono fun y hy=>by simp at hy ⊢;exact .inr (.inl hy))
   exact (e1.trans e2).trans (hi.mono fun y hy=>by simp at hy ⊢;exact .inr (.inr hy))
theorem empty_any (h:CwW w S p f mp ch cb g qk st W k) {j b n:Nat} {x:List UInt8} {d:Bool} (hx:st.fr[j]? =some (some (b,x,d,n))) (hW:W b=some j) (hb:b<4294967296):
 Calls Tryz.prog 117 #[.pointer (some ⟨p,0,none⟩), .int .i64 (j:Int)] w fun e w'=>e= .returned (.tuple #[])/\
  CwW w' S p f mp ch cb g qk { st with fr:=st.fr.set j none,row:=del st.row j++[j] } (fun z=>if z=b then none else W z) (k-1)/\Flow.Into [f,mp,ch,cb] w w':=by
 have hj:=lt_of_get hx
 have hb2:=below_drawn w
 have h2:=h.kept hb2
 obtain ⟨w3,hrun,hm3,hi3⟩:=h2.mc.drop hb (by rw [hW];rfl) 0
 obtain ⟨-,c1,c2,-⟩:=h2.cells
 obtain ⟨e0,-,-,-⟩:=h2.fw.cell hx
 simp only [f0] at e0
 obtain ⟨N,hN⟩:∃N,N=st.fr.length:=⟨_,rfl⟩
 have HN:=Lib.hid hN
 have HJ:=Lib.hid hj
 rw [<-hN] at hj c1
 have HX:=Lib.hid hx
 have HB2:=Lib.hid hb2
 have H2:=Lib.hid h2
 have HI3:=Lib.hid hi3
 have HM3:=Lib.hid hm3
 clear h hx hW hb hb2 h2 hi3 hm3 hN
 go_enter Tryz.func117,Tryz.ntmps117
 go_upto_region 0 with fail
 refine wp_region_still_tail 12 (by kernel_rfl) (by kernel_rfl) ?_
 simp only [List.take_succ_cons,List.take_zero,List.drop_succ_cons,List.drop_zero]
 generalize { w with drawn:=w.drawn+1 }=w2 at*
 repeat (refine wpStill_step (fun K hK=>?_);go_simp;(refine hK _ ?_;clear hK K))
 refine wpStill_nil ?_
 go_upto_region 1 with fail
 have h3:=H2.out.toMap HI3.out HM3.out
 obtain ⟨-,c1',-,-⟩:=h3.cells
 rw [<-HN.out] at c1'
 obtain ⟨e0',e1,e2,e3⟩:=h3.fw.cell HX.out
 have k0:=h3.fw.free (j*4)
 have k1:=h3.fw.free (j*4+1)
 have k2:=h3.fw.free (j*4+2)
 have k3:=h3.fw.free (j*4+3)
 have H3:=Lib.hid h3
 clear h3 c1 c2 e0 hrun
 go_upto_region 2 with fail
 have hi4:Flow.Into [f] w3 ((((w3.setCell ⟨f,j*4,none⟩ (.int .u32 0)).setCell ⟨f,j*4+1,none⟩ (.slice none 0 0)).setCell ⟨f,j*4+2,none⟩ (.bool false)).setCell ⟨f,j*4+3,none⟩ (.int .i64 0)):=
  (((into_setCell w3 ⟨f,j*4,none⟩ _).trans (into_setCell _ ⟨f,j*4+1,none⟩ _)).trans (into_setCell _ ⟨f,j*4+2,none⟩ _)).trans (into_setCell _ ⟨f,j*4+3,none⟩ _)
 have h4:=H3.out.toNone (q:=qk j) hi4 (H3.out.fw.put HX.out (qk j) none)
 have hqk:(fun i=>if i=j then qk j else qk i)=qk:=by
  funext i
  by_cases e:i=j
  . subst e;rw [if_pos rfl]
  . rw [if_neg e]
 rw [hqk] at h4
 clear c1' e0' e1 e2 e3 k0 k1 k2 k3
 generalize ((((w3.setCell ⟨f,j*4,none⟩ (.int .u32 0)).setCell ⟨f,j*4+1,none⟩ (.slice none 0 0)).setCell ⟨f,j*4+2,none⟩ (.bool false)).setCell ⟨f,j*4+3,none⟩ (.int .i64 0))=w4 at*
 have cB:=Lib.hid (Back_any h4.cn (j:=j) (by simpa using HJ.out))
 obtain ⟨-,-,-,c3⟩:=h4.cells
 have H4:=Lib.hid h4
 have HI4:=Lib.hid hi4
 clear h4 hi4
 go_wp2_with (go_at_call 108;refine cB.out.mono ?_;rintro e w5 ⟨z,rfl,hc,hi⟩)
 go_end0
 refine ⟨rfl,H4.out.toRow hi hc,?_⟩
 have e2:Flow.Into [f,mp,ch,cb] w w3:=(Flow.Into.of_below HB2.out).trans (HI3.out.mono fun y hy=>by simp at hy ⊢;exact .inr (.inl hy))
 have e3:Flow.Into [f,mp,ch,cb] w3 w4:=HI4.out.mono fun y hy=>by simp at hy ⊢;exact .inl hy
 exact (e2.trans e3).trans (hi.mono fun y hy=>by simp at hy ⊢;exact .inr (.inr hy))
end
end Ca
end Go.Proofs.YtjpjjnalpdpljaaGreatDoor
