import Derived.Test.YtjpjjnalpdpljaaGreatDoorPqCodeC2
import Derived.Test.YtjpjjnalpdpljaaGreatDoorPkBF
import Derived.Test.YtjpjjnalpdpljaaGreatDoorPkAC
set_option maxHeartbeats 8000000
set_option maxRecDepth 100000
namespace Go.Proofs.YtjpjjnalpdpljaaGreatDoor
open Go.RowKit
namespace No
open Mem Lx Bu Lf Fa
open Wd (be val be_length val_be isW u8info)
theorem Bx2.kw {W w w':World} {g:Nat} {X Y:Array Value} {T1 T2:TypeId} (h:Bx2 W g (.cells X T1) (.cells Y T2) w) (hk:Kw W.heap.size w w') (h1:T1≠5/\T1≠196) (h2:T2≠5/\T2≠196):Bx2 W g (.cells X T1) (.cells Y T2) w':=⟨h.below.trans hk.below,hk.box h.x h1.1 h1.2,hk.box h.y h2.1 h2.2⟩
theorem Own.empty {w:World} {B b m:Nat} (hb:B<=b) (hm:m<=65536) (h:w.heap[b]? =some (.cells (List.replicate m (.int .u8 0)).toArray 5)):Own 5 w B (.slice (some ⟨b,0,none⟩) 0 m) []:=
 ⟨rfl, .inr ⟨b,m,_,rfl,hb,h,Nat.zero_le _,by unfold maxLen;omega,by simp,by simp [bytesV]⟩⟩
theorem Wr.fr {c:Cfg} {B:Nat} {w:World} {g:Nat} {xs:List UInt8} (h:Wr c B w g xs):∃A cap,w.cell? ⟨g,8,none⟩=some (.slice A xs.length cap)/\FrB w B A xs/\xs.length<=cap:=by
 obtain ⟨v,h1,h2⟩:=h.ex
 obtain ⟨A,cap,rfl,hbl,hc⟩:=h2.slice
 refine ⟨A,cap,(wr_cells h1).1,⟨hbl,fun h0=>?_⟩,hc⟩
 obtain ⟨b,o',e,-⟩:=hbl h0
 subst e
 obtain ⟨hB,C,hC⟩:=h2.row b rfl
 exact ⟨b,o',C,rfl,hB,hC⟩
theorem leaf_top (l m:List UInt8):be 1 1++(be 1 0++(l++(be 2 0++zs 2)))++m=[1,0]++(l++(zs 4++m)):=by
 have e1:be 1 1=[1]:=by decide
 have e2:be 1 0=[0]:=by decide
 have e3:be 2 0=[0,0]:=by decide
 have e4:zs 2=[0,0]:=by decide
 have e5:zs 4=[0,0,0,0]:=by decide
 rw [e1,e2,e3,e4,e5]
 simp
theorem Write_leaf (c:Cfg) {n:Nd} {a:At} {W:World} (h:NdIn W n a) (hkid:∀k,k∈n.kids->k<4294967296) (hr:RightA c n) (h0:n.lv=0):Calls Tryz.prog 111 #[.agg (cfCs c), .agg (ndCs n a)] W fun e w'=>(∃A cap,e= .returned (.slice A (blockL c n).length cap)/\FrB w' W.heap.size A (blockL c n)/\(blockL c n).length<=cap)/\Below W.heap.size W w':=by
 have h0':=h0
 obtain ⟨F,Bf,Lf',K,V,hs⟩:=set_ok hr.1
 obtain ⟨Y,hY⟩:∃Y:Nat,c.bytes=Y:=⟨c.bytes.toNat,by have:=hs.bytes;omega⟩
 have hYb:=hs.bytes
 rw [hY] at hYb
 have hP:=hr.2.1 h0
 obtain ⟨hlen,hq⟩:=leaf_len hs hP
 have hout:=hs.out
 have hm:=mul_up (s:=3+K+V) hq
 have hLl:=hs.l
 have hbl:blockL c n=leafL c n++List.replicate (Y-(leafL c n).length) 0:=by
  unfold blockL bodyL slotL zs
  rw [if_pos h0,hY]
  congr 2
  omega
 have hp:∀x∈n.prs,x.1.size<=K/\x.2.size<=V:=fun x hx=>by
  obtain ⟨h1,-,h3⟩:=hP.each x hx
  have:=(keyB_le h1).2
  have:=hs.key
  have:=hs.val
  omega
 have hfit:(leafL c n).length<=Y:=by
  rw [hlen]
  generalize n.prs.length*(3+K+V)=X1 at*
  generalize Lf'*(3+K+V)=X2 at*
  omega
 have hpx:8+n.prs.length*(3+K+V)<=65536:=by omega
 obtain ⟨body,hbody⟩:∃b,b=leafL c n:=⟨_,rfl⟩
 have HBD:Hid (be 1 1++(be 1 0++(be 2 n.prs.length++(be 2 0++zs 2)))++n.prs.flatMap (prL c)=body):=by
  unfold Hid
  rw [hbody,leaf_top]
  rfl
 rw [<-hbody] at hbl hfit
 obtain ⟨d,hd⟩:∃d,d=Y-body.length:=⟨_,rfl⟩
 rw [<-hd] at hbl
 have HEND:Hid (body++List.replicate d 0=blockL c n):=hbl.symm
 have cTop:∀(w:World) (g:Nat),Wr c W.heap.size w g []->Hid (Calls Tryz.prog 151 #[.pointer (some ⟨g,0,none⟩), .int .i64 0, .int .i64 (n.prs.length:Int), .int .i64 0] w fun e w'=>e= .returned (.tuple #[])/\Wr c W.heap.size w' g (be 1 1++(be 1 0++(be 2 n.prs.length++(be 2 0++zs 2))))/\Kw W.heap.size w w'):=fun w g h=>WTop_any c h 0 n.prs.length 0 (by simp) (by omega) (by omega) (by omega)
 have cPr:∀(w:World) (g:Nat),Below W.heap.size W w->Wr c W.heap.size w g (be 1 1++(be 1 0++(be 2 n.prs.length++(be 2 0++zs 2))))->Hid (Calls Tryz.prog 152 #[.pointer (some ⟨g,0,none⟩), .slice a.qA n.prs.length a.qc] w fun e w'=>e= .returned (.tuple #[])/\Wr c W.heap.size w' g body/\Kw W.heap.size w w'):=fun w g hb h9=>by
  have h8:=WPairs_any hs hb h9 (cc:=a.qc) h.prs.1 hp (by
   simp only [List.length_append,be_length,zs_len]
   omega)
  rw [HBD.out] at h8
  exact h8
 have hsub:IntKind.i64.wrap ((Y:Int)-(body.length:Int))=(d:Int):=by
  rw [IntKind.wrap_i64]
  omega
 have hz:body.length+d<=1048576:=by omega
 have hY9:Y<=65536:=by omega
 obtain ⟨bl,hble⟩:∃b,b=blockL c n:=⟨_,rfl⟩
 rw [<-hble] at HEND ⊢
 have hmk:=fun w=>run_make_empty (P:=Tryz.prog) Tryz.underlying72 u8info rfl (by decide) Y (by omega) w
 clear hble hbl hfit hd hr hs h0 hP hlen hq hout hm hLl hp hpx hbody HBD
 obtain ⟨cB,cY,cF,cN,cU,cL,cKy,cV⟩:=c
 obtain ⟨lv,Ks,P,B,Q⟩:=n
 obtain ⟨kA,kc,pA,pc,bA,bc,qA,qc⟩:=a
 unfold cfCs ndCs
 simp only at*
 subst hY
 subst h0'
 generalize Ks.length=kn at*
 generalize P.length=pn at*
 generalize B.length=bn at*
 generalize Q.length=qn at*
 clear h hkid
 go_enter Tryz.func111,Tryz.ntmps111
 go_upto_region 1 with fail
 have HB:=Lib.hid (Bx2.new W (.cells #[.int .i64 cB, .int .i64 (Y:Int), .int .i64 cF, .int .i64 cN, .int .i64 cU, .int .i64 cL, .int .i64 cKy, .int .i64 cV] 23) (.cells #[.int .i64 0, .slice kA kn kc, .slice pA pn pc, .slice bA bn bc, .slice qA qn qc] 43))
 generalize (W.alloc (.cells #[.int .i64 cB, .int .i64 (Y:Int), .int .i64 cF, .int .i64 cN, .int .i64 cU, .int .i64 cL, .int .i64 cKy, .int .i64 cV] 23)).alloc (.cells #[.int .i64 0, .slice kA kn kc, .slice pA pn pc, .slice bA bn bc, .slice qA qn qc] 43)=w1 at*
 obtain ⟨g,hg⟩:∃g,g=W.heap.size:=⟨_,rfl⟩
 rw [<-hg] at HB
 have hgW:W.heap.size<=g:=by omega
 simp only [<-hg]
 clear hg
 obtain ⟨g0,g1,g2,g3,g4,g5,g6,g7⟩:=box8 HB.out.x
 have t0:=fun q:Drift.Tide [] w1 []=>Drift.Tide.cell g0 (by simp) q
 have t1:=fun q:Drift.Tide [] w1 []=>Drift.Tide.cell g1 (by simp) q
 have t2:=fun q:Drift.Tide [] w1 []=>Drift.Tide.cell g2 (by simp) q
 have t3:=fun q:Drift.Tide [] w1 []=>Drift.Tide.cell g3 (by simp) q
 have t4:=fun q:Drift.Tide [] w1 []=>Drift.Tide.cell g4 (by simp) q
 have t5:=fun q:Drift.Tide [] w1 []=>Drift.Tide.cell g5 (by simp) q
 have t6:=fun q:Drift.Tide [] w1 []=>Drift.Tide.cell g6 (by simp) q
 have t7:=fun q:Drift.Tide [] w1 []=>Drift.Tide.cell g7 (by simp) q
 clear g0 g1 g2 g3 g4 g5 g6 g7
 refine Drift.wp_region_drift [] [(0,[]),(1,[]),(2,[]),(3,[]),(4,[]),(5,[])] [] [3,5] (by kernel_rfl) (by kernel_rfl) (by simp) ?_
 simp only [Drift.pick,Drift.opsAt,List.getElem?_toArray,List.getElem?_cons_zero,List.getElem?_cons_succ,List.cons_append,List.nil_append,List.filterMap_nil]
 repeat (refine Drift.walk_step (fun K hK=>?_);go_simp;(refine hK _ ?_;clear hK K))
 refine Drift.walk_make rfl Drift.mkwalk_nil (fun b=> .slice (some ⟨b,0,none⟩) 0 Y) (.cells (List.replicate Y (.int .u8 0)).toArray 5) (fun W=>by go_simp) (fun b1 hb1 hT1=>?_)
 clear t0 t1 t2 t3 t4 t5 t6 t7 hmk
 repeat (refine Drift.walk_step (fun K hK=>?_);go_simp;first|(refine hK _ ?_;clear hK K)|(refine ⟨_,fun _=>rfl,hK _ ?_⟩;clear hK K))
 refine Drift.walk_make rfl Drift.mkwalk_nil (fun b=> .pointer (some ⟨b,0,none⟩)) (.cells #[.int .i64 cB, .int .i64 (Y:Int), .int .i64 cF, .int .i64 cN, .int .i64 cU, .int .i64 cL, .int .i64 cKy, .int .i64 cV, .slice (some ⟨b1,0,none⟩) 0 Y] 196) (fun W=>by go_simp) (fun b2 hb2 hT2=>?_)
 refine Drift.walk_nil ?_
 intro w2 hk2 hl2
 have HW:Hid (Wr ⟨cB,Y,cF,cN,cU,cL,cKy,cV⟩ W.heap.size w2 b2 []):=⟨Nat.le_trans HB.out.below.size hb2,_,hl2 (b2, .cells #[.int .i64 cB, .int .i64 (Y:Int), .int .i64 cF, .int .i64 cN, .int .i64 cU, .int .i64 cL, .int .i64 cKy, .int .i64 cV, .slice (some ⟨b1,0,none⟩) 0 Y] 196) (by simp),Own.empty (Nat.le_trans HB.out.below.size hb1) hY9 (hl2 (b1, .cells (List.replicate Y (.int .u8 0)).toArray 5) (by simp))⟩
 replace HB:=Lib.hid (HB.out.kept hk2)
 clear hk2 hl2 hT1 hT2 hb1 hb2
 simp only [List.length_cons,List.length_nil,List.drop_succ_cons,List.drop_zero,Nat.zero_add,Nat.reduceAdd]
 obtain ⟨d0,d1,d2,d3,d4⟩:=box5 HB.out.y
 go_upto_region 3 with fail
 go_upto_region 4 with (go_at_call 151;refine (cTop _ _ HW.out).out.mono ?_;rintro e w3 ⟨rfl,hw,hk⟩;replace HW:=Lib.hid hw;replace HB:=Lib.hid (HB.out.kw hk (by decide) (by decide));clear hw hk d0 d1 d2 d3 d4;obtain ⟨d0,d1,d2,d3,d4⟩:=box5 HB.out.y)
 clear cTop
 go_upto_region 9 with (go_at_call 152;refine (cPr _ _ HB.out.below HW.out).out.mono ?_;rintro e w4 ⟨rfl,hw,hk⟩;replace HW:=Lib.hid hw;replace HB:=Lib.hid (HB.out.kw hk (by decide) (by decide));clear hw hk d0 d1 d2 d3 d4;obtain ⟨d0,d1,d2,d3,d4⟩:=box5 HB.out.y)
 clear cPr d0 d1 d2 d3 d4
 have hbd:Below w4.heap.size w4 { w4 with drawn:=w4.drawn+1 }:=⟨rfl,rfl,rfl,Nat.le_refl _,fun _ _=>rfl⟩
 refine wp_region_still_tail 9 (by kernel_rfl) (by kernel_rfl) ?_
 simp only [List.take_succ_cons,List.take_zero,List.drop_succ_cons,List.drop_zero]
 generalize { w4 with drawn:=w4.drawn+1 }=w7 at*
 replace HW:=Lib.hid (HW.out.kept hbd)
 replace HB:=Lib.hid (HB.out.kept hbd)
 clear hbd
 obtain ⟨g0,g1,g2,g3,g4,g5,g6,g7⟩:=box8 HB.out.x
 obtain ⟨A,cap,c8,-,-⟩:=HW.out.fr
 clear g0 g2 g3 g4 g5 g6 g7
 repeat (refine wpStill_step (fun K hK=>?_);go_simp;(refine hK _ ?_;clear hK K))
 refine wpStill_nil ?_
 clear c8 g1
 go_upto_region 10 with (go_at_call 156;refine (WZeros_any _ HW.out d hz).mono ?_;rintro e w8 ⟨rfl,hw,hk⟩;rw [HEND.out] at hw;replace HW:=Lib.hid hw;replace HB:=Lib.hid (HB.out.kw hk (by decide) (by decide));clear hw hk)
 obtain ⟨A9,cap9,c9,hfr,hcap⟩:=HW.out.fr
 have HFR:=Lib.hid hfr
 have HCP:=Lib.hid hcap
 clear hfr hcap
 go_wp2_with fail
 go_ret
 exact ⟨⟨A9,cap9,rfl,HFR.out,HCP.out⟩,HB.out.below⟩
theorem Write_inner (c:Cfg) {n:Nd} {a:At} {W:World} (h:NdIn W n a) (hkid:∀k,k∈n.kids->k<4294967296) (hr:RightA c n) (h0:n.lv≠0):Calls Tryz.prog 111 #[.agg (cfCs c), .agg (ndCs n a)] W fun e w'=>(∃A cap,e= .returned (.slice A (blockL c n).length cap)/\FrB w' W.heap.size A (blockL c n)/\(blockL c n).length<=cap)/\Below W.heap.size W w':=by
 have h0':=h0
 obtain ⟨F,Bf,Lf',K,V,hs⟩:=set_ok hr.1
 obtain ⟨Y,hY⟩:∃Y:Nat,c.bytes=Y:=⟨c.bytes.toNat,by have:=hs.bytes;omega⟩
 have hYb:=hs.bytes
 rw [hY] at hYb
 obtain ⟨hlv0,hP⟩:=hr.2.2 h0
 obtain ⟨hkl,hpl,hml,hlen,hbq⟩:=inner_len hs hP
 have hin:=hs.inn
 have hm:=mul_up (s:=4+K+V) hbq
 have hkf:n.kids.length<=F:=by have:=hP.fan;have:=hs.fan;omega
 have hpf:n.piv.length+1<=F:=by have:=hP.fewer;omega
 have hF:=hs.f
 have hBf:=hs.b
 have hlv40:=hP.lv
 obtain ⟨lv',hlv'⟩:∃l:Nat,n.lv=l:=⟨n.lv.toNat,by omega⟩
 have hlvn:lv'≠0:=by omega
 have hbl:blockL c n=innL c n++List.replicate (Y-(innL c n).length) 0:=by
  unfold blockL bodyL slotL zs
  rw [if_neg h0,hY]
  congr 2
  omega
 have hfit:(innL c n).length<=Y:=by
  rw [hlen]
  generalize n.buf.length*(4+K+V)=X1 at*
  generalize Bf*(4+K+V)=X2 at*
  omega
 have hinl:=hlen
 have hYs:Y<=65536:=by omega
 obtain ⟨t0,ht0⟩:∃t,t=be 1 2++(be 1 lv'++(be 2 n.kids.length++(be 2 n.buf.length++zs 2))):=⟨_,rfl⟩
 obtain ⟨t1,ht1⟩:∃t,t=t0++(n.kids.flatMap (be 4)++zs (4*(c.fan-n.kids.length))):=⟨_,rfl⟩
 obtain ⟨t2,ht2⟩:∃t,t=t1++(n.piv.flatMap (pvL c)++zs ((1+c.key)*(c.fan-1-n.piv.length))):=⟨_,rfl⟩
 obtain ⟨body,hbody⟩:∃b,b=innL c n:=⟨_,rfl⟩
 have hbd:t2++n.buf.flatMap (msL c)=body:=by
  rw [hbody,ht2,ht1,ht0]
  have e1:be 1 2=[2]:=by decide
  have e2:n.lv.toNat=lv':=by omega
  unfold innL
  rw [e1,e2]
  simp only [List.append_assoc]
 have hl0:t0.length=8:=by
  rw [ht0]
  simp only [List.length_append,be_length,zs_len]
  rfl
 have hl3:t2.length+n.buf.length*(4+K+V)<=Y:=by
  have h9:=congrArg List.length hbd
  rw [List.length_append,hml] at h9
  rw [<-hbody] at hfit
  omega
 have hl2:t1.length+n.piv.length*(1+K)<=Y:=by
  have h9:=congrArg List.length ht2
  rw [List.length_append,List.length_append,hpl] at h9
  omega
 have hl1:t0.length+n.kids.length*4<=Y:=by
  have h9:=congrArg List.length ht1
  rw [List.length_append,List.length_append,hkl] at h9
  omega
 rw [<-hbody] at hbl hfit
 obtain ⟨d,hd⟩:∃d,d=Y-body.length:=⟨_,rfl⟩
 rw [<-hd] at hbl
 have HEND:Hid (body++List.replicate d 0=blockL c n):=hbl.symm
 have hpk:∀x∈n.piv,x.size<=K:=fun x hx=>by
  have:=(keyB_le (hP.piv x hx)).2
  have:=hs.key
  omega
 have hpm:∀x∈n.buf,x.1.size<=K/\x.2.2.size<=V:=fun x hx=>by
  obtain ⟨h1,-,h3,-⟩:=hP.buf x hx
  have:=(keyB_le h1).2
  have:=hs.key
  have:=hs.val
  omega
 have cTop:∀(w:World) (g:Nat),Wr c W.heap.size w g []->Hid (Calls Tryz.prog 151 #[.pointer (some ⟨g,0,none⟩), .int .i64 (lv':Int), .int .i64 (n.kids.length:Int), .int .i64 (n.buf.length:Int)] w fun e w'=>e= .returned (.tuple #[])/\Wr c W.heap.size w' g t0/\Kw W.heap.size w w'):=fun w g h=>by
  have h8:=WTop_any c h lv' n.kids.length n.buf.length (by simp) (by omega) (by omega) (by omega)
  rw [if_neg hlvn,List.nil_append,<-ht0] at h8
  exact h8
 have cK:∀(w:World) (g:Nat),Below W.heap.size W w->Wr c W.heap.size w g t0->Hid (Calls Tryz.prog 153 #[.pointer (some ⟨g,0,none⟩), .slice a.kA n.kids.length a.kc] w fun e w'=>e= .returned (.tuple #[])/\Wr c W.heap.size w' g t1/\Kw W.heap.size w w'):=fun w g hb h9=>by
  have h8:=WKids_any hs hb h9 (cc:=a.kc) h.kids.1 hkid hkf (by omega)
  rw [<-ht1] at h8
  exact h8
 have cPv:∀(w:World) (g:Nat),Below W.heap.size W w->Wr c W.heap.size w g t1->Hid (Calls Tryz.prog 154 #[.pointer (some ⟨g,0,none⟩), .slice a.pA n.piv.length a.pc] w fun e w'=>e= .returned (.tuple #[])/\Wr c W.heap.size w' g t2/\Kw W.heap.size w w'):=fun w g hb h9=>by
  have h8:=WPivots_any hs hb h9 (cc:=a.pc) h.piv.1 hpk hpf (by omega)
  rw [<-ht2] at h8
  exact h8
 have cMs:∀(w:World) (g:Nat),Below W.heap.size W w->Wr c W.heap.size w g t2->Hid (Calls Tryz.prog 155 #[.pointer (some ⟨g,0,none⟩), .slice a.bA n.buf.length a.bc] w fun e w'=>e= .returned (.tuple #[])/\Wr c W.heap.size w' g body/\Kw W.heap.size w w'):=fun w g hb h9=>by
  have h8:=WMsgs_any hs hb h9 (cc:=a.bc) h.buf.1 hpm (by omega)
  rw [hbd] at h8
  exact h8
 have hsub:IntKind.i64.wrap ((Y:Int)-(body.length:Int))=(d:Int):=by
  rw [IntKind.wrap_i64]
  omega
 have hz:body.length+d<=1048576:=by omega
 have hY9:Y<=65536:=by omega
 obtain ⟨bl,hble⟩:∃b,b=blockL c n:=⟨_,rfl⟩
 rw [<-hble] at HEND ⊢
 have hmk:=fun w=>run_make_empty (P:=Tryz.prog) Tryz.underlying72 u8info rfl (by decide) Y (by omega) w
 clear hble hbl hfit hd hr hs h0 hP hkl hpl hml hlen hbq hin hm hkf hpf hF hBf hinl ht0 ht1 ht2 hbody hbd hl0 hl1 hl2 hl3 hpk hpm hlv40 hlvn hlv0 hYs
 obtain ⟨cB,cY,cF,cN,cU,cL,cKy,cV⟩:=c
 obtain ⟨lv,Ks,P,B,Q⟩:=n
 obtain ⟨kA,kc,pA,pc,bA,bc,qA,qc⟩:=a
 unfold cfCs ndCs
 simp only at*
 subst hY
 subst hlv'
 generalize Ks.length=kn at*
 generalize P.length=pn at*
 generalize B.length=bn at*
 generalize Q.length=qn at*
 clear h hkid
 go_enter Tryz.func111,Tryz.ntmps111
 go_upto_region 1 with fail
 have HB:=Lib.hid (Bx2.new W (.cells #[.int .i64 cB, .int .i64 (Y:Int), .int .i64 cF, .int .i64 cN, .int .i64 cU, .int .i64 cL, .int .i64 cKy, .int .i64 cV] 23) (.cells #[.int .i64 (lv':Int), .slice kA kn kc, .slice pA pn pc, .slice bA bn bc, .slice qA qn qc] 43))
 generalize (W.alloc (.cells #[.int .i64 cB, .int .i64 (Y:Int), .int .i64 cF, .int .i64 cN, .int .i64 cU, .int .i64 cL, .int .i64 cKy, .int .i64 cV] 23)).alloc (.cells #[.int .i64 (lv':Int), .slice kA kn kc, .slice pA pn pc, .slice bA bn bc, .slice qA qn qc] 43)=w1 at*
 obtain ⟨g,hg⟩:∃g,g=W.heap.size:=⟨_,rfl⟩
 rw [<-hg] at HB
 have hgW:W.heap.size<=g:=by omega
 simp only [<-hg]
 clear hg
 obtain ⟨g0,g1,g2,g3,g4,g5,g6,g7⟩:=box8 HB.out.x
 have t0:=fun q:Drift.Tide [] w1 []=>Drift.Tide.cell g0 (by simp) q
 have t1:=fun q:Drift.Tide [] w1 []=>Drift.Tide.cell g1 (by simp) q
 have t2:=fun q:Drift.Tide [] w1 []=>Drift.Tide.cell g2 (by simp) q
 have t3:=fun q:Drift.Tide [] w1 []=>Drift.Tide.cell g3 (by simp) q
 have t4:=fun q:Drift.Tide [] w1 []=>Drift.Tide.cell g4 (by simp) q
 have t5:=fun q:Drift.Tide [] w1 []=>Drift.Tide.cell g5 (by simp) q
 have t6:=fun q:Drift.Tide [] w1 []=>Drift.Tide.cell g6 (by simp) q
 have t7:=fun q:Drift.Tide [] w1 []=>Drift.Tide.cell g7 (by simp) q
 clear g0 g1 g2 g3 g4 g5 g6 g7
 refine Drift.wp_region_drift [] [(0,[]),(1,[]),(2,[]),(3,[]),(4,[]),(5,[])] [] [3,5] (by kernel_rfl) (by kernel_rfl) (by simp) ?_
 simp only [Drift.pick,Drift.opsAt,List.getElem?_toArray,List.getElem?_cons_zero,List.getElem?_cons_succ,List.cons_append,List.nil_append,List.filterMap_nil]
 repeat (refine Drift.walk_step (fun K hK=>?_);go_simp;(refine hK _ ?_;clear hK K))
 refine Drift.walk_make rfl Drift.mkwalk_nil (fun b=> .slice (some ⟨b,0,none⟩) 0 Y) (.cells (List.replicate Y (.int .u8 0)).toArray 5) (fun W=>by go_simp) (fun b1 hb1 hT1=>?_)
 clear t0 t1 t2 t3 t4 t5 t6 t7 hmk
 repeat (refine Drift.walk_step (fun K hK=>?_);go_simp;first|(refine hK _ ?_;clear hK K)|(refine ⟨_,fun _=>rfl,hK _ ?_⟩;clear hK K))
 refine Drift.walk_make rfl Drift.mkwalk_nil (fun b=> .pointer (some ⟨b,0,none⟩)) (.cells #[.int .i64 cB, .int .i64 (Y:Int), .int .i64 cF, .int .i64 cN, .int .i64 cU, .int .i64 cL, .int .i64 cKy, .int .i64 cV, .slice (some ⟨b1,0,none⟩) 0 Y] 196) (fun W=>by go_simp) (fun b2 hb2 hT2=>?_)
 refine Drift.walk_nil ?_
 intro w2 hk2 hl2
 have HW:Hid (Wr ⟨cB,Y,cF,cN,cU,cL,cKy,cV⟩ W.heap.size w2 b2 []):=⟨Nat.le_trans HB.out.below.size hb2,_,hl2 (b2, .cells #[.int .i64 cB, .int .i64 (Y:Int), .int .i64 cF, .int .i64 cN, .int .i64 cU, .int .i64 cL, .int .i64 cKy, .int .i64 cV, .slice (some ⟨b1,0,none⟩) 0 Y] 196) (by simp),Own.empty (Nat.le_trans HB.out.below.size hb1) hY9 (hl2 (b1, .cells (List.replicate Y (.int .u8 0)).toArray 5) (by simp))⟩
 replace HB:=Lib.hid (HB.out.kept hk2)
 clear hk2 hl2 hT1 hT2 hb1 hb2
 simp only [List.length_cons,List.length_nil,List.drop_succ_cons,List.drop_zero,Nat.zero_add,Nat.reduceAdd]
 obtain ⟨d0,d1,d2,d3,d4⟩:=box5 HB.out.y
 have hne:((lv':Int)==0)=false:=by simpa using h0'
 go_upto_region 5 with fail
 go_upto_region 6 with (go_at_call 151;refine (cTop _ _ HW.out).out.mono ?_;rintro e w3 ⟨rfl,hw,hk⟩;replace HW:=Lib.hid hw;replace HB:=Lib.hid (HB.out.kw hk (by decide) (by decide));clear hw hk d0 d1 d2 d3 d4;obtain ⟨d0,d1,d2,d3,d4⟩:=box5 HB.out.y)
 clear cTop
 go_upto_region 7 with (go_at_call 153;refine (cK _ _ HB.out.below HW.out).out.mono ?_;rintro e w4 ⟨rfl,hw,hk⟩;replace HW:=Lib.hid hw;replace HB:=Lib.hid (HB.out.kw hk (by decide) (by decide));clear hw hk d0 d1 d2 d3 d4;obtain ⟨d0,d1,d2,d3,d4⟩:=box5 HB.out.y)
 clear cK
 go_upto_region 8 with (go_at_call 154;refine (cPv _ _ HB.out.below HW.out).out.mono ?_;rintro e w5 ⟨rfl,hw,hk⟩;replace HW:=Lib.hid hw;replace HB:=Lib.hid (HB.out.kw hk (by decide) (by decide));clear hw hk d0 d1 d2 d3 d4;obtain ⟨d0,d1,d2,d3,d4⟩:=box5 HB.out.y)
 clear cPv
 go_upto_region 9 with (go_at_call 155;refine (cMs _ _ HB.out.below HW.out).out.mono ?_;rintro e w6 ⟨rfl,hw,hk⟩;replace HW:=Lib.hid hw;replace HB:=Lib.hid (HB.out.kw hk (by decide) (by decide));clear hw hk d0 d1 d2 d3 d4;obtain ⟨d0,d1,d2,d3,d4⟩:=box5 HB.out.y)
 clear cMs d0 d1 d2 d3 d4
 have hbd:Below w6.heap.size w6 { w6 with drawn:=w6.drawn+1 }:=⟨rfl,rfl,rfl,Nat.le_refl _,fun _ _=>rfl⟩
 refine wp_region_still_tail 9 (by kernel_rfl) (by kernel_rfl) ?_
 simp only [List.take_succ_cons,List.take_zero,List.drop_succ_cons,List.drop_zero]
 generalize { w6 with drawn:=w6.drawn+1 }=w7 at*
 replace HW:=Lib.hid (HW.out.kept hbd)
 replace HB:=Lib.hid (HB.out.kept hbd)
 clear hbd
 obtain ⟨g0,g1,g2,g3,g4,g5,g6,g7⟩:=box8 HB.out.x
 obtain ⟨A,cap,c8,-,-⟩:=HW.out.fr
 clear g0 g2 g3 g4 g5 g6 g7
 repeat (refine wpStill_step (fun K hK=>?_);go_simp;(refine hK _ ?_;clear hK K))
 refine wpStill_nil ?_
 clear c8 g1
 go_upto_region 10 with (go_at_call 156;refine (WZeros_any _ HW.out d hz).mono ?_;rintro e w8 ⟨rfl,hw,hk⟩;rw [HEND.out] at hw;replace HW:=Lib.hid hw;replace HB:=Lib.hid (HB.out.kw hk (by decide) (by decide));clear hw hk)
 obtain ⟨A9,cap9,c9,hfr,hcap⟩:=HW.out.fr
 have HFR:=Lib.hid hfr
 have HCP:=Lib.hid hcap
 clear hfr hcap
 go_wp2_with fail
 go_ret
 exact ⟨⟨A9,cap9,rfl,HFR.out,HCP.out⟩,HB.out.below⟩
theorem Write_any (c:Cfg) {n:Nd} {a:At} {W:World} (h:NdIn W n a) (hkid:∀k,k∈n.kids->k<4294967296) (hr:RightA c n):Calls Tryz.prog 111 #[.agg (cfCs c), .agg (ndCs n a)] W fun e w'=>(∃A cap,e= .returned (.slice A (blockL c n).length cap)/\FrB w' W.heap.size A (blockL c n)/\(blockL c n).length<=cap)/\Below W.heap.size W w':=by
 by_cases h0:n.lv=0
 . exact Write_leaf c h hkid hr h0
 . exact Write_inner c h hkid hr h0
end No
end Go.Proofs.YtjpjjnalpdpljaaGreatDoor
