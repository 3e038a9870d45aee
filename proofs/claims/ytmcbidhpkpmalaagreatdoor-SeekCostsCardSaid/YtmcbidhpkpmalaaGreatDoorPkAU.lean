import Derived.Test.YtmcbidhpkpmalaaGreatDoorPqPdqQ
import Derived.Test.YtmcbidhpkpmalaaGreatDoorPqCacheAct3
import Derived.Test.YtmcbidhpkpmalaaGreatDoorPkAL
set_option maxHeartbeats 4000000
set_option maxRecDepth 100000
namespace Go.Proofs.YtmcbidhpkpmalaaGreatDoor
open Go.RowKit
open Go.Lib (hid)
open IntKind (wrap_i64)
namespace Pq
open Mem Hp
structure PQ(w wr:World)(g c n:Nat)(l L:List Nat)(a0 b0 a b:Nat):Prop where
 us:US w wr g c n l L a0 b0
 re:Rest L a0 b0 a b
 bl:Blw L a b
 a0a:a0<=a
 ab:a<=b
 bb0:b<=b0
 b0n:b0<=n
section
variable{w wr w':World}{g c n a0 b0 a b:Nat}{l L L2:List Nat}
theorem PQ.moved(h:PQ w wr g c n l L a0 b0 a b)(k:US wr w' g c n L L2 a b):PQ w w' g c n l L2 a0 b0 a b:=by
 have hb:b<=L.length:=by rw[h.us.len];exact Nat.le_trans h.bb0 h.b0n
 exact⟨h.us.then_ (k.wide h.a0a h.bb0),h.re.moved k.mv hb h.a0a h.bb0,h.bl.moved k.mv hb,h.a0a,h.ab,h.bb0,h.b0n⟩
theorem PQ.kept(h:PQ w wr g c n l L a0 b0 a b)(hb:Bw wr w'):PQ w w' g c n l L a0 b0 a b:=⟨h.us.kept hb,h.re,h.bl,h.a0a,h.ab,h.bb0,h.b0n⟩
theorem PQ.eq{m pv:Nat}(h:PQ w wr g c n l L a0 b0 a b)(k:US wr w' g c n L L2 a b)(e:uo L L2 a b pv m)(ha:0<a)(hp:gt L pv<=gt L (a-1)):PQ w w' g c n l L2 a0 b0 m b:=by have h2:=h.moved k;(have hall:∀x,a<=x->x<b->gt L2 a<=gt L2 x:=fun x h3 h4=>by have h5:=h2.bl ha x h3 h4;have h6:=k.mv.out (a-1) (.inl (by omega));rw[e.at_];omega);have hmb:=e.mb;have ham:=e.am;refine⟨h2.us,h2.re.same ham hmb e.lo e.hi hall,fun _ x h3 h4=>?_,by have:=h.a0a;omega,hmb,h.bb0,h.b0n⟩;have h5:=e.lo (m-1) (by omega) (by omega);have h6:=e.hi x h3 h4;omega
theorem PQ.left{m:Nat}{w2:World}{L3:List Nat}(h:PQ w wr g c n l L a0 b0 a b)(p:fO L a b m)(k:US wr w2 g c n L L3 a m)(ho:y9 L3 a m):PQ w w2 g c n l L3 a0 b0 (m+1) b:=by
 have hb:b<=L.length:=by rw[h.us.len];exact Nat.le_trans h.bb0 h.b0n
 have hmb:=p.mb;have h2:=h.moved (k.wide (Nat.le_refl _) (Nat.le_of_lt hmb));have p2:=p.M7 k.mv hb;exact⟨h2.us,h2.re.left p2 ho,fun _ x h3 h4=>p2.hi x (by omega) h4,by have:=h.a0a;have:=p.am;omega,by omega,h.bb0,h.b0n⟩
theorem PQ.right{m:Nat}{w2:World}{L3:List Nat}(h:PQ w wr g c n l L a0 b0 a b)(p:fO L a b m)(k:US wr w2 g c n L L3 (m+1) b)(ho:y9 L3 (m+1) b):PQ w w2 g c n l L3 a0 b0 a m:=by
 have hb:b<=L.length:=by rw[h.us.len];exact Nat.le_trans h.bb0 h.b0n
 have ham:=p.am;have hmb:=p.mb;have h2:=h.moved (k.wide (by omega) (Nat.le_refl _));have p2:=p.M8 k.mv hb;exact⟨h2.us,h2.re.right p2 ho,fun h0 x h3 h4=>h2.bl h0 x h3 (by omega),h.a0a,ham,by have:=h.bb0;omega,h.b0n⟩
theorem PQ.blL{m:Nat}(h:PQ w wr g c n l L a0 b0 a b)(p:fO L a b m):Blw L a m:=fun h0 x h3 h4=>h.bl h0 x h3 (by have:=p.mb;omega)
theorem PQ.blR{m:Nat}(_:PQ w wr g c n l L a0 b0 a b)(p:fO L a b m):Blw L (m+1) b:=fun _ x h3 h4=>by rw[Nat.add_sub_cancel];exact p.hi x (by omega) h4
end
def Iu(N:Nat):Prop:=∀(w:World) (g c n a b:Nat) (z:Int) (l:List Nat),Ow 30 w g c (l.map nV)->l.length=n->a<=b->b<=n->n<=80->b-a=N->Blw l a b->Calls Tryz.prog 194 #[.slice (some g) n c,(a:Int),(b:Int),z] w fun e w'=>e=.returned (.tuple #[])/\∃L,US w w' g c n l L a b/\y9 L a b
theorem Iw(N:Nat)(ih:∀m,m<N->Iu m):Iu N:=by (intro w g c n a0 b0 z0 l h hl Ru RG hn hN NJ;have H0:Hid (PQ w w g c n l l a0 b0 a0 b0):=⟨US.start h hl a0 b0,Rest.start l a0 b0,NJ,Nat.le_refl _,Ru,Nat.le_refl _,RG⟩;have IH:Hid (∀m,m<N->Iu m):=ih;have HN:=hid hN;have Uy:b0<=80:=by omega);clear h hl NJ ih hN;go_enter Tryz.func194,Tryz.ntmps194;go_wp2_with fail;go_loopg[1,2,3,8,9] (b0-a0) (fun gk av bv zv xv yv wr=>∃(a b:Nat) (z:Int) (x y:Bool) (L:List Nat),gk=b-a/\av= .int .i64 (a:Int)/\bv= .int .i64 (b:Int)/\zv= .int .i64 z/\xv= .bool x/\yv= .bool y/\Hid (PQ w wr g c n l L a0 b0 a b));(case atStart=>exact⟨a0,b0,z0,true,true,l,rfl,rfl,rfl,rfl,rfl,rfl,H0⟩);case round=>(obtain⟨a,b,z,x,y,L,rfl,rfl,rfl,rfl,rfl,rfl,HQ⟩:=hrel;clear H0;have hq:=HQ.out;have hab:=hq.ab;have Tp:=hq.bb0;have Uz:=hq.a0a;have hbn:b<=n:=Nat.le_trans Tp RG;clear hq;obtain⟨m0,hm0⟩:=eX (b-a);have hwl:IntKind.i64.wrap ((b:Int)-(a:Int))=(m0:Int):=by rw[wrap_i64];omega);have HM0:=hid hm0;clear hm0;by_cases h12:m0<=12;(. have cI:=hid (um HQ.us.ow HQ.us.len hab hbn (by omega));go_wp2_with (go_at_call 197;refine cI.mono ?_;rintro e w2 ⟨rfl,L2,h1,h2⟩);exact bodyPost_ret (results_none rfl _ _ _) rfl ⟨rfl,L2,(HQ.moved h1).us,(HQ.moved h1).re.done h2.ord⟩);(have UA:12<m0:=by omega);by_cases hz:z=0;(. subst hz;have cI:=hid (vS HQ.us.ow HQ.us.len hab hbn (by omega));go_wp2_with (go_at_call 198;refine cI.mono ?_;rintro e w2 ⟨rfl,L2,h1,h2⟩);exact bodyPost_ret (results_none rfl _ _ _) rfl ⟨rfl,L2,(HQ.moved h1).us,(HQ.moved h1).re.done h2.ord⟩);(have hz':(z==0)=false:=by simpa using hz);(have QA:a+12<b:=by have:=HM0.out;omega);(have wI:n<=1000:=by omega);go_upto_if 35 with fail;clear hwl hz hz' h12;go_cut[3] (fun zv wx=>∃(z:Int) (L:List Nat),zv= .int .i64 z/\Hid (PQ w wx g c n l L a0 b0 a b));(case first=>cases x with|true=>go_wp2_with fail;go_meet;exact⟨z,L,rfl,HQ⟩|false=>have cI:=hid (D9 HQ.us.ow HQ.us.len QA hbn hn);go_wp2_with (go_at_call 199;refine cI.mono ?_;rintro e w2 ⟨rfl,L2,h1⟩);have HQ2:=hid (HQ.moved h1);clear h1 cI HQ;go_wp2_with fail;go_meet;exact⟨_,L2,rfl,HQ2⟩);case rest=>clear HQ L z;obtain⟨z,L,rfl,HQ⟩:=hcut;have cP:=hid (qB HQ.us.ow HQ.us.len QA hbn wI);go_upto_region 11 with(go_at_call 200;refine cP.mono ?_;rintro e w2 ⟨pv,hint,rfl,hh,hp1,hp2,hb2⟩);have HQ2:=hid (HQ.kept hb2);clear HQ cP hb2;go_upto_if 50 with fail;go_cut[11,12] (fun pvv hv wx=>∃(pv:Nat) (hint:Int) (L:List Nat),pvv= .int .i64 (pv:Int)/\hv= .int .i64 hint/\a<=pv/\pv<b/\Hid (hint=0\/hint=1)/\Hid (PQ w wx g c n l L a0 b0 a b));(case first=>by_cases h2:hint=2;(. subst h2;obtain⟨b1,hb1⟩:=eX (b-1);obtain⟨d1,hd1⟩:=eX (pv-a);obtain⟨pv2,hpv2⟩:=eX (b1-d1);have hw1:IntKind.i64.wrap ((b:Int)-1)=(b1:Int):=(by rw[wrap_i64];omega);have hw2:IntKind.i64.wrap ((pv:Int)-(a:Int))=(d1:Int):=(by rw[wrap_i64];omega);have hw3:IntKind.i64.wrap ((b1:Int)-(d1:Int))=(pv2:Int):=(by rw[wrap_i64];omega);have cR:=hid (xX HQ2.us.ow HQ2.us.len (show a<b by omega) hbn wI);have HP3:=hid (show a<=pv2/\pv2<b by omega);clear hb1 hd1 hpv2 hh;go_wp2_with (go_at_call 201;refine cR.mono ?_;rintro e w3 ⟨rfl,L3,h3⟩);have HQ3:=hid (HQ2.moved h3);clear h3 cR HQ2;go_wp2_with fail;go_meet;exact⟨pv2,1,L3,rfl,rfl,HP3.1,HP3.2,hid (.inr rfl),HQ3⟩);. (have h2':(hint==2)=false:=by simpa using h2);have HH:Hid (hint=0\/hint=1):=(by unfold Hid;omega);clear hh h2;go_wp2_with fail;go_meet;exact⟨pv,hint,L,rfl,rfl,hp1,hp2,HH,HQ2⟩);case rest=>clear HQ2 hh hp1 hp2 L;obtain⟨pv2,Tq,L,rfl,rfl,hp1,hp2,HH,HQ⟩:=hcut;obtain⟨pv,rfl⟩:=eX pv2;go_upto_region 15 with fail;go_cut[68] (fun tv wx=>(∃t:Bool,tv= .bool t)/\Hid (PQ w wx g c n l L a0 b0 a b));(case first=>have HQ1:=HQ;clear HQ;rcases HH.out with h|h;(. subst h;cases x with|true=>(cases y with|true=>go_wp2_with fail;go_meet;exact⟨⟨_,rfl⟩,HQ1⟩|false=>go_wp2_with fail;go_meet;exact⟨⟨_,rfl⟩,HQ1⟩)|false=>go_wp2_with fail;go_meet;exact⟨⟨_,rfl⟩,HQ1⟩);. subst h;cases x with|true=>(cases y with|true=>go_wp2_with fail;go_meet;exact⟨⟨_,rfl⟩,HQ1⟩|false=>go_wp2_with fail;go_meet;exact⟨⟨_,rfl⟩,HQ1⟩)|false=>go_wp2_with fail;go_meet;exact⟨⟨_,rfl⟩,HQ1⟩);case rest=>obtain⟨⟨t1,rfl⟩,HQ'⟩:=hcut;clear HQ HH;go_upto_if 68 with fail;go_cut[11] (fun pvv wx=>∃(L:List Nat),pvv= .int .i64 (pv:Int)/\Hid (PQ w wx g c n l L a0 b0 a b));(case first=>cases t1 with|false=>go_wp2_with fail;go_meet;exact⟨L,rfl,HQ'⟩|true=>(have cI:=hid (xZ HQ'.us.ow HQ'.us.len QA hbn wI HQ'.bl);go_upto_if 72 with(go_at_call 202;refine cI.mono ?_;rintro e w2 ⟨t2,L2,rfl,h1,h2⟩);have HQ2:=hid (HQ'.moved h1);have HT:=hid h2;clear h1 h2 cI HQ';cases t2 with|true=>go_wp2_with fail;exact bodyPost_ret (results_none rfl _ _ _) rfl ⟨rfl,L2,HQ2.us,HQ2.re.done (HT.out trivial).ord⟩|false=>go_wp2_with fail;go_meet;exact⟨L2,rfl,HQ2⟩));case rest=>clear HQ' L;obtain⟨L,rfl,HQ⟩:=hcut;go_upto_region 17 with fail;go_cut[87] (fun tv wx=>∃t:Bool,tv= .bool t/\Hid (t=true->0<a/\gt L pv<=gt L (a-1))/\Hid (PQ w wx g c n l L a0 b0 a b));(case first=>rcases Nat.eq_zero_or_pos a with h0|h0;(. subst h0;go_quiet (fail);have HQ2:=hid (HQ.kept (iE _ nq));clear HQ;go_wp2_with fail;go_meet;exact⟨false,rfl,hid (fun h=>by cases h),HQ2⟩);. obtain⟨a1,ha1⟩:=eX (a-1);have hw1:IntKind.i64.wrap ((a:Int)-1)=(a1:Int):=(by rw[wrap_i64];omega);have Tt:a1<n:=(by omega);have hpn:pv<n:=(by omega);have d1:=HQ.us.cell Tt;have d2:=HQ.us.cell hpn;have HA1:=hid ha1;clear ha1;by_cases hxy:gt L a1<gt L pv;(. have cL:=fun w=>hid (bI (t:=true) (x:=gt L a1) (y:=gt L pv) (by simpa using hxy) w);clear hxy;go_quiet ((go_at_call 203;exact Calls.quiet_of_same ((cL _).mono fun e w' ⟨he,hw⟩=>⟨he,hw.symm⟩)));have HQ2:=hid (HQ.kept (iE _ nq));clear HQ d1 d2;go_wp2_with fail;go_meet;exact⟨false,rfl,hid (fun h=>by cases h),HQ2⟩);. have cL:=fun w=>hid (bI (t:=false) (x:=gt L a1) (y:=gt L pv) (by simpa using hxy) w);have HX:Hid (0<a/\gt L pv<=gt L (a-1)):=⟨h0,by rw[<-HA1.out];omega⟩;clear hxy;go_quiet ((go_at_call 203;exact Calls.quiet_of_same ((cL _).mono fun e w' ⟨he,hw⟩=>⟨he,hw.symm⟩)));have HQ2:=hid (HQ.kept (iE _ nq));clear HQ d1 d2;go_wp2_with fail;go_meet;exact⟨true,rfl,hid (fun _=>HX.out),HQ2⟩);case rest=>obtain⟨t,rfl,HT,HQ2⟩:=hcut;clear HQ;have HQ:=HQ2;clear HQ2;cases t with|true=>have HT2:Hid (0<a/\gt L pv<=gt L (a-1)):=HT.out rfl;have cE:=hid (Bb HQ.us.ow HQ.us.len hp1 hp2 hbn wI);clear HT;go_wp2_with (go_at_call 204;refine cE.mono ?_;rintro e w2 ⟨m,rfl,L2,h1,h2⟩);have HQ3:=hid (HQ.eq h1 h2 HT2.1 HT2.2);have HM:=hid (show a<m/\m<=b from⟨h2.am,h2.mb⟩);clear h1 h2 cE HQ HT2;go_wp2_with fail;go_roundg (b-m);(case measure=>have:=HM.out;omega);case rel=>exact⟨m,b,z,x,y,L2,rfl,rfl,rfl,rfl,rfl,rfl,HQ3⟩|false=>clear HT;have cE:=hid (uL HQ.us.ow HQ.us.len hp1 hp2 hbn wI);go_upto_region 21 with(go_at_call 205;refine cE.mono ?_;rintro e w2 ⟨m,tp,rfl,L2,h1,h2⟩);have HQ3:=hid (HQ.moved h1);have HPA:=hid h2;have ham:=h2.am;have hmb:=h2.mb;clear h1 h2 cE HQ;obtain⟨ll,hll⟩:=eX (m-a);obtain⟨rl,hrl⟩:=eX (b-m);obtain⟨th,hth⟩:=eX (m0 / 8);obtain⟨m1,hm1⟩:=eX (m+1);have hw1:IntKind.i64.wrap ((m:Int)-(a:Int))=(ll:Int):=(by rw[wrap_i64];omega);have hw2:IntKind.i64.wrap ((b:Int)-(m:Int))=(rl:Int):=(by rw[wrap_i64];omega);have hw3:(m0:Int).tdiv 8=(th:Int):=(by rw[Int.tdiv_eq_ediv_of_nonneg (by omega)];omega);have hw4:IntKind.i64.wrap (th:Int)=(th:Int):=(by rw[wrap_i64];have:=HM0.out;omega);have hw5:IntKind.i64.wrap ((m:Int)+1)=(m1:Int):=(by rw[wrap_i64];omega);have HE:=hid (show ll=m-a/\rl=b-m/\m1=m+1 from⟨hll,hrl,hm1⟩);clear hll hrl hth hm1;by_cases hlr:ll<rl;(. have cI:Hid (Calls Tryz.prog 194 #[.slice (some g) n c,(a:Int),(m:Int),z] w2 fun e w'=>e=.returned (.tuple #[])/\∃L,US w2 w' g c n L2 L a m/\y9 L a m):=IH.out (m-a) (by have:=HN.out;omega) w2 g c n a m z L2 HQ3.us.ow HQ3.us.len ham (by omega) hn rfl (HQ3.blL HPA.out);go_wp2_with (go_at_call 194;refine cI.mono ?_;rintro e w3 ⟨rfl,L3,h1,h2⟩);(have HQ4:Hid (PQ w w3 g c n l L3 a0 b0 m1 b):=by rw[HE.2.2];exact HQ3.left HPA.out h1 h2);clear h1 h2 cI HQ3;go_wp2_with fail;go_roundg (b-m1);(case measure=>have:=HE.out;omega);case rel=>exact⟨m1,b,z,_,tp,L3,rfl,rfl,rfl,rfl,rfl,rfl,HQ4⟩);. (have UC:rl<=ll:=by omega);have cI:Hid (Calls Tryz.prog 194 #[.slice (some g) n c,(m1:Int),(b:Int),z] w2 fun e w'=>e=.returned (.tuple #[])/\∃L,US w2 w' g c n L2 L m1 b/\y9 L m1 b):=IH.out (b-m1) (by have:=HN.out;have:=HE.out;omega) w2 g c n m1 b z L2 HQ3.us.ow HQ3.us.len (by have:=HE.out;omega) hbn hn rfl (by rw[HE.2.2];exact HQ3.blR HPA.out);go_wp2_with (go_at_call 194;refine cI.mono ?_;rintro e w3 ⟨rfl,L3,h1,h2⟩);(have HQ4:Hid (PQ w w3 g c n l L3 a0 b0 a m):=by rw[HE.2.2]at h1 h2;exact HQ3.right HPA.out h1 h2);clear h1 h2 cI HQ3;go_wp2_with fail;go_roundg (m-a);(case measure=>omega);case rel=>exact⟨a,m,z,_,tp,L3,rfl,rfl,rfl,rfl,rfl,rfl,HQ4⟩
theorem LK(N:Nat):Iu N:=Nat.strongRecOn N Iw
end Pq
end Go.Proofs.YtmcbidhpkpmalaaGreatDoor
namespace Go.Proofs.YtmcbidhpkpmalaaGreatDoor
open Go.RowKit
namespace Pq
open Mem Hp
theorem Iy{w:World}{g c n:Nat}{l:List Nat}(h:Ow 30 w g c (l.map nV))(hl:l.length=n)(h1:1<=n)(hn:n<=80):Calls Tryz.prog 189 #[.slice (some g) n c] w fun e w'=>e=.returned (.tuple #[])/\∃L,US w w' g c n l L 0 n/\y9 L 0 n:=by (have cL:=fun w=>Lib.hid (vU n h1 hn w);have cP:=fun z=>Lib.hid (LK n w g c n 0 n z l h hl (Nat.zero_le _) (Nat.le_refl _) hn rfl (fun h0=>by omega));have hw1:IntKind.u64.wrap (n:Int)=(n:Int):=by rw[IntKind.wrap_u64];omega);clear h hl h1 hn;go_enter Tryz.func189,Tryz.ntmps189;go_wp2_with (first|(go_at_call 195;refine(cL _).mono ?_;rintro e w' ⟨z,rfl,rfl,-,-,-⟩)|(go_at_call 194;refine(cP _).mono ?_;rintro e w2 ⟨rfl,L,h1,h2⟩));go_end0;exact⟨rfl,L,h1,h2⟩
end Pq
end Go.Proofs.YtmcbidhpkpmalaaGreatDoor
namespace Go.Proofs.YtmcbidhpkpmalaaGreatDoor
open Go.RowKit Go.Maps
namespace Ca
open Mem Dv Cn Po So
section
variable{W wr w1 w3:World}{st:St}{mp k cnt cnt1 c c':Nat}{D:DataW Unit}{left:Lit->Bool}{A A':Option Addr}{L:List Nat}{b:Nat}
end
end Ca
end Go.Proofs.YtmcbidhpkpmalaaGreatDoor
namespace Go.Proofs.YtmcbidhpkpmalaaGreatDoor
open Go.RowKit
open Go.Lib (hid)
open List (mem_cons not_mem_nil range replicate)
namespace Ca
open Mem Dv Cn
theorem Og:(Tryz.prog.info? 125).map (fun i=>(i.zero,i.size,i.bytes))=some (some (.agg #[.int .u32 0,(),.bool false,(0:Int)]),4,48):=by kernel_rfl
def zfr:Array Value:= #[.int .u32 0,.slice none 0 0,.bool false,.int .i64 0]
theorem qP(n:Nat)(hn:n<=64)(w:World):
 (Instr.makeSlice 119 (.int .i64 (n:Int)) (.int .i64 (n:Int))).run Tryz.prog w= .ok (.slice (some w.heap.size) n n) (w.alloc (.cells (madeCells zfr (n*4)) 125)):=by
 obtain⟨i,hi,hz,hs,hb⟩:=info_parts Og;have hr:=run_make (P:=Tryz.prog) w _ _ i _ Tryz.underlying119 hi hz .i64 .i64 n n (by omega) (by omega) (by rw[hb];omega) (by omega);rw[hr,hs];simp only[Int.toNat_natCast];rfl
theorem uM{n i:Nat}(h:i<n):(madeCells zfr n).toList[i]? =some (zfr[i % 4]!):=by simp[madeCells,h,zfr]
theorem Iz(n:Nat)(w:World)(qk:Nat->Nat × Nat):FrW (w.alloc (.cells (madeCells zfr (n*4)) 125)) w.heap.size qk (replicate n none):=by refine⟨(madeCells zfr (n*4)).toList,?_,by simp[size_madeCells],fun j x hx=>?_⟩;(. unfold Cells;rw[heap_alloc_new]);. rw[List.getElem?_replicate]at hx;split at hx;(. rename_i hj;obtain rfl:x=none:=(by simpa using hx.symm);rw[uM (by omega),uM (by omega),uM (by omega),uM (by omega)];rw[show j*4 % 4=0 by omega,show(j*4+1) % 4=1 by omega,show(j*4+2) % 4=2 by omega,show(j*4+3) % 4=3 by omega];exact⟨rfl,rfl,rfl,rfl⟩);. cases hx
def st0(m n:Nat)(ls:List (List UInt8))(r s:Nat):St:=⟨m,ls,r,s,replicate n none,range n⟩
theorem dI{n j:Nat}{f:Fr}(h:(replicate n (none:Option Fr))[j]? =some (some f)):False:=by rw[List.getElem?_replicate]at h;split at h<;>simp at h
theorem IB{m n:Nat}{ls:List (List UInt8)}{r s:Nat}(n1:1<=n)(n2:n<=64)(hm:∀l,l∈ls->l.length=m)(hl:ls.length<=65536):Good (st0 m n ls r s):=
 ⟨by simpa[st0]using n1,by simpa[st0]using n2,fun i j f f' h=>(dI h).elim,fun j f h=>(dI h).elim,fun j f h=>(dI h).elim,fun j=>by
   simp only[st0,List.mem_range,List.length_replicate]
   exact⟨fun h=>⟨h,fun f hf=>(dI hf).elim⟩,fun h=>h.1⟩,List.nodup_range,⟨[],range n,rfl,fun j h=>(by cases h),fun j h=>by
   simp only[st0,List.getElem?_replicate]
   rw[if_pos (by simpa using h)]⟩,hm,hl⟩
theorem Oh(n:Nat):ix (replicate n none)=fun _=>none:=by funext b;exact fq fun j f h=>(dI h).elim
theorem LM(n:Nat):occ (replicate n none)=0:=by unfold occ;rw[List.length_eq_zero_iff,List.filterMap_eq_nil_iff];intro x hx;rw[List.eq_of_mem_replicate hx];rfl
theorem Dev.lm{w:World}{S:List Nat}{g m:Nat}{ls:List (List UInt8)}{r s:Nat}(h:Dev w S g m ls r s):∀l,l∈ls->l.length=m:=by obtain⟨⟨b,c,bks,h1,h2⟩,_⟩:=h;exact h1.ll
section
variable{w:World}{S:List Nat}{g m:Nat}{ls:List (List UInt8)}{r s:Nat}
def RH(w w':World)(S:List Nat)(g:Nat)(st:St)(e:Ending):Prop:=∃p F,e=.returned (.tuple #[(p:Nat),(0:Int)])/\Cw w' F p g st/\zC w S F/\Bw w w'
theorem mq(h:Dev w S g m ls r s)(n:Nat)(n1:1<=n)(n2:n<=64):Calls Tryz.prog 91 #[g,(n:Int)] w fun e w'=>RH w w' S g (st0 m n ls r s) e:=by (have cB:=hid (iQ h);have h5:=h.n1;have hne:((ls.length:Int)==0)=false:=by simp;intro e;simp[e]at h5);have HG:=hid (IB (r:=r) (s:=s) n1 n2 (Dev.lm h) h.n2);generalize (ls.length:Int)=z at*;have H:=hid h;have cN:=hid (Cn.mq n w n1 (by omega));have hmm:= @run_makeMap Tryz.prog;have hmk:=fun w=>qP n n2 w;have HN:=hid (And.intro n1 n2);clear h h5;go_enter Tryz.func91,Tryz.ntmps91;go_wp2_with (first|(go_at_call 92;refine cB.mono ?_;rintro e w' ⟨rfl,rfl⟩)|(go_at_call 132;refine cN.mono ?_;rintro e w1 ⟨⟨ch,cb,rfl,hc,hg1,hg2⟩,hb⟩;have HC:=hid (And.intro hc (And.intro hg1 hg2));have HB:=hid hb;clear hc hb hg1 hg2));clear cB cN;go_loopg[25] n (fun gk iv wr=>∃k:Nat,k<=n/\gk=n-k/\iv= .int .i64 (k:Int)/\Hid (Chn wr ch cb n (range k))/\Hid (Flow.Into [ch,cb] w1 wr));(case atStart=>exact⟨0,Nat.zero_le _,rfl,rfl,HC.1,Flow.Into.refl _ _⟩);case round=>obtain⟨k,hk,rfl,rfl,HCk,HIk⟩:=hrel;by_cases hlt:k<n;(. have cBk:=hid (zS HCk.out hlt);have hw1:IntKind.i64.wrap ((k:Int)+1)=((k+1:Nat):Int):=(by rw[IntKind.wrap_i64];omega);go_wp2_with (go_at_call 133;refine cBk.mono ?_;rintro e w2 ⟨z2,rfl,hc,hi⟩;have HC2:=hid hc;have HI2:=hid hi;clear hc hi);go_roundg (n-(k+1));(case measure=>omega);case rel=>refine⟨k+1,hlt,rfl,by go_num,?_,HIk.trans HI2.out⟩;have:=HC2.out;rw[lM (by simp)]at this;unfold Hid;rw[List.range_succ];exact this);. (obtain rfl:k=n:=by omega);clear hlt;go_wp2_with fail;have hfw:=Iz k wr fun _=>(0,0);have hA:Bw wr (wr.alloc (.cells (madeCells zfr (k*4)) 125)):=bAx;have hAs:(wr.alloc (.cells (madeCells zfr (k*4)) 125)).heap.size=wr.heap.size+1:=(by simp);generalize wr.alloc (.cells (madeCells zfr (k*4)) 125)=w2 at*;have hM:=MC.made w2;have hB2:Bw w2 (w2.alloc (.map #[] 0)):=bAx;have hBs:(w2.alloc (.map #[] 0)).heap.size=wr.heap.size+1+1:=(by simp[hAs]);rw[hAs]at hM;generalize w2.alloc (.map #[] 0)=w3 at*;have hX:=heap_alloc_new w3 (.cells #[g,.slice (some wr.heap.size) k k,.map (some (wr.heap.size+1)),ch] 123);have hC:Bw w3 (w3.alloc (.cells #[g,.slice (some wr.heap.size) k k,.map (some (wr.heap.size+1)),ch] 123)):=bAx;rw[hBs]at hX;generalize w3.alloc (.cells #[g,.slice (some wr.heap.size) k k,.map (some (wr.heap.size+1)),ch] 123)=w4 at*;have hr4:Bw wr w4:=gH (gH hA hB2 (Nat.le_refl _)) hC (Nat.le_refl _);obtain⟨-,hg1,hg2⟩:=HC.out;(have hin:∀x,x∈[ch,cb]->w.heap.size<=x:=fun x hx=>by simp only[mem_cons,not_mem_nil,or_false]at hx;rcases hx with rfl|rfl;(. exact hg1);. exact hg2);have hwr:Bw w wr:=HB.trans (mo HIk.out hin HB.size);have hb4:Bw w w4:=gH hwr hr4 (Nat.le_refl _);have hS:=H.lt;obtain⟨l1,l2,l3,-⟩:=HCk.lt;have hws:=hwr.size;refine bodyPost_ret (v:= .tuple #[.pointer (some ⟨wr.heap.size+1+1,0,none⟩),(0:Int)]) (by simp[results,Tryz.results91,go_sem]) rfl ⟨wr.heap.size+1+1,[wr.heap.size+1+1,wr.heap.size,wr.heap.size+1,ch,cb]++S,rfl,⟨S,wr.heap.size,wr.heap.size+1,ch,cb,fun _=>(0,0),?_,fun x hx=>List.mem_append_right _ hx,fun x hx=>List.mem_append_left _ hx,fun j x hx=>(dI hx).elim,HG.out,fun x hx=>?_⟩,fun x hx=>?_,hb4⟩;(. refine⟨?_,(hfw.keep (hB2.block _ (by omega))).keep (hC.block _ (by omega)),fun j x hx=>(dI hx).elim,?_,?_,H.kept hb4,?_,fun x hx hm=>?_,fun j x hx=>(dI hx).elim,fun i j x y hx=>(dI hx).elim⟩;(. simp only[st0,List.length_replicate];exact hX);(. show MC w4 _ (ix (replicate k none)) (occ (replicate k none));rw[Oh,LM];exact hM.keep (hC.block _ (by omega)));(. show Chn w4 ch cb (replicate k none).length (range k);rw[List.length_replicate];exact HCk.kept hr4);(. simp only[List.nodup_cons,mem_cons,not_mem_nil,or_false,not_or,List.nodup_nil,and_true,not_false_eq_true];omega);. have:=hS x hm;simp only[mem_cons,not_mem_nil,or_false]at hx;omega);(. have h4s:=hC.size;rcases List.mem_append.1 hx with hx|hx;(. simp only[mem_cons,not_mem_nil,or_false]at hx;have:wr.heap.size+1+1<w4.heap.size:=(Array.getElem?_eq_some_iff.1 hX).1;omega);. have:=hS x hx;omega);. rcases List.mem_append.1 hx with hx|hx;(. right;simp only[mem_cons,not_mem_nil,or_false]at hx;omega);. exact .inl hx
end
end Ca
end Go.Proofs.YtmcbidhpkpmalaaGreatDoor
namespace Go.Proofs.YtmcbidhpkpmalaaGreatDoor
open Go.RowKit
namespace Ca
section
variable{st t:St}
theorem mJ{b j:Nat}{f:Fr}(h:look st.fr b=some (j,f)):bH st b=f.2.2.2:=by unfold bH;rw[h]
theorem qQ{b:Nat}(h:look st.fr b=none):bH st b=0:=by unfold bH;rw[h]
theorem Bq(h:Good st)(a x:Nat):bH (bM st a) x=bH st x:=by unfold bM;split;(. rename_i b y p hf;have hl:=eD (f':=(b,y,false,p)) h.uq hf rfl x;unfold bH;simp only[hl];by_cases e:x=b;(. subst e;rw[if_pos rfl,jd h.uq hf]);. rw[if_neg e]);. rfl
theorem Br(h:Good st){a:Nat}{f:Fr}(hf:st.fr[a]? =some (some f))(hd:f.2.2.2=0)(x:Nat):bH (jy st a) x=bH st x:=by have hl:=rW h.uq hf x;unfold jy bH;simp only[hl];by_cases e:x=f.1;(. subst e;rw[if_pos rfl,jd h.uq hf];exact hd.symm);. rw[if_neg e]
theorem wJ(h:Good st){a:Nat}(hr:gq st=some (a,t))(x:Nat):bH t x=bH st x:=by unfold gq at hr;split at hr;(. cases hr);. rename_i i hi;have hm:i∈st.row:=List.mem_of_getLast? hi;split at hr;(. rename_i f hf;simp only[Option.some.injEq,Prod.mk.injEq]at hr;obtain⟨rfl,rfl⟩:=hr;have h0:=((h.rw i).1 hm).2 f hf;obtain⟨b,y,d,p⟩:=f;rw[Br (h.clean _) (oN hf) h0,Bq h]);. simp only[Option.some.injEq,Prod.mk.injEq]at hr;obtain⟨rfl,rfl⟩:=hr;rfl
theorem EW(h:st.row≠[]):∃a t,gq st=some (a,t):=by unfold gq;cases e:st.row.getLast? with|none=>exact absurd (List.getLast?_eq_none_iff.1 e) h|some a=>simp only;split;(. exact⟨_,_,rfl⟩);. exact⟨_,_,rfl⟩
theorem IC(h:Good st)(h3:3<=st.fr.length){k1 k2:Nat}(hp:∀b,bH st b≠0->b=k1\/b=k2):∃a t,gq st=some (a,t):=by refine EW fun he=>?_;(have each:∀j,j<3->∃f:Fr,st.fr[j]? =some (some f)/\(f.1=k1\/f.1=k2):=fun j hj=>by (have hn:¬(j<st.fr.length/\∀f:Fr,st.fr[j]? =some (some f)->f.2.2.2=0):=fun hh=>by have:=(h.rw j).2 hh;rw[he]at this;cases this);rw[Classical.not_and_iff_not_or_not]at hn;rcases hn with hn|hn;(. omega);. rw[Classical.not_forall]at hn;obtain⟨f,hf⟩:=hn;rw[Classical.not_imp]at hf;refine⟨f,hf.1,hp _ ?_⟩;rw[mJ (jd h.uq hf.1)];exact hf.2);obtain⟨f0,g0,e0⟩:=each 0 (by decide);obtain⟨f1,g1,e1⟩:=each 1 (by decide);obtain⟨f2,g2,e2⟩:=each 2 (by decide);have a1:=fun e=>h.uq 0 1 f0 f1 g0 g1 e;have a2:=fun e=>h.uq 0 2 f0 f2 g0 g2 e;have a3:=fun e=>h.uq 1 2 f1 f2 g1 g2 e;rcases e0 with e0|e0<;>rcases e1 with e1|e1<;>rcases e2 with e2|e2<;>first|exact absurd (a1 (by omega)) (by decide)|exact absurd (a2 (by omega)) (by decide)|exact absurd (a3 (by omega)) (by decide)
theorem Oi(h:Good st){b:Nat}(hb:b<st.ls.length)(hr:∃a t,gq st=some (a,t)):(rC st b).1=0/\∀x,bH (rC st b).2 x=if x=b then bH st b+1 else bH st x:=by unfold rC;rw[if_pos hb];cases hl:look st.fr b with|some y=>obtain⟨j,f⟩:=y;obtain⟨hf,rfl⟩:=aL hl;refine⟨rfl,fun x=>?_⟩;have:=eD (f':=(f.1,f.2.1,f.2.2.1,f.2.2.2+1)) h.uq hf rfl x;rw[mJ hl];unfold gI;simp only;unfold bH;simp only[this];by_cases e:x=f.1;(. rw[if_pos e,if_pos e]);. rw[if_neg e,if_neg e]|none=>obtain⟨a,t,hr⟩:=hr;rw[hr];refine⟨rfl,fun x=>?_⟩;obtain⟨g1,g2,g3,g4,g5,g6,g7⟩:=gu h hr;have hn:=bL hl;have:=lS (f:=(b,(t.ls[b]?).getD [],false,1)) g1.uq (aR g2) (fun j g hj e=>absurd e (hn j g (g5 j g hj))) (fun g hg=>by rw[g2]at hg;cases hg) x;rw[qQ hl,<-wJ h hr x];unfold gI vC;simp only;unfold bH;simp only[this];by_cases e:x=b;(. rw[if_pos e,if_pos e]);. rw[if_neg e,if_neg e]
theorem IE(h:Good st){b:Nat}(hb:b<st.ls.length)(h0:bH st b=0)(hr:∃a t,gq st=some (a,t)):(fB st b).1=0/\∀x,bH (fB st b).2 x=if x=b then 1 else bH st x:=by unfold fB;rw[if_pos hb,if_neg (by omega)];cases hl:look st.fr b with|some y=>obtain⟨j,f⟩:=y;obtain⟨hf,rfl⟩:=aL hl;refine⟨rfl,fun x=>?_⟩;have:=eD (f':=(f.1,List.replicate st.m 0,true,1)) h.uq hf rfl x;unfold gI;simp only;unfold bH;simp only[this];by_cases e:x=f.1;(. rw[if_pos e,if_pos e]);. rw[if_neg e,if_neg e]|none=>obtain⟨a,t,hr⟩:=hr;rw[hr];refine⟨rfl,fun x=>?_⟩;obtain⟨g1,g2,g3,g4,g5,g6,g7⟩:=gu h hr;have hn:=bL hl;have:=lS (f:=(b,List.replicate st.m 0,true,1)) g1.uq (aR g2) (fun j g hj e=>absurd e (hn j g (g5 j g hj))) (fun g hg=>by rw[g2]at hg;cases hg) x;rw[<-wJ h hr x];unfold gI;simp only;unfold bH;simp only[this];by_cases e:x=b;(. rw[if_pos e,if_pos e]);. rw[if_neg e,if_neg e]
theorem jq{b:Nat}(h0:bH st b≠0):∃j f,look st.fr b=some (j,f)/\f.2.2.2≠0:=by cases hl:look st.fr b with|none=>exact absurd (qQ hl) h0|some y=>obtain⟨j,f⟩:=y;rw[mJ hl]at h0;exact⟨j,f,rfl,h0⟩
theorem IG(h:Good st){b:Nat}(h0:bH st b≠0):(eu st b).1=0/\∀x,bH (eu st b).2 x=if x=b then bH st b-1 else bH st x:=by obtain⟨j,f,hl,hn⟩:=jq h0;rw[mJ hl];unfold eu;rw[hl];simp only;rw[if_neg hn];refine⟨rfl,fun x=>?_⟩;obtain⟨hf,rfl⟩:=aL hl;have:=eD (f':=(f.1,f.2.1,f.2.2.1,f.2.2.2-1)) h.uq hf rfl x;simp only;unfold bH;simp only[this];by_cases e:x=f.1;(. rw[if_pos e,if_pos e]);. rw[if_neg e,if_neg e]
theorem II(h:Good st){b:Nat}{y:List UInt8}(h0:bH st b≠0)(hy:y.length=st.m):(eB st b y).1=0/\∀x,bH (eB st b y).2 x=bH st x:=by obtain⟨j,f,hl,hn⟩:=jq h0;obtain⟨hf,rfl⟩:=aL hl;unfold eB;rw[hl];simp only;rw[if_neg hn,if_pos (hy.trans (h.blk _ _ hf).2.symm)];refine⟨rfl,fun x=>?_⟩;have:=eD (f':=(f.1,y,true,f.2.2.2)) h.uq hf rfl x;simp only;unfold bH;simp only[this];by_cases e:x=f.1;(. subst e;rw[if_pos rfl,hl]);. rw[if_neg e]
theorem IJ(m n:Nat)(ls:List (List UInt8))(r s x:Nat):bH (st0 m n ls r s) x=0:=by refine qQ (dP fun j f hj=>?_);exact(dI hj).elim
theorem LP(m n:Nat)(ls:List (List UInt8))(r s x:Nat):cur (st0 m n ls r s) x=(ls[x]?).getD []:=by have:look (st0 m n ls r s).fr x=none:=dP fun j f hj=>(dI hj).elim;rw[yZ this];rfl
end
end Ca
namespace Ca
open Mem Dv Cn Po
structure Cl(W w:World)(F:List Nat)(p g:Nat)(st:St):Prop where
 cw:Cw w F p g st
 lo:∀x,x∈F->W.heap.size<=x
 bl:Bw W w
section
variable{W w w':World}{F:List Nat}{p g:Nat}{st st':St}
theorem Cl.kept(h:Cl W w F p g st)(hb:Bw w w'):Cl W w' F p g st:=⟨h.cw.kept hb,h.lo,gH h.bl hb (Nat.le_refl _)⟩
theorem Cl.aft(h:Cl W w F p g st)(ha:Aft w w' F p g st'):∃F',Cl W w' F' p g st'/\zC w F F':=by obtain⟨⟨F',h1,h2⟩,h3⟩:=ha;refine⟨F',⟨h1,fun x hx=>?_,h.bl.trans (mo h3 h.lo h.bl.size)⟩,h2⟩;rcases h2 x hx with h'|h';(. exact h.lo x h');. exact Nat.le_trans h.bl.size h'
theorem Cl.dev(h:Cl W w F p g st):∃S,Dev w S g st.m st.ls st.r st.s:=by obtain⟨S,fb,mp,ch,cb,qk,h1,_⟩:=h.cw;exact⟨S,h1.dv⟩
def Did(W w w':World)(F:List Nat)(p g:Nat)(z:Int)(st':St)(e:Ending):Prop:=e=.returned z/\(∃F',Cl W w' F' p g st'/\zC w F F')/\Flow.Into F w w'
theorem Did.of{z:Int}{e:Ending}(h:Cl W w F p g st)(hd:e=.returned z/\Aft w w' F p g st'):Did W w w' F p g z st' e:=⟨hd.1,h.aft hd.2,hd.2.2⟩
theorem Tv(h:Cl W w F p g st)(hK:Sm st 1000000)(b:Nat):Calls Tryz.prog 37 #[p,.int .u32 (b:Int)] w fun e w'=>Did W w w' F p g (rC st b).1 (rC st b).2 e:=(Tm h.cw hK b).mono fun _ _ hd=>Did.of h hd
theorem Oj(h:Cl W w F p g st)(hK:Sm st 1000000)(b:Nat):Calls Tryz.prog 85 #[p,.int .u32 (b:Int)] w fun e w'=>Did W w w' F p g (fB st b).1 (fB st b).2 e:=(Oe h.cw hK b).mono fun _ _ hd=>Did.of h hd
theorem Ol(h:Cl W w F p g st)(hK:Sm st 1000000){b:Nat}(hb:b<4294967296):Calls Tryz.prog 39 #[p,.int .u32 (b:Int)] w fun e w'=>Did W w w' F p g (eu st b).1 (eu st b).2 e:=(Om h.cw hK hb).mono fun _ _ hd=>Did.of h hd
theorem Oo(h:Cl W w F p g st){b:Nat}(hb:b<4294967296){A:Option Addr}{n c:Nat}{y:List UInt8}(hA:BL w A y)(hn:y.length=n):Calls Tryz.prog 84 #[p,.int .u32 (b:Int),.slice A n c] w fun e w'=>Did W w w' F p g (eB st b y).1 (eB st b y).2 e:=by subst hn;exact(Oq h.cw hb hA).mono fun _ _ hd=>Did.of h hd
end
end Ca
namespace Ca
open Mem Dv Cn Po
def upF{α:Type}(P:Nat->α)(b:Nat)(x:α):Nat->α:=fun i=>if i=b then x else P i
def Few(P:Nat->Nat):Prop:=∃k1 k2,∀b,P b≠0->b=k1\/b=k2
structure Us(st:St)(N M n:Nat)(P:Nat->Nat)(f:Nat->List UInt8)(K:Nat):Prop where
 good:Good st
 sm:Sm st K
 fr:st.fr.length=N
 m:st.m=M
 len:st.ls.length=n
 pins:∀b,bH st b=P b
 cur:∀i,cur st i=f i
section
variable{st:St}{N M n K b:Nat}{P:Nat->Nat}{f:Nat->List UInt8}{y:List UInt8}
theorem Us.mono{K':Nat}(h:Us st N M n P f K)(hK:K<=K'):Us st N M n P f K':=⟨h.good,h.sm.mono hK,h.fr,h.m,h.len,h.pins,h.cur⟩
theorem Us.room(h:Us st N M n P f K)(h3:3<=N)(hf:Few P):∃a t,gq st=some (a,t):=by obtain⟨k1,k2,hk⟩:=hf;exact IC h.good (by rw[h.fr];exact h3) (k1:=k1) (k2:=k2) (fun b hb=>hk b (by rw[<-h.pins];exact hb))
theorem Us.pin(h:Us st N M n P f K)(h3:3<=N)(hf:Few P)(hb:b<n):(rC st b).1=0/\Us (rC st b).2 N M n (upF P b (P b+1)) f (K+2)/\lN st (rC st b).2 1 1:=by obtain⟨h1,h2⟩:=Oi h.good (b:=b) (by rw[h.len];exact hb) (h.room h3 hf);have hc:=Gu st b;exact⟨h1,⟨h.good.pin b,h.sm.pin b,hc.fl.trans h.fr,hc.m.trans h.m,hc.ll.trans h.len,fun x=>by rw[h2 x,h.pins,h.pins];rfl,fun i=>by rw[Kg h.good,h.cur]⟩,hc⟩
theorem IK(h0:bH st b≠0)(hb:b<st.ls.length):lN st (rC st b).2 0 0:=by obtain⟨j,f,hl,-⟩:=jq h0;unfold rC;rw[if_pos hb,hl];exact⟨Nat.le_refl _,Nat.le_refl _,Nat.le_refl _,Nat.le_refl _,by simp[gI],rfl,rfl⟩
theorem Us.fresh(h:Us st N M n P f K)(h3:3<=N)(hf:Few P)(hb:b<n)(h0:P b=0):(fB st b).1=0/\Us (fB st b).2 N M n (upF P b 1) (upF f b (List.replicate M 0)) (K+2)/\lN st (fB st b).2 0 1:=by obtain⟨h1,h2⟩:=IE h.good (b:=b) (by rw[h.len];exact hb) (by rw[h.pins];exact h0) (h.room h3 hf);have hc:=Aw st b;refine⟨h1,⟨h.good.fresh b,h.sm.fresh b,hc.fl.trans h.fr,hc.m.trans h.m,hc.ll.trans h.len,fun x=>by rw[h2 x,h.pins];rfl,fun i=>?_⟩,hc⟩;rw[Cx h.good,h.cur,h.m];unfold upF;by_cases e:i=b;(. rw[if_pos ⟨h1,e⟩,if_pos e]);. rw[if_neg (fun hh=>e hh.2),if_neg e]
theorem Us.xI(h:Us st N M n P f K)(h0:P b≠0):(eu st b).1=0/\Us (eu st b).2 N M n (upF P b (P b-1)) f K/\lN st (eu st b).2 0 0:=by obtain⟨h1,h2⟩:=IG h.good (b:=b) (by rw[h.pins];exact h0);have hc:=Ay st b;exact⟨h1,⟨h.good.xI b,h.sm.xI b,hc.fl.trans h.fr,hc.m.trans h.m,hc.ll.trans h.len,fun x=>by rw[h2 x,h.pins,h.pins];rfl,fun i=>by rw[Cy h.good,h.cur]⟩,hc⟩
theorem Us.write(h:Us st N M n P f K)(h0:P b≠0)(hy:y.length=M):(eB st b y).1=0/\Us (eB st b y).2 N M n P (upF f b y) K/\lN st (eB st b y).2 0 0:=by obtain⟨h1,h2⟩:=II h.good (b:=b) (y:=y) (by rw[h.pins];exact h0) (by rw[h.m];exact hy);have hc:=Az st b y;refine⟨h1,⟨h.good.write b y,h.sm.write b y,hc.fl.trans h.fr,hc.m.trans h.m,hc.ll.trans h.len,fun x=>by rw[h2 x,h.pins],fun i=>?_⟩,hc⟩;rw[Cz h.good,h.cur];unfold upF;by_cases e:i=b;(. rw[if_pos ⟨h1,e⟩,if_pos e]);. rw[if_neg (fun hh=>e hh.2),if_neg e]
end
def Used(W w w':World)(F:List Nat)(p g:Nat)(st':St):Prop:=(∃F',Cl W w' F' p g st'/\zC w F F')/\Flow.Into F w w'
section
variable{W w:World}{F:List Nat}{p g:Nat}{st:St}{N M n K b:Nat}{P:Nat->Nat}{f:Nat->List UInt8}
theorem Tw(h:Cl W w F p g st)(u:Us st N M n P f K)(hK:K<=1000000)(h3:3<=N)(hf:Few P)(hb:b<n):Calls Tryz.prog 37 #[p,.int .u32 (b:Int)] w fun e w'=>e=.returned (0:Int)/\∃st',Used W w w' F p g st'/\Us st' N M n (upF P b (P b+1)) f (K+2)/\lN st st' 1 1/\(P b≠0->lN st st' 0 0):=by obtain⟨h1,h2,hc⟩:=u.pin h3 hf hb;refine(Tv h (u.sm.mono hK) b).mono ?_;rintro e w' ⟨he,h4,h5⟩;rw[h1]at he;exact⟨he,_,⟨h4,h5⟩,h2,hc,fun h0=>IK (by rw[u.pins];exact h0) (by rw[u.len];exact hb)⟩
theorem Ot(h:Cl W w F p g st)(u:Us st N M n P f K)(hK:K<=1000000)(h3:3<=N)(hf:Few P)(hb:b<n)(h0:P b=0):Calls Tryz.prog 85 #[p,.int .u32 (b:Int)] w fun e w'=>e=.returned (0:Int)/\∃st',Used W w w' F p g st'/\Us st' N M n (upF P b 1) (upF f b (List.replicate M 0)) (K+2)/\lN st st' 0 1:=by obtain⟨h1,h2,hc⟩:=u.fresh h3 hf hb h0;refine(Oj h (u.sm.mono hK) b).mono ?_;rintro e w' ⟨he,h4,h5⟩;rw[h1]at he;exact⟨he,_,⟨h4,h5⟩,h2,hc⟩
theorem Ou(h:Cl W w F p g st)(u:Us st N M n P f K)(hK:K<=1000000)(hb:b<4294967296)(h0:P b≠0):Calls Tryz.prog 39 #[p,.int .u32 (b:Int)] w fun e w'=>e=.returned (0:Int)/\∃st',Used W w w' F p g st'/\Us st' N M n (upF P b (P b-1)) f K/\lN st st' 0 0:=by obtain⟨h1,h2,hc⟩:=u.xI h0;refine(Ol h (u.sm.mono hK) hb).mono ?_;rintro e w' ⟨he,h4,h5⟩;rw[h1]at he;exact⟨he,_,⟨h4,h5⟩,h2,hc⟩
theorem Ov(h:Cl W w F p g st)(u:Us st N M n P f K)(hb:b<4294967296)(h0:P b≠0){A:Option Addr}{m c:Nat}{y:List UInt8}(hA:BL w A y)(hm:y.length=m)(hy:y.length=M):Calls Tryz.prog 84 #[p,.int .u32 (b:Int),.slice A m c] w fun e w'=>e=.returned (0:Int)/\∃st',Used W w w' F p g st'/\Us st' N M n P (upF f b y) K/\lN st st' 0 0:=by obtain⟨h1,h2,hc⟩:=u.write h0 hy;refine(Oo h hb hA hm).mono ?_;rintro e w' ⟨he,h4,h5⟩;rw[h1]at he;exact⟨he,_,⟨h4,h5⟩,h2,hc⟩
theorem QB(h:Cl W w F p g st)(u:Us st N M n P f K)(hb:b<4294967296)(h0:P b≠0):Calls Tryz.prog 38 #[p,.int .u32 (b:Int)] w fun e w'=>(∃A k,e=.returned (.tuple #[.slice A (f b).length k,(0:Int)])/\BL w' A (f b)/\∀a,A=some a->w.heap.size<=a.block)/\Bw w w':=by
 obtain⟨j,x,hl,hn⟩:=jq (st:=st) (b:=b) (by rw[u.pins];exact h0);have hm:=(h.cw.good.blk _ _ (aL hl).1).2;have hf:f b=x.2.1:=by rw[<-u.cur,yY hl]
 rw[hf,hm];exact IL h.cw hb hl (by omega)
end
end Ca
namespace Ca
open Mem Dv Cn Po
section
variable{W w:World}{F:List Nat}{p g:Nat}{st:St}
theorem Cw.far{w w':World}{F T:List Nat}{p g:Nat}{st:St}(h:Cw w F p g st)(hi:Flow.Into T w w')(hn:∀x,x∈F->x∉T):Cw w' F p g st:=by obtain⟨S,f,mp,ch,cb,qk,h1,h2,h3,h4,h5,h6⟩:=h;have hb:∀x,x∈F->w'.heap[x]? =w.heap[x]? :=fun x hx=>hi.block x (h6 x hx) (hn x hx);refine⟨S,f,mp,ch,cb,qk,⟨(hb p (h3 p (by simp))).trans h1.hd,h1.fw.keep (hb f (h3 f (by simp))),fun j x hx=>(hb _ (h4 j x hx)).trans (h1.by_ j x hx),h1.mc.keep (hb mp (h3 mp (by simp))),h1.cn.into hi (hn ch (h3 ch (by simp))) (hn cb (h3 cb (by simp))),h1.dv.into hi fun x hx=>hn x (h2 x hx),h1.nd,h1.out,h1.q1,h1.q2⟩,h2,h3,h4,h5,fun x hx=>Nat.lt_of_lt_of_le (h6 x hx) hi.size⟩
end
end Ca
namespace Sh
open Mem No Bt Po
open Ca (St Us upF Few lN)
structure Ad where
 p:Nat
 g:Nat
 k:Nat
 q:Nat
 r:Nat
 b:Nat
def MO(c:Cfg)(z:Ad)(kp:Nat):Array Value:= #[.int .i64 c.blocks,.int .i64 c.bytes,.int .i64 c.frames,.int .i64 c.fan,.int .i64 c.buffer,.int .i64 c.leaf,.int .i64 c.key,.int .i64 c.val,.pointer (some ⟨z.g,0,none⟩),.pointer (some ⟨z.k,0,none⟩),.pointer (some ⟨z.q,0,none⟩),.int .u32 (kp:Int)]
structure Sf(W w:World)(F:List Nat)(z:Ad)(c:Cfg)(tb:List Bool)(kp:Nat)(st:St):Prop where
 bx:aH 89 w z.p (MO c z kp)
 cl:Ca.Cl W w F z.k z.g st
 pw:Pw W w z.q z.r z.b tb
 lo:W.heap.size<=z.p
 pb:z.p≠z.b
 ap:∀x,x∈F->x≠z.p/\x≠z.q/\x≠z.r/\x≠z.b
structure Mv(z:Ad)(w w':World)(F F':List Nat):Prop where
 gr:Dv.zC w F F'
 io:Flow.Into (z.p::z.b::F) w w'
section
variable{W w w' w2:World}{F F' F2:List Nat}{z:Ad}{c:Cfg}{tb tb':List Bool}{kp:Nat}{st st':St}
theorem Mv.below(z:Ad)(F:List Nat)(hb:Bw w w'):Mv z w w' F F:=⟨fun _ h=> .inl h,Flow.Into.of_below hb⟩
theorem Mv.trans(h:Mv z w w' F F')(h2:Mv z w' w2 F' F2):Mv z w w2 F F2:=by have h1:=h.io;have h3:=h2.io;refine⟨fun x hx=>?_,⟨h3.os.trans h1.os,h3.tape.trans h1.tape,h3.output.trans h1.output,Nat.le_trans h1.size h3.size,fun k hk hn=>(h3.block k (Nat.lt_of_lt_of_le hk h1.size) fun hh=>hn ?_).trans (h1.block k hk hn)⟩⟩;(. rcases h2.gr x hx with h4|h4;(. exact h.gr x h4);. exact .inr (Nat.le_trans h1.size h4));. simp only[List.mem_cons]at hh ⊢;rcases hh with hh|hh|hh;(. exact .inl hh);(. exact .inr (.inl hh));. rcases h.gr k hh with h4|h4;(. exact .inr (.inr h4));. omega
theorem JZ(h:Pw W w z.q z.r z.b tb)(hT:Tab W)(hi:Flow.Into F w w')(hn:∀x,x∈F->x≠z.p/\x≠z.q/\x≠z.r/\x≠z.b)(hF:∀x,x∈F->W.heap.size<=x):Pw W w' z.q z.r z.b tb:=by have h1:=nL h.rw.bel hi hF h.rw.bel.size;exact⟨(hi.block _ h.lt fun hx=>(hn _ hx).2.1 rfl).trans h.hd,⟨h.rw.row.into hi (fun hx=>(hn _ hx).2.2.1 rfl) (fun hx=>(hn _ hx).2.2.2 rfl),hT.below h1,h1,h.rw.hg,h.rw.hb⟩,h.hq⟩
theorem Sf.kept(h:Sf W w F z c tb kp st)(hT:Tab W)(hb:Bw w w'):Sf W w' F z c tb kp st:=⟨h.bx.kept hb,h.cl.kept hb,h.pw.kept hT hb,h.lo,h.pb,h.ap⟩
theorem Sf.below(h:Sf W w F z c tb kp st):Bw W w:=h.cl.bl
theorem Sf.used(h:Sf W w F z c tb kp st)(hT:Tab W)(hu:Ca.Used W w w' F z.k z.g st'):∃F',Sf W w' F' z c tb kp st'/\Mv z w w' F F':=by obtain⟨⟨F',h1,h2⟩,h3⟩:=hu;have hl:=h.pw.lts;have hp:=h.bx.lt;refine⟨F',⟨(h3.block _ hp fun hx=>(h.ap _ hx).1 rfl).trans h.bx,h1,JZ h.pw hT h3 h.ap h.cl.lo,h.lo,h.pb,fun x hx=>?_⟩,h2,h3.mono fun k hk=>List.mem_cons_of_mem _ (List.mem_cons_of_mem _ hk)⟩;rcases h2 x hx with h4|h4;(. exact h.ap x h4);. omega
theorem Sf.pool(h:Sf W w F z c tb kp st)(hp:Pw W w' z.q z.r z.b tb')(hi:Flow.Into [z.b] w w'):Sf W w' F z c tb' kp st/\Mv z w w' F F:=by
 refine⟨⟨(hi.block _ h.bx.lt (by simpa using h.pb)).trans h.bx,⟨h.cl.cw.far hi fun x hx=>by simpa using(h.ap x hx).2.2.2,h.cl.lo,hp.rw.bel⟩,hp,h.lo,h.pb,h.ap⟩,fun _ hx=> .inl hx,hi.mono fun k hk=>?_⟩;obtain rfl:k=z.b:=by simpa using hk
 simp
theorem Sf.far(h:Sf W w F z c tb kp st)(hT:Tab W){g:Nat}(hi:Flow.Into [g] w w')(hn:g∉z.p::z.q::z.r::z.b::F)(hg:W.heap.size<=g):Sf W w' F z c tb kp st:=by simp only[List.mem_cons,not_or]at hn;obtain⟨n1,n2,n3,n4,n5⟩:=hn;have hp:=h.pw.far hT hi ⟨fun e=>n2 e.symm,fun e=>n3 e.symm,fun e=>n4 e.symm⟩ hg;exact⟨(hi.block _ h.bx.lt (by simpa using fun e=>n1 e.symm)).trans h.bx,⟨h.cl.cw.far hi fun x hx hh=>n5 ((show x=g by simpa using hh)▸hx),h.cl.lo,hp.rw.bel⟩,hp,h.lo,h.pb,h.ap⟩
theorem Mv.off(h:Mv z w w' F F'){g:Nat}(hi:Flow.Into [g] w' w2)(hg:w.heap.size<=g):Mv z w w2 F F':=by have h1:=h.io;exact⟨h.gr,hi.os.trans h1.os,hi.tape.trans h1.tape,hi.output.trans h1.output,Nat.le_trans h1.size hi.size,fun k hk hn=>(hi.block k (Nat.lt_of_lt_of_le hk h1.size) (by simp only[List.mem_singleton];omega)).trans (h1.block k hk hn)⟩
theorem Mv.box(h:Mv z w w' F F'){U:TypeId}{g:Nat}{C:Array Value}(hx:aH U w g C)(hn:g∉z.p::z.q::z.r::z.b::F):aH U w' g C/\g∉z.p::z.q::z.r::z.b::F':=by simp only[List.mem_cons,not_or]at hn ⊢;obtain⟨n1,n2,n3,n4,n5⟩:=hn;refine⟨(h.io.block _ hx.lt (by simp only[List.mem_cons,not_or];exact⟨n1,n4,n5⟩)).trans hx,n1,n2,n3,n4,fun hh=>?_⟩;rcases h.gr _ hh with h4|h4;(. exact n5 h4);. have:=hx.lt;omega
theorem Sf.keep(h:Sf W w F z c tb kp st)(hT:Tab W)(i:Nat):Sf W (w.setCell ⟨z.p,11,none⟩ (.int .u32 (i:Int))) F z c tb i st/\Mv z w (w.setCell ⟨z.p,11,none⟩ (.int .u32 (i:Int))) F F:=by have hi:Flow.Into [z.p] w (w.setCell ⟨z.p,11,none⟩ (.int .u32 (i:Int))):=⟨rfl,rfl,rfl,by simp[World.setCell],fun k _ hk=>Below.heap_setCell _ _ _ _ (by simpa using hk)⟩;have hq:=h.pw.lts;have hx:=h.bx.set 11 (.int .u32 (i:Int));have hbn:=h.pb;(have hn:z.q≠z.p/\z.r≠z.p:=by refine⟨fun e=>?_,fun e=>?_⟩;(. have h1:=h.pw.hd;have h2:=h.bx;unfold aH at h2;rw[e,h2]at h1;simp only[Option.some.injEq,Obj.cells.injEq]at h1;exact absurd h1.2.1 (by decide));. obtain⟨_,_,h1⟩:=h.pw.rw.row;have h1:=h1.hd;have h2:=h.bx;unfold aH at h2;rw[e,h2]at h1;simp only[Option.some.injEq,Obj.cells.injEq]at h1;exact absurd h1.2.1 (by decide));(have hp:=h.pw.far hT hi ⟨hn.1,hn.2,fun e=>hbn e.symm⟩ h.lo;refine⟨⟨hx,⟨h.cl.cw.far hi fun x hx=>by simpa using(h.ap x hx).1,h.cl.lo,hp.rw.bel⟩,hp,h.lo,h.pb,h.ap⟩,fun _ hx=> .inl hx,hi.mono fun k hk=>?_⟩;obtain rfl:k=z.p:=by simpa using hk);simp
end
def kpF(kp:Nat):Nat->Nat:=fun b=>if b=kp/\0<kp then 1 else 0
theorem EX(kp:Nat):Few (kpF kp):=⟨kp,kp,fun b hb=>by unfold kpF at hb;split at hb;(. rename_i h;exact .inl h.1);. exact absurd rfl hb⟩
theorem LQ(P:Nat->Nat)(i:Nat):upF (upF P i (P i+1)) i (upF P i (P i+1) i-1)=P:=by funext b;unfold upF;by_cases e:b=i;(. subst e;simp);. simp[e]
theorem Ox(kp i:Nat)(hi:0<i)(hk:0<kp):upF (upF (kpF kp) i (kpF kp i+1)) kp (upF (kpF kp) i (kpF kp i+1) kp-1)=kpF i:=by funext b;unfold upF kpF;by_cases e:b=kp;(. subst e;by_cases e2:b=i;(. subst e2;simp[hi]);. simp[e2,hk]);. by_cases e2:b=i;(. subst e2;simp[e,hi]);. simp[e,e2]
theorem IQ(i:Nat)(hi:0<i):upF (kpF 0) i (kpF 0 i+1)=kpF i:=by funext b;unfold upF kpF;by_cases e:b=i;(. subst e;simp[hi]);. simp[e]
theorem LU(kp:Nat)(hk:0<kp):upF (kpF kp) kp (kpF kp kp-1)=kpF 0:=by funext b;unfold upF kpF;by_cases e:b=kp;(. subst e;simp[hk]);. simp[e]
theorem EY{kp i:Nat}(h:i≠kp):kpF kp i=0:=by unfold kpF;rw[if_neg (fun hh=>h hh.1)]
theorem uN{kp:Nat}(h:0<kp):kpF kp kp=1:=by unfold kpF;rw[if_pos ⟨rfl,h⟩]
theorem EZ{kp i:Nat}(hi:0<i):(if kpF kp i=0 then 1 else 0)=(if i=kp then 0 else 1):=by by_cases e:i=kp;(. subst e;rw[uN hi];simp);. rw[EY e];simp[e]
def thr(c:Cfg)(i:Nat):Prop:=0<i/\(i:Int)<c.blocks
instance(c:Cfg)(i:Nat):Decidable (thr c i):=inferInstanceAs (Decidable (_/\_))
def Okc(c:Cfg):Prop:=Cf.Right c.blocks c.bytes c.frames c.fan c.buffer c.leaf c.key c.val/\c.bytes<=3000/\c.blocks<=65536
structure Sv(W w:World)(F:List Nat)(z:Ad)(c:Cfg)(tb:List Bool)(kp:Nat)(P:Nat->Nat)(f:Nat->List UInt8)(K r s:Nat):Prop where
 ex:∃st,Sf W w F z c tb kp st/\Us st c.frames.toNat c.bytes.toNat c.blocks.toNat P f K/\st.r=r/\st.s=s
 len:(tb.length:Int)=c.blocks
 tb0:tb.getD 0 false=true
 kl:kp=0\/thr c kp
def Out(W w w':World)(F:List Nat)(z:Ad)(c:Cfg)(tb:List Bool)(kp:Nat)(P:Nat->Nat)(f:Nat->List UInt8)(K r s R S:Nat):Prop:=∃F' r' s',Sv W w' F' z c tb kp P f K r' s'/\Mv z w w' F F'/\(r<=r'/\r'<=r+R)/\s<=s'/\s'<=s+S
end Sh
namespace Sh
open Mem No Bt Po
open Ca (St Us upF Few lN)
section
variable{W w w' w2:World}{F F':List Nat}{z:Ad}{c:Cfg}{tb tb':List Bool}{kp:Nat}{P P':Nat->Nat}{f f':Nat->List UInt8}{K K' r r' s s' R S R' S':Nat}{st st':St}
theorem Sv.kept(h:Sv W w F z c tb kp P f K r s)(hT:Tab W)(hb:Bw w w'):Sv W w' F z c tb kp P f K r s:=by obtain⟨⟨st,h1,h2⟩,h3,h4,h5⟩:=h;exact⟨⟨st,h1.kept hT hb,h2⟩,h3,h4,h5⟩
theorem Sv.below(h:Sv W w F z c tb kp P f K r s):Bw W w:=by obtain⟨⟨st,h1,-⟩,-⟩:=h;exact h1.below
theorem Sv.lt(h:Sv W w F z c tb kp P f K r s):∀x,x∈z.p::z.q::z.r::z.b::F->x<w.heap.size:=by
 obtain⟨⟨st,h1,-⟩,-⟩:=h;obtain⟨h2,h3,h4,-⟩:=h1.pw.lts;intro x hx;simp only[List.mem_cons]at hx;rcases hx with rfl|rfl|rfl|rfl|hx
 . exact h1.bx.lt
 . exact h2
 . exact h3
 . exact h4
 . exact h1.cl.cw.lt x hx
theorem Sv.new(h:Sv W w F z c tb kp P f K r s):w.heap.size∉z.p::z.q::z.r::z.b::F:=fun hx=>absurd (h.lt _ hx) (by omega)
theorem Sv.far(h:Sv W w F z c tb kp P f K r s)(hT:Tab W){g:Nat}(hi:Flow.Into [g] w w')(hn:g∉z.p::z.q::z.r::z.b::F)(hg:W.heap.size<=g):Sv W w' F z c tb kp P f K r s:=by obtain⟨⟨st,h1,h2⟩,h3,h4,h5⟩:=h;exact⟨⟨st,h1.far hT hi hn hg,h2⟩,h3,h4,h5⟩
theorem Sv.box(h:Sv W w F z c tb kp P f K r s):aH 89 w z.p (MO c z kp):=by obtain⟨⟨st,h1,-⟩,-⟩:=h;exact h1.bx
theorem Sv.mono(h:Sv W w F z c tb kp P f K r s)(hK:K<=K'):Sv W w F z c tb kp P f K' r s:=by obtain⟨⟨st,h1,h2,h6⟩,h3,h4,h5⟩:=h;exact⟨⟨st,h1,h2.mono hK,h6⟩,h3,h4,h5⟩
theorem Sv.cells(h:Sv W w F z c tb kp P f K r s):w.cell? ⟨z.p,0,none⟩=some (.int .i64 c.blocks)/\w.cell? ⟨z.p,1,none⟩=some (.int .i64 c.bytes)/\w.cell? ⟨z.p,2,none⟩=some (.int .i64 c.frames)/\w.cell? ⟨z.p,3,none⟩=some (.int .i64 c.fan)/\w.cell? ⟨z.p,4,none⟩=some (.int .i64 c.buffer)/\w.cell? ⟨z.p,5,none⟩=some (.int .i64 c.leaf)/\w.cell? ⟨z.p,6,none⟩=some (.int .i64 c.key)/\w.cell? ⟨z.p,7,none⟩=some (.int .i64 c.val)/\w.cell? ⟨z.p,8,none⟩=some (.pointer (some ⟨z.g,0,none⟩))/\w.cell? ⟨z.p,9,none⟩=some (.pointer (some ⟨z.k,0,none⟩))/\w.cell? ⟨z.p,10,none⟩=some (.pointer (some ⟨z.q,0,none⟩))/\w.cell? ⟨z.p,11,none⟩=some (.int .u32 (kp:Int))/\w.frozen? ⟨z.p,11,none⟩=false:=by obtain⟨⟨st,h1,-⟩,-⟩:=h;have hx:=h1.bx;exact⟨hx.cell rfl,hx.cell rfl,hx.cell rfl,hx.cell rfl,hx.cell rfl,hx.cell rfl,hx.cell rfl,hx.cell rfl,hx.cell rfl,hx.cell rfl,hx.cell rfl,hx.cell rfl,hx.free 11⟩
theorem Okc.nat(h:Okc c):(c.blocks.toNat:Int)=c.blocks/\(c.bytes.toNat:Int)=c.bytes/\3<=c.frames.toNat/\5<=c.blocks/\c.blocks<=65536/\64<=c.bytes/\c.bytes<=3000/\(c.frames.toNat:Int)=c.frames/\8<=c.frames/\c.frames<=64:=by obtain⟨⟨-,h1,h2,h3⟩,h4,h5⟩:=h;(have h6:64<=Cf.few c.fan c.buffer c.leaf c.key c.val:=by unfold Cf.few;omega);omega
theorem Out.same(h:Sv W w F z c tb kp P f K r s)(hT:Tab W)(hb:Bw w w')(R S:Nat):Out W w w' F z c tb kp P f K r s R S:=⟨F,r,s,h.kept hT hb,Mv.below z F hb,⟨Nat.le_refl _,Nat.le_add_right _ _⟩,Nat.le_refl _,Nat.le_add_right _ _⟩
theorem Out.mono(h:Out W w w' F z c tb kp P f K r s R S)(hR:R<=R')(hS:S<=S'):Out W w w' F z c tb kp P f K r s R' S':=by obtain⟨F',r',s',h1,h2,h3,h4⟩:=h;exact⟨F',r',s',h1,h2,by omega,by omega⟩
theorem Out.then(h1:Mv z w w' F F')(hr:r<=r'/\r'<=r+R)(hs:s<=s'/\s'<=s+S)(h:Out W w' w2 F' z c tb kp P f K r' s' R' S'):Out W w w2 F z c tb kp P f K r s (R+R') (S+S'):=by obtain⟨F2,r2,s2,h3,h4,h5,h6⟩:=h;exact⟨F2,r2,s2,h3,h1.trans h4,by omega,by omega⟩
theorem Out.call(h1:Sf W w F z c tb kp st)(hl:(tb.length:Int)=c.blocks)(h0:tb.getD 0 false=true)(hk:kp=0\/thr c kp)(hT:Tab W)(hu:Ca.Used W w w' F z.k z.g st')(h6:Us st' c.frames.toNat c.bytes.toNat c.blocks.toNat P f K)(hc:lN st st' R S):Out W w w' F z c tb kp P f K st.r st.s R S:=by obtain⟨F',h7,h8⟩:=h1.used hT hu;exact⟨F',st'.r,st'.s,⟨⟨st',h7,h6,rfl,rfl⟩,hl,h0,hk⟩,h8,⟨hc.r1,hc.r2⟩,hc.s1,hc.s2⟩
variable{b:Nat}
theorem RI(h:Sv W w F z c tb kp P f K r s)(hc:Okc c)(hT:Tab W)(hK:K<=1000000)(hf:Few P)(hb:(b:Int)<c.blocks):Calls Tryz.prog 37 #[z.k,.int .u32 (b:Int)] w fun e w'=>e=.returned (0:Int)/\Out W w w' F z c tb kp (upF P b (P b+1)) f (K+2) r s (if P b=0 then 1 else 0) (if P b=0 then 1 else 0):=by obtain⟨⟨st,h1,h2,rfl,rfl⟩,h3,h4,h5⟩:=h;have hn:=hc.nat;refine(Ca.Tw h1.cl h2 hK (by omega) hf (b:=b) (by omega)).mono ?_;rintro e w' ⟨he,st',hu,h6,hct,hfr⟩;refine⟨he,?_⟩;by_cases e0:P b=0;(. rw[if_pos e0];exact Out.call h1 h3 h4 h5 hT hu h6 hct);. rw[if_neg e0];exact Out.call h1 h3 h4 h5 hT hu h6 (hfr e0)
theorem Oy(h:Sv W w F z c tb kp P f K r s)(hc:Okc c)(hT:Tab W)(hK:K<=1000000)(hf:Few P)(hb:(b:Int)<c.blocks)(h0:P b=0):Calls Tryz.prog 85 #[z.k,.int .u32 (b:Int)] w fun e w'=>e=.returned (0:Int)/\Out W w w' F z c tb kp (upF P b 1) (upF f b (List.replicate c.bytes.toNat 0)) (K+2) r s 0 1:=by obtain⟨⟨st,h1,h2,rfl,rfl⟩,h3,h4,h5⟩:=h;have hn:=hc.nat;refine(Ca.Ot h1.cl h2 hK (by omega) hf (b:=b) (by omega) h0).mono ?_;rintro e w' ⟨he,st',hu,h6,hct⟩;exact⟨he,Out.call h1 h3 h4 h5 hT hu h6 hct⟩
theorem E5(h:Sv W w F z c tb kp P f K r s)(hT:Tab W)(hK:K<=1000000)(hb:b<4294967296)(h0:P b≠0):Calls Tryz.prog 39 #[z.k,.int .u32 (b:Int)] w fun e w'=>e=.returned (0:Int)/\Out W w w' F z c tb kp (upF P b (P b-1)) f K r s 0 0:=by obtain⟨⟨st,h1,h2,rfl,rfl⟩,h3,h4,h5⟩:=h;refine(Ca.Ou h1.cl h2 hK hb h0).mono ?_;rintro e w' ⟨he,st',hu,h6,hct⟩;exact⟨he,Out.call h1 h3 h4 h5 hT hu h6 hct⟩
theorem J2(h:Sv W w F z c tb kp P f K r s)(hc:Okc c)(hT:Tab W)(hb:b<4294967296)(h0:P b≠0){A:Option Addr}{m cap:Nat}{y:List UInt8}(hA:BL w A y)(hm:y.length=m)(hy:(y.length:Int)=c.bytes):Calls Tryz.prog 84 #[z.k,.int .u32 (b:Int),.slice A m cap] w fun e w'=>e=.returned (0:Int)/\Out W w w' F z c tb kp P (upF f b y) K r s 0 0:=by obtain⟨⟨st,h1,h2,rfl,rfl⟩,h3,h4,h5⟩:=h;have hn:=hc.nat;refine(Ca.Ov h1.cl h2 hb h0 hA hm (by omega)).mono ?_;rintro e w' ⟨he,st',hu,h6,hct⟩;exact⟨he,Out.call h1 h3 h4 h5 hT hu h6 hct⟩
theorem QC(h:Sv W w F z c tb kp P f K r s)(hb:b<4294967296)(h0:P b≠0):Calls Tryz.prog 38 #[z.k,.int .u32 (b:Int)] w fun e w'=>(∃A k,e=.returned (.tuple #[.slice A (f b).length k,(0:Int)])/\BL w' A (f b)/\∀a,A=some a->w.heap.size<=a.block)/\Bw w w':=by obtain⟨⟨st,h1,h2,rfl,rfl⟩,h3,h4,h5⟩:=h;exact Ca.QB h1.cl h2 hb h0
theorem Sv.many(h:Sv W w F z c tb kp P f K r s)(hc:Okc c){i:Nat}(hi:(i:Int)<c.blocks):((f i).length:Int)=c.bytes:=by obtain⟨⟨st,h1,h2,-⟩,-⟩:=h;have hn:=hc.nat;have h9:=Ca.Kj h2.good (i:=i) (by rw[h2.len];omega);rw[h2.cur,h2.m]at h9;omega
theorem Sv.dev(h:Sv W w F z c tb kp P f K r s):∃S ls,Dv.Dev w S z.g c.bytes.toNat ls r s/\ls.length=c.blocks.toNat:=by obtain⟨⟨st,h1,h2,rfl,rfl⟩,-⟩:=h;obtain⟨S,hd⟩:=h1.cl.dev;rw[h2.m]at hd;exact⟨S,_,hd,h2.len⟩
theorem Sv.pool(h:Sv W w F z c tb kp P f K r s)(hp:Pw W w' z.q z.r z.b tb')(hi:Flow.Into [z.b] w w')(hl:tb'.length=tb.length)(h0:tb'.getD 0 false=true):Out W w w' F z c tb' kp P f K r s 0 0:=by obtain⟨⟨st,h1,h2⟩,h3,h4,h5⟩:=h;obtain⟨h7,h8⟩:=h1.pool hp hi;exact⟨F,r,s,⟨⟨st,h7,h2⟩,by rw[hl];exact h3,h0,h5⟩,h8,⟨Nat.le_refl _,Nat.le_refl _⟩,Nat.le_refl _,Nat.le_refl _⟩
theorem Sv.pw(h:Sv W w F z c tb kp P f K r s):Pw W w z.q z.r z.b tb:=by obtain⟨⟨st,h1,-⟩,-⟩:=h;exact h1.pw
theorem E8{t:List Bool}{j:Nat}(hg:Got tb 1 t [j])(h:tb.getD 0 false=true):t.length=tb.length/\t.getD 0 false=true/\0<j:=by refine⟨hg.len.1,?_,?_⟩;(. obtain⟨p,h1,rfl,-,-⟩:=hg;clear h1;induction p with|zero=>exact h|succ p ih=>show((fill tb p).set p true).getD 0 false=true;by_cases hp:p<tb.length;(. rw[iA _ _ _ _ _ (by rw[dX];exact hp)];split;(. rfl);. exact ih);. rw[List.set_eq_of_length_le (by rw[dX];omega)];exact ih);. (have hm:∀p,∀x,x∈frs tb p->0<x:=fun p=>by induction p with|zero=>exact fun x hx=>by cases hx|succ p ih=>intro x hx;unfold frs at hx;rcases List.mem_append.1 hx with hx|hx;(. exact ih x hx);. split at hx;(. cases hx);. rename_i hv;obtain rfl:x=p:=(by simpa using hx);rcases Nat.eq_zero_or_pos x with e|e;(. subst e;exact absurd h hv);. exact e);obtain⟨p,-,-,h2,-⟩:=hg;exact hm p j (by rw[<-h2];simp)
end
end Sh
end Go.Proofs.YtmcbidhpkpmalaaGreatDoor
namespace Go.Proofs.YtmcbidhpkpmalaaGreatDoor
open Go.RowKit
open Go.Lib (hid)
namespace Sh
open Mem No Bt Po
open Ca (upF)
section
variable{W w:World}{F:List Nat}{z:Ad}{c:Cfg}{tb:List Bool}{kp:Nat}{P:Nat->Nat}{f:Nat->List UInt8}{K r s:Nat}
theorem Tx:Tryz.prog.underlying 63=some (.struct (Tryz.prog.fieldsOf 63)):=by kernel_rfl
theorem RJ{v u:Value}:(Tryz.prog.info? 63).map (·.size)=some (#[v,u]:Array Value).size:=by kernel_rfl
theorem o9(h:Sv W w F z c tb kp P f K r s):CW 48 #[z.p] w (.bool true):=by obtain⟨-,-,-,-,-,-,-,-,c8,-⟩:=h.cells;clear h;go_enter Tryz.func48,Tryz.ntmps48;go_wp2;go_ret;exact⟨rfl,rfl⟩
theorem E9(h:Sv W w F z c tb kp P f K r s)(hc:Okc c)(i:Nat):CW 36 #[z.p,.int .u32 (i:Int)] w (.int .i64 (if thr c i then 0 else 4)):=by (have cM:=hid (o9 h);obtain⟨c0,-⟩:=h.cells;obtain⟨-,-,-,n1,n2,-⟩:=hc.nat;have hwr:IntKind.u32.wrap c.blocks=c.blocks:=by rw[IntKind.wrap_u32];omega);clear h hc;by_cases ht:thr c i;(. rw[if_pos ht];have hz:((i:Int)==0)=false:=(by have:=ht.1;simp;omega);have hd:decide (c.blocks<=(i:Int))=false:=(by have:=ht.2;simp;omega);clear ht;go_enter Tryz.func36,Tryz.ntmps36;go_wp2_with (go_at_call 48;refine cM.mono ?_;rintro e w' ⟨rfl,rfl⟩);go_ret;exact⟨rfl,rfl⟩);. rw[if_neg ht];unfold thr at ht;by_cases h0:i=0;(. subst h0;go_enter Tryz.func36,Tryz.ntmps36;go_wp2_with (go_at_call 48;refine cM.mono ?_;rintro e w' ⟨rfl,rfl⟩);go_ret;exact⟨rfl,rfl⟩);. (have hz:((i:Int)==0)=false:=by simp;omega);have hd:decide (c.blocks<=(i:Int))=true:=(by simp;omega);clear ht h0;go_enter Tryz.func36,Tryz.ntmps36;go_wp2_with (go_at_call 48;refine cM.mono ?_;rintro e w' ⟨rfl,rfl⟩);go_ret;exact⟨rfl,rfl⟩
theorem Gm:Tryz.prog.underlying 23=some (.struct (Tryz.prog.fieldsOf 23)):=by kernel_rfl
theorem Gn{C:Array Value}(h:C.size=8):(Tryz.prog.info? 23).map (·.size)=some C.size:=by rw[h];kernel_rfl
theorem Oz(c:Cfg)(z:Ad)(kp:Nat):((MO c z kp).toList.take (bC c).size).toArray=bC c:=rfl
theorem Fb(h:Sv W w F z c tb kp P f K r s)(hT:Tab W):CB 21 #[z.p] w (.agg #[.int .u64 (r:Int),.int .u64 (s:Int)]):=by have hb1:Bw w (w.alloc (.cells #[.int .u64 0,.int .u64 0] 63)):=bAx;have hx:=aH.new 63 w #[.int .u64 0,.int .u64 0];have h1:=h.kept hT hb1;have cM:=hid (o9 h1);obtain⟨S,ls,hd,-⟩:=h1.dev;have cS:=hid (Dv.DW hd);obtain⟨-,-,-,-,-,-,-,-,c8,-⟩:=h1.cells;clear h hd;go_enter Tryz.func21,Tryz.ntmps21;go_upto_region 1 with fail;generalize w.alloc (.cells #[.int .u64 0,.int .u64 0] 63)=w1 at*;obtain⟨g,hg⟩:=eX w.heap.size;rw[<-hg]at hx;simp only[<-hg];have HX:=hid hx;have HB:=hid (And.intro hg hb1);clear hx hg hb1 h1;go_wp2_with (first|(go_at_call 48;refine cM.mono ?_;rintro e w' ⟨rfl,rfl⟩)|(go_at_call 49;refine cS.mono ?_;rintro e w2 ⟨rfl,hb⟩;replace HX:=hid (HX.kept hb);have HB2:=hid hb;clear hb c8)|(refine bf rfl (.tmp 2) (.tmp 11) 63 rfl rfl g #[.int .u64 0,.int .u64 0] #[.int .u64 (r:Int),.int .u64 (s:Int)] RJ rfl (by simp[Value.oneCell']) rfl rfl HX.out ?_;intro w3 HZ hi;have HI:=hid hi;clear hi));have hl:=gW (P:=Tryz.prog) Tx RJ HZ.out;refine bodyPost_ret (v:= .agg #[.int .u64 (r:Int),.int .u64 (s:Int)]) (by simp[results,Tryz.results21,asAddr,hl]) rfl ⟨rfl,?_⟩;obtain⟨hg,hb⟩:=HB.out;have hi:=HI.out;have hb2:=hb.trans (HB2.mono hb.size);exact hb2.trans ⟨hi.os,hi.tape,hi.output,hi.size,fun k hk=>hi.block k (Nat.lt_of_lt_of_le hk hb2.size) (by simp only[List.mem_singleton];omega)⟩
end
end Sh
end Go.Proofs.YtmcbidhpkpmalaaGreatDoor
