import Derived.Test.YtjpjjnalpdpljaaGreatDoorPkAH
import Derived.Test.YtjpjjnalpdpljaaGreatDoorPqPdqQ
import Derived.Test.YtjpjjnalpdpljaaGreatDoorPkAI
import Derived.Test.YtjpjjnalpdpljaaGreatDoorPkAJ
import Derived.Test.YtjpjjnalpdpljaaGreatDoorPqCacheAct3
import Derived.Test.YtjpjjnalpdpljaaGreatDoorPkAA
import Derived.Carry
set_option maxHeartbeats 4000000
set_option maxRecDepth 100000
namespace Go.Proofs.YtjpjjnalpdpljaaGreatDoor
open Go.RowKit
open Go.Lib (hid)
open IntKind (wrap_i64)
namespace Pq
open Mem Hp
structure PQ (w wr:World) (g c n:Nat) (l L:List Nat) (a0 b0 a b:Nat):Prop where
 us:US w wr g c n l L a0 b0
 re:Rest L a0 b0 a b
 bl:Blw L a b
 a0a:a0<=a
 ab:a<=b
 bb0:b<=b0
 b0n:b0<=n
section
variable {w wr w':World} {g c n a0 b0 a b:Nat} {l L L2:List Nat}
theorem PQ.moved (h:PQ w wr g c n l L a0 b0 a b) (k:US wr w' g c n L L2 a b):PQ w w' g c n l L2 a0 b0 a b:=by
 have hb:b<=L.length:=by rw [h.us.len];exact Nat.le_trans h.bb0 h.b0n
 exact ⟨h.us.then_ (k.wide h.a0a h.bb0),h.re.moved k.mv hb h.a0a h.bb0,h.bl.moved k.mv hb,h.a0a,h.ab,h.bb0,h.b0n⟩
theorem PQ.kept (h:PQ w wr g c n l L a0 b0 a b) (hb:Bw wr w'):PQ w w' g c n l L a0 b0 a b:=⟨h.us.kept hb,h.re,h.bl,h.a0a,h.ab,h.bb0,h.b0n⟩
theorem PQ.eq {m pv:Nat} (h:PQ w wr g c n l L a0 b0 a b) (k:US wr w' g c n L L2 a b) (e:sG L L2 a b pv m) (ha:0<a) (hp:gt L pv<=gt L (a-1)):PQ w w' g c n l L2 a0 b0 m b:=by
 have h2:=h.moved k
 have hall:∀x,a<=x->x<b->gt L2 a<=gt L2 x:=fun x h3 h4=>by
  have h5:=h2.bl ha x h3 h4;have h6:=k.mv.out (a-1) (.inl (by omega));rw [e.at_];omega
 have hmb:=e.mb;have ham:=e.am;refine ⟨h2.us,h2.re.same ham hmb e.lo e.hi hall,fun _ x h3 h4=>?_,by have:=h.a0a;omega,hmb,h.bb0,h.b0n⟩;have h5:=e.lo (m-1) (by omega) (by omega);have h6:=e.hi x h3 h4;omega
theorem PQ.left {m:Nat} {w2:World} {L3:List Nat} (h:PQ w wr g c n l L a0 b0 a b) (p:fK L a b m) (k:US wr w2 g c n L L3 a m) (ho:wG L3 a m):PQ w w2 g c n l L3 a0 b0 (m+1) b:=by
 have hb:b<=L.length:=by rw [h.us.len];exact Nat.le_trans h.bb0 h.b0n
 have hmb:=p.mb;have h2:=h.moved (k.wide (Nat.le_refl _) (Nat.le_of_lt hmb));have p2:=p.LJ k.mv hb;exact ⟨h2.us,h2.re.left p2 ho,fun _ x h3 h4=>p2.hi x (by omega) h4,by have:=h.a0a;have:=p.am;omega,by omega,h.bb0,h.b0n⟩
theorem PQ.right {m:Nat} {w2:World} {L3:List Nat} (h:PQ w wr g c n l L a0 b0 a b) (p:fK L a b m) (k:US wr w2 g c n L L3 (m+1) b) (ho:wG L3 (m+1) b):PQ w w2 g c n l L3 a0 b0 a m:=by
 have hb:b<=L.length:=by rw [h.us.len];exact Nat.le_trans h.bb0 h.b0n
 have ham:=p.am;have hmb:=p.mb;have h2:=h.moved (k.wide (by omega) (Nat.le_refl _));have p2:=p.LK k.mv hb;exact ⟨h2.us,h2.re.right p2 ho,fun h0 x h3 h4=>h2.bl h0 x h3 (by omega),h.a0a,ham,by have:=h.bb0;omega,h.b0n⟩
theorem PQ.blL {m:Nat} (h:PQ w wr g c n l L a0 b0 a b) (p:fK L a b m):Blw L a m:=fun h0 x h3 h4=>h.bl h0 x h3 (by have:=p.mb;omega)
theorem PQ.blR {m:Nat} (_:PQ w wr g c n l L a0 b0 a b) (p:fK L a b m):Blw L (m+1) b:=fun _ x h3 h4=>by
 rw [Nat.add_sub_cancel];exact p.hi x (by omega) h4
end
def G9 (N:Nat):Prop:=∀(w:World) (g c n a b:Nat) (z:Int) (l:List Nat),Ow 25 w g c (l.map nV)->l.length=n->a<=b->b<=n->n<=80->b-a=N->Blw l a b->Calls Tryz.prog 164 #[.slice (some ⟨g,0,none⟩) n c,(a:Int),(b:Int),z] w fun e w'=>e=.returned (.tuple #[])/\∃L,US w w' g c n l L a b/\wG L a b
theorem He (N:Nat) (ih:∀m,m<N->G9 m):G9 N:=by
 intro w g c n a0 b0 z0 l h hl Qm Qv hn hN Mj;have H0:Hid (PQ w w g c n l l a0 b0 a0 b0):=⟨US.start h hl a0 b0,Rest.start l a0 b0,Mj,Nat.le_refl _,Qm,Nat.le_refl _,Qv⟩;have IH:Hid (∀m,m<N->G9 m):=ih;have HN:=hid hN;have Si:b0<=80:=by omega
 clear h hl Mj ih hN;go_enter Tryz.func164,Tryz.ntmps164
 go_wp2_with fail
 go_loopg [1,2,3,8,9] (b0-a0) (fun gk av bv zv xv yv wr=>∃(a b:Nat) (z:Int) (x y:Bool) (L:List Nat),gk=b-a/\av= .int .i64 (a:Int)/\bv= .int .i64 (b:Int)/\zv= .int .i64 z/\xv= .bool x/\yv= .bool y/\Hid (PQ w wr g c n l L a0 b0 a b))
 case atStart=>exact ⟨a0,b0,z0,true,true,l,rfl,rfl,rfl,rfl,rfl,rfl,H0⟩
 case round=>
  obtain ⟨a,b,z,x,y,L,rfl,rfl,rfl,rfl,rfl,rfl,HQ⟩:=hrel;clear H0;have hq:=HQ.out;have hab:=hq.ab;have Rv:=hq.bb0;have Sj:=hq.a0a;have hbn:b<=n:=Nat.le_trans Rv Qv;clear hq;obtain ⟨m0,hm0⟩:∃m,m=b-a:=⟨_,rfl⟩
  have hwl:IntKind.i64.wrap ((b:Int)-(a:Int))=(m0:Int):=by rw [wrap_i64];omega
  have HM0:=hid hm0;clear hm0;by_cases h12:m0<=12
  . have cI:=hid (sF HQ.out.us.ow HQ.out.us.len hab hbn (by omega))
    go_wp2_with (go_at_call 186;refine cI.out.mono ?_;rintro e w2 ⟨rfl,L2,h1,h2⟩)
    exact bodyPost_ret (results_none rfl _ _ _) rfl ⟨rfl,L2,(HQ.out.moved h1).us,(HQ.out.moved h1).re.done h2.ord⟩
  have Sk:12<m0:=by omega
  by_cases hz:z=0
  . subst hz
    have cI:=hid (uM HQ.out.us.ow HQ.out.us.len hab hbn (by omega));go_wp2_with (go_at_call 187;refine cI.out.mono ?_;rintro e w2 ⟨rfl,L2,h1,h2⟩)
    exact bodyPost_ret (results_none rfl _ _ _) rfl ⟨rfl,L2,(HQ.out.moved h1).us,(HQ.out.moved h1).re.done h2.ord⟩
  have hz':(z==0)=false:=by simpa using hz
  have O9:a+12<b:=by have:=HM0.out;omega
  have vw:n<=1000:=by omega
  go_upto_if 35 with fail
  clear hwl hz hz' h12
  go_cut [3] (fun zv wx=>∃(z:Int) (L:List Nat),zv= .int .i64 z/\Hid (PQ w wx g c n l L a0 b0 a b))
  case first=>
   cases x with
   |true=>
    go_wp2_with fail
    go_meet
    exact ⟨z,L,rfl,HQ⟩
   |false=>
    have cI:=hid (Dq HQ.out.us.ow HQ.out.us.len O9 hbn hn);go_wp2_with (go_at_call 188;refine cI.out.mono ?_;rintro e w2 ⟨rfl,L2,h1⟩)
    have HQ2:=hid (HQ.out.moved h1);clear h1 cI HQ;go_wp2_with fail
    go_meet
    exact ⟨_,L2,rfl,HQ2⟩
  case rest=>
  clear HQ L z;obtain ⟨z,L,rfl,HQ⟩:=hcut;have cP:=hid (o8 HQ.out.us.ow HQ.out.us.len O9 hbn vw);go_upto_region 11 with (go_at_call 189;refine cP.out.mono ?_;rintro e w2 ⟨pv,hint,rfl,hh,hp1,hp2,hb2⟩)
  have HQ2:=hid (HQ.out.kept hb2);clear HQ cP hb2;go_upto_if 50 with fail
  go_cut [11,12] (fun pvv hv wx=>∃(pv:Nat) (hint:Int) (L:List Nat),pvv= .int .i64 (pv:Int)/\hv= .int .i64 hint/\a<=pv/\pv<b/\Hid (hint=0\/hint=1)/\Hid (PQ w wx g c n l L a0 b0 a b))
  case first=>
   by_cases h2:hint=2
   . subst h2
     obtain ⟨b1,hb1⟩:∃b1,b1=b-1:=⟨_,rfl⟩
     obtain ⟨d1,hd1⟩:∃d,d=pv-a:=⟨_,rfl⟩
     obtain ⟨pv2,hpv2⟩:∃p,p=b1-d1:=⟨_,rfl⟩
     have hw1:IntKind.i64.wrap ((b:Int)-1)=(b1:Int):=(by rw [wrap_i64];omega);have hw2:IntKind.i64.wrap ((pv:Int)-(a:Int))=(d1:Int):=(by rw [wrap_i64];omega);have hw3:IntKind.i64.wrap ((b1:Int)-(d1:Int))=(pv2:Int):=(by rw [wrap_i64];omega);have cR:=hid (wU HQ2.out.us.ow HQ2.out.us.len (show a<b by omega) hbn vw);have HP3:=hid (show a<=pv2/\pv2<b by omega);clear hb1 hd1 hpv2 hh;go_wp2_with (go_at_call 190;refine cR.out.mono ?_;rintro e w3 ⟨rfl,L3,h3⟩)
     have HQ3:=hid (HQ2.out.moved h3);clear h3 cR HQ2;go_wp2_with fail
     go_meet
     exact ⟨pv2,1,L3,rfl,rfl,HP3.out.1,HP3.out.2,hid (.inr rfl),HQ3⟩
   . have h2':(hint==2)=false:=by simpa using h2
     have HH:Hid (hint=0\/hint=1):=(by unfold Hid;omega);clear hh h2;go_wp2_with fail
     go_meet
     exact ⟨pv,hint,L,rfl,rfl,hp1,hp2,HH,HQ2⟩
  case rest=>
  clear HQ2 hh hp1 hp2 L;obtain ⟨pv2,Rx,L,rfl,rfl,hp1,hp2,HH,HQ⟩:=hcut;obtain ⟨pv,rfl⟩:∃pv,pv=pv2:=⟨_,rfl⟩
  go_upto_region 15 with fail
  go_cut [68] (fun tv wx=>(∃t:Bool,tv= .bool t)/\Hid (PQ w wx g c n l L a0 b0 a b))
  case first=>
   have HQ1:=HQ;clear HQ;rcases HH.out with h|h
   . subst h
     cases x with
     |true=>
      cases y with
      |true=>
       go_wp2_with fail
       go_meet
       exact ⟨⟨_,rfl⟩,HQ1⟩
      |false=>
       go_wp2_with fail
       go_meet
       exact ⟨⟨_,rfl⟩,HQ1⟩
     |false=>
      go_wp2_with fail
      go_meet
      exact ⟨⟨_,rfl⟩,HQ1⟩
   . subst h
     cases x with
     |true=>
      cases y with
      |true=>
       go_wp2_with fail
       go_meet
       exact ⟨⟨_,rfl⟩,HQ1⟩
      |false=>
       go_wp2_with fail
       go_meet
       exact ⟨⟨_,rfl⟩,HQ1⟩
     |false=>
      go_wp2_with fail
      go_meet
      exact ⟨⟨_,rfl⟩,HQ1⟩
  case rest=>
  obtain ⟨⟨t1,rfl⟩,HQ'⟩:=hcut;clear HQ HH;go_upto_if 68 with fail
  go_cut [11] (fun pvv wx=>∃(L:List Nat),pvv= .int .i64 (pv:Int)/\Hid (PQ w wx g c n l L a0 b0 a b))
  case first=>
   cases t1 with
   |false=>
    go_wp2_with fail
    go_meet
    exact ⟨L,rfl,HQ'⟩
   |true=>
    have cI:=hid (wW HQ'.out.us.ow HQ'.out.us.len O9 hbn vw HQ'.out.bl);go_upto_if 72 with (go_at_call 191;refine cI.out.mono ?_;rintro e w2 ⟨t2,L2,rfl,h1,h2⟩)
    have HQ2:=hid (HQ'.out.moved h1);have HT:=hid h2;clear h1 h2 cI HQ';cases t2 with
    |true=>
     go_wp2_with fail
     exact bodyPost_ret (results_none rfl _ _ _) rfl ⟨rfl,L2,HQ2.out.us,HQ2.out.re.done (HT.out trivial).ord⟩
    |false=>
     go_wp2_with fail
     go_meet
     exact ⟨L2,rfl,HQ2⟩
  case rest=>
  clear HQ' L;obtain ⟨L,rfl,HQ⟩:=hcut;go_upto_region 17 with fail
  go_cut [87] (fun tv wx=>∃t:Bool,tv= .bool t/\Hid (t=true->0<a/\gt L pv<=gt L (a-1))/\Hid (PQ w wx g c n l L a0 b0 a b))
  case first=>
   rcases Nat.eq_zero_or_pos a with h0|h0
   . subst h0
     go_quiet (fail)
     have HQ2:=hid (HQ.out.kept (fF _ nq));clear HQ;go_wp2_with fail
     go_meet
     exact ⟨false,rfl,hid (fun h=>by cases h),HQ2⟩
   . obtain ⟨a1,ha1⟩:∃a1,a1=a-1:=⟨_,rfl⟩
     have hw1:IntKind.i64.wrap ((a:Int)-1)=(a1:Int):=(by rw [wrap_i64];omega);have Ry:a1<n:=(by omega);have hpn:pv<n:=(by omega);have d1:=HQ.out.us.cell Ry;have d2:=HQ.out.us.cell hpn;have HA1:=hid ha1;clear ha1;by_cases hxy:gt L a1<gt L pv
     . have cL:=fun w=>hid (bP (t:=true) (x:=gt L a1) (y:=gt L pv) (by simpa using hxy) w)
       clear hxy
       go_quiet ((go_at_call 192;exact Calls.quiet_of_same ((cL _).out.mono fun e w' ⟨he,hw⟩=>⟨he,hw.symm⟩)))
       have HQ2:=hid (HQ.out.kept (fF _ nq));clear HQ d1 d2;go_wp2_with fail
       go_meet
       exact ⟨false,rfl,hid (fun h=>by cases h),HQ2⟩
     . have cL:=fun w=>hid (bP (t:=false) (x:=gt L a1) (y:=gt L pv) (by simpa using hxy) w)
       have HX:Hid (0<a/\gt L pv<=gt L (a-1)):=⟨h0,by rw [<-HA1.out];omega⟩;clear hxy
       go_quiet ((go_at_call 192;exact Calls.quiet_of_same ((cL _).out.mono fun e w' ⟨he,hw⟩=>⟨he,hw.symm⟩)))
       have HQ2:=hid (HQ.out.kept (fF _ nq));clear HQ d1 d2;go_wp2_with fail
       go_meet
       exact ⟨true,rfl,hid (fun _=>HX.out),HQ2⟩
  case rest=>
  obtain ⟨t,rfl,HT,HQ2⟩:=hcut;clear HQ;have HQ:=HQ2;clear HQ2;cases t with
  |true=>
   have HT2:Hid (0<a/\gt L pv<=gt L (a-1)):=HT.out rfl;have cE:=hid (Ao HQ.out.us.ow HQ.out.us.len hp1 hp2 hbn vw);clear HT;go_wp2_with (go_at_call 193;refine cE.out.mono ?_;rintro e w2 ⟨m,rfl,L2,h1,h2⟩)
   have HQ3:=hid (HQ.out.eq h1 h2 HT2.out.1 HT2.out.2);have HM:=hid (show a<m/\m<=b from ⟨h2.am,h2.mb⟩);clear h1 h2 cE HQ HT2;go_wp2_with fail
   go_roundg (b-m)
   case measure=>have:=HM.out;omega
   case rel=>exact ⟨m,b,z,x,y,L2,rfl,rfl,rfl,rfl,rfl,rfl,HQ3⟩
  |false=>
   clear HT;have cE:=hid (sS HQ.out.us.ow HQ.out.us.len hp1 hp2 hbn vw);go_upto_region 21 with (go_at_call 194;refine cE.out.mono ?_;rintro e w2 ⟨m,tp,rfl,L2,h1,h2⟩)
   have HQ3:=hid (HQ.out.moved h1);have HPA:=hid h2;have ham:=h2.am;have hmb:=h2.mb;clear h1 h2 cE HQ;obtain ⟨ll,hll⟩:∃d,d=m-a:=⟨_,rfl⟩
   obtain ⟨rl,hrl⟩:∃d,d=b-m:=⟨_,rfl⟩
   obtain ⟨th,hth⟩:∃d,d=m0 / 8:=⟨_,rfl⟩
   obtain ⟨m1,hm1⟩:∃d,d=m+1:=⟨_,rfl⟩
   have hw1:IntKind.i64.wrap ((m:Int)-(a:Int))=(ll:Int):=(by rw [wrap_i64];omega);have hw2:IntKind.i64.wrap ((b:Int)-(m:Int))=(rl:Int):=(by rw [wrap_i64];omega);have hw3:(m0:Int).tdiv 8=(th:Int):=(by rw [Int.tdiv_eq_ediv_of_nonneg (by omega)];omega);have hw4:IntKind.i64.wrap (th:Int)=(th:Int):=(by rw [wrap_i64];have:=HM0.out;omega);have hw5:IntKind.i64.wrap ((m:Int)+1)=(m1:Int):=(by rw [wrap_i64];omega);have HE:=hid (show ll=m-a/\rl=b-m/\m1=m+1 from ⟨hll,hrl,hm1⟩);clear hll hrl hth hm1;by_cases hlr:ll<rl
   . have cI:Hid (Calls Tryz.prog 164 #[.slice (some ⟨g,0,none⟩) n c,(a:Int),(m:Int),z] w2 fun e w'=>e=.returned (.tuple #[])/\∃L,US w2 w' g c n L2 L a m/\wG L a m):=IH.out (m-a) (by have:=HN.out;omega) w2 g c n a m z L2 HQ3.out.us.ow HQ3.out.us.len ham (by omega) hn rfl (HQ3.out.blL HPA.out)
     go_wp2_with (go_at_call 164;refine cI.out.mono ?_;rintro e w3 ⟨rfl,L3,h1,h2⟩)
     have HQ4:Hid (PQ w w3 g c n l L3 a0 b0 m1 b):=by
      rw [HE.out.2.2];exact HQ3.out.left HPA.out h1 h2
     clear h1 h2 cI HQ3;go_wp2_with fail
     go_roundg (b-m1)
     case measure=>have:=HE.out;omega
     case rel=>exact ⟨m1,b,z,_,tp,L3,rfl,rfl,rfl,rfl,rfl,rfl,HQ4⟩
   . have Sn:rl<=ll:=by omega
     have cI:Hid (Calls Tryz.prog 164 #[.slice (some ⟨g,0,none⟩) n c,(m1:Int),(b:Int),z] w2 fun e w'=>e=.returned (.tuple #[])/\∃L,US w2 w' g c n L2 L m1 b/\wG L m1 b):=IH.out (b-m1) (by have:=HN.out;have:=HE.out;omega) w2 g c n m1 b z L2 HQ3.out.us.ow HQ3.out.us.len (by have:=HE.out;omega) hbn hn rfl (by rw [HE.out.2.2];exact HQ3.out.blR HPA.out);go_wp2_with (go_at_call 164;refine cI.out.mono ?_;rintro e w3 ⟨rfl,L3,h1,h2⟩)
     have HQ4:Hid (PQ w w3 g c n l L3 a0 b0 a m):=by
      rw [HE.out.2.2] at h1 h2;exact HQ3.out.right HPA.out h1 h2
     clear h1 h2 cI HQ3;go_wp2_with fail
     go_roundg (m-a)
     case measure=>omega
     case rel=>exact ⟨a,m,z,_,tp,L3,rfl,rfl,rfl,rfl,rfl,rfl,HQ4⟩
theorem Kv (N:Nat):G9 N:=Nat.strongRecOn N He
end Pq
end Go.Proofs.YtjpjjnalpdpljaaGreatDoor
set_option maxHeartbeats 4000000
set_option maxRecDepth 100000
namespace Go.Proofs.YtjpjjnalpdpljaaGreatDoor
open Go.RowKit
namespace Pq
open Mem Hp
theorem zk {w:World} {g c n:Nat} {l:List Nat} (h:Ow 25 w g c (l.map nV)) (hl:l.length=n) (h1:1<=n) (hn:n<=80):Calls Tryz.prog 132 #[.slice (some ⟨g,0,none⟩) n c] w fun e w'=>e=.returned (.tuple #[])/\∃L,US w w' g c n l L 0 n/\wG L 0 n:=by
 have cL:=fun w=>Lib.hid (lq n h1 hn w);have cP:=fun z=>Lib.hid (Kv n w g c n 0 n z l h hl (Nat.zero_le _) (Nat.le_refl _) hn rfl (fun h0=>by omega));have hw1:IntKind.u64.wrap (n:Int)=(n:Int):=by rw [IntKind.wrap_u64];omega
 clear h hl h1 hn;go_enter Tryz.func132,Tryz.ntmps132
 go_wp2_with (first
  |(go_at_call 165;refine (cL _).out.mono ?_;rintro e w' ⟨z,rfl,rfl,-,-,-⟩)
  |(go_at_call 164;refine (cP _).out.mono ?_;rintro e w2 ⟨rfl,L,h1,h2⟩))
 go_end0
 exact ⟨rfl,L,h1,h2⟩
end Pq
end Go.Proofs.YtjpjjnalpdpljaaGreatDoor
set_option maxRecDepth 100000
namespace Go.Proofs.YtjpjjnalpdpljaaGreatDoor
open Go.RowKit
namespace So
open Mem Po
theorem D8 {w:World} (c:Nat):CW 132 #[.slice none 0 c] w (.tuple #[]):=by
 have cL:=fun w=>Lib.hid (lq 0 (by decide) w);have cI:=fun z=>Lib.hid (Gy (w:=w) c z);go_enter Tryz.func132,Tryz.ntmps132
 go_wp2_with (first
  |(go_at_call 165;refine (cL _).out.mono ?_;rintro e w' ⟨z,rfl,rfl⟩)
  |(go_at_call 164;refine (cI _).out.mono ?_;rintro e w' ⟨rfl,rfl⟩))
 go_end0
 exact ⟨rfl,rfl⟩
theorem xu {L:List Nat} (h:Pq.wG L 0 L.length):Srt L:=by
 unfold Srt;rw [List.pairwise_iff_getElem];intro i j hi hj hij;have:=h i j (Nat.zero_le _) hij hj;simpa [Hp.gt,hi,hj] using this
theorem D9 {w:World} {B c n:Nat} {A:Option Addr} {l:List Nat} (h:VO 25 w B A c (l.map jc)) (hl:l.length=n) (hn:n<=80) (hnil:n=0->A=none):
 Calls Tryz.prog 132 #[.slice A n c] w fun e w'=>e=.returned (.tuple #[])/\Sorted w w' A c l B:=by
 by_cases h0:n=0
 . subst h0
   obtain rfl:=hnil rfl;obtain rfl:l=[]:=List.eq_nil_of_length_eq_zero hl;refine (D8 c).mono fun e w' ⟨he,hw⟩=>⟨he,[],hw▸h,List.Perm.refl _,by simp [Srt],fun T _=>hw▸Flow.Into.refl _ _⟩
 . obtain ⟨g,rfl,hB,ho⟩:=h.ow (by simp;omega)
   refine (Pq.zk ho hl (by omega) hn).mono fun e w' ⟨he,L,hU,hO⟩=>⟨he,L,Gz hU.ow hB,hU.mv.perm,xu ?_,fun T hT=>hU.hi.mono fun y hy=>?_⟩
   . rw [hU.len]
     exact hO
   . obtain rfl:y=g:=by simpa using hy
     exact hT _ rfl
end So
end Go.Proofs.YtjpjjnalpdpljaaGreatDoor
set_option maxHeartbeats 1000000
set_option maxRecDepth 100000
namespace Go.Proofs.YtjpjjnalpdpljaaGreatDoor
open Go.RowKit Go.Maps
open Go.Lib (hid)
namespace Ca
open Mem Dv Cn Po So
theorem Ea (a b:Nat):(kl a).sameKey (kl b)=decide (a=b):=by
 simp only [kl,Lit.sameKey,true_and];by_cases h:a=b
 . subst h;simp
 . have:¬(a:Int)=(b:Int):=by omega
   simp [h,this]
structure DR (W wr:World) (st:St) (mp k:Nat) (D:DataW Unit) (left:Lit->Bool) (cnt:Nat) (A:Option Addr) (c:Nat) (L:List Nat):Prop where
 rg:wr.ranges Tryz.prog 25 (plainElem Tryz.prog 3) mp W.heap.size k D left cnt
 vo:VO 25 wr (W.heap.size+1) A c (L.map jc)
 nd:L.Nodup
 mem:∀b,b∈L↔b<4294967296/\Maps.has D (kl b)=true/\left (kl b)=false/\dX st b=true
 bd:L.length+cnt<=k
 nil:L.length=0->A=none
 bl:Bw W wr
section
variable {W wr w1 w3:World} {st:St} {mp k cnt cnt1 c c':Nat} {D:DataW Unit} {left:Lit->Bool} {A A':Option Addr} {L:List Nat} {b:Nat}
theorem DR.lt (h:DR W wr st mp k D left cnt A c L):W.heap.size<wr.heap.size:=h.rg.lt
theorem kF {a w w':World} {r B:Nat} (h:Below B a w) (hg:w.grownBy w' (some r)) (hr:B<=r) (hB:B<=w.heap.size):Below B a w':=
 h.trans ⟨hg.os,hg.tape,hg.output,hg.size,fun i hi=>hg.block i (by omega) (by simp;omega)⟩
theorem DR.skip (h:DR W wr st mp k D left cnt A c L) (hb:b<4294967296) (hl:left (kl b)=true) (hr:w1.ranges Tryz.prog 25 (plainElem Tryz.prog 3) mp W.heap.size k D (fun z=>left z&& !z.sameKey (kl b)) cnt1) (hc:cnt1<cnt) (hg:wr.grownBy w1 (some W.heap.size)) (hd:dX st b=false):
 DR W w1 st mp k D (fun z=>left z&& !z.sameKey (kl b)) cnt1 A c L:=by
 refine ⟨hr,h.vo.keep fun a ha=>?_,h.nd,fun x=>?_,by have:=h.bd;omega,h.nil,kF h.bl hg (Nat.le_refl _) h.bl.size⟩
 . obtain ⟨g1,g2⟩:=h.vo.at_ a ha
   exact hg.block _ g2 (by simp;omega)
 . rw [h.mem x]
   simp only [Ea];by_cases e:x=b
   . subst e
     simp [hd]
   . simp [e]
theorem DR.more (h:DR W wr st mp k D left cnt A c L) (hb:b<4294967296) (hh:Maps.has D (kl b)=true) (hl:left (kl b)=true) (hr:w1.ranges Tryz.prog 25 (plainElem Tryz.prog 3) mp W.heap.size k D (fun z=>left z&& !z.sameKey (kl b)) cnt1) (hc:cnt1<cnt) (hg:wr.grownBy w1 (some W.heap.size)) (hd:dX st b=true)
 (ha:LH 25 (W.heap.size+1) (w1.alloc (.cells #[.int .u32 (b:Int)] 25)) w3 A A' c' (L.map jc++[.int .u32 (b:Int)])):
 DR W w3 st mp k D (fun z=>left z&& !z.sameKey (kl b)) cnt1 A' c' (L++[b]):=by
 have hlt:=h.lt;have Sq:=hr.lt;have Sw:=hr.owns.lt;have hs1:w1.heap.size<(w1.alloc (.cells #[.int .u32 (b:Int)] 25)).heap.size:=by simp
 have hb1:Bw W w1:=kF h.bl hg (Nat.le_refl _) h.bl.size;have hne:=hr.ne;have hAr:∀a,A=some a->W.heap.size+1<=a.block:=fun a e=>(h.vo.at_ a e).1
 have hgg:(w1.alloc (.cells #[.int .u32 (b:Int)] 25)).grownBy w3 (A.map (·.block)):=⟨ha.below.os,ha.below.tape,ha.below.output,ha.below.size,fun i hi hn=>ha.block i hi fun a e=>by
  rintro rfl
  exact hn (by rw [e];rfl)⟩
 refine ⟨?_,?_,?_,fun x=>?_,?_,?_,?_⟩
 . refine (hr.alloc _).kept hgg ?_ ?_
   . rintro e
     cases hA:A with
     |none=>rw [hA] at e;cases e
     |some a=>
      rw [hA] at e;have e1:mp=a.block:=by simpa using e
      have hmw:w1.heap[mp]? =wr.heap[mp]? :=by
       obtain ⟨g1,g2⟩:=h.vo.at_ a hA;exact hg.block _ (by omega) (by simp;omega)
      obtain ⟨g1,g2⟩:=h.vo.at_ a hA;obtain ⟨es,clock,hb',_⟩:=h.rg.owns;obtain ⟨_,h2⟩:=h.vo;rcases h2 with ⟨h2,_⟩|⟨g',cap',cur,he,_,hh',_⟩
      . rw [hA] at h2;cases h2
      . rw [hA] at he
        obtain ⟨rfl,_⟩:a=⟨g',0,none⟩/\c=cap':=(by simpa using he);have e2:mp=g':=e1;rw [e2,hh'] at hb';cases hb'
   . rintro e
     cases hA:A with
     |none=>rw [hA] at e;cases e
     |some a=>
      rw [hA] at e;have e1:W.heap.size=a.block:=(by simpa using e);have:=hAr a hA;omega
 . have:=ha.vo
   rw [List.map_append];exact this
 . refine List.nodup_append.2 ⟨h.nd,by simp,fun x hx y hy e=>?_⟩
   obtain rfl:y=b:=(by simpa using hy);subst e;rw [((h.mem x).1 hx).2.2.1] at hl;cases hl
 . rw [List.mem_append,h.mem x,List.mem_singleton]
   simp only [Ea];by_cases e:x=b
   . subst e
     simp [hd,hh,hb]
   . simp [e]
 . have:=h.bd
   simp;omega
 . intro e;simp at e
 . exact (hb1.trans ((bAx).mono hb1.size)).trans (ha.below.mono (Nat.le_succ _))
theorem DR.done (h:DR W wr st mp k D left cnt A c L) (hl:∀z,left z=false) (hW:∀b,b<4294967296->Maps.has D (kl b)=(ix st.fr b).isSome) (hg:Good st):L.Perm (dh st):=by
 refine (List.perm_ext_iff_of_nodup h.nd (List.nodup_range.filter _)).2 fun x=>?_;rw [h.mem x,List.mem_filter,List.mem_range];refine ⟨fun ⟨h1,h2,_,h4⟩=>⟨?_,h4⟩,fun ⟨h1,h2⟩=>⟨?_,?_,hl _,h2⟩⟩
 . rw [hW x h1] at h2
   obtain ⟨j,hj⟩:=Option.isSome_iff_exists.1 h2;obtain ⟨f,hf,rfl⟩:=oh hj;exact (hg.blk j f hf).1
 . have:=hg.l32;omega
 . rw [hW x (by have:=hg.l32;omega)]
   unfold dX at h2;unfold ix;cases e:look st.fr x with
   |none=>rw [e] at h2;cases h2
   |some y=>rfl
end
theorem Az:∀{l l':List Nat},l.Perm l'->Srt l->Srt l'->l=l':=fun hp h h'=>hp.eq_of_pairwise (fun _ _ _ _=>Nat.le_antisymm) h h'
theorem Eb (st:St):Srt (dh st):=by
 unfold Srt dh;exact (List.pairwise_le_range).filter _
theorem Ky {W:World} {S:List Nat} {p f mp ch cb g:Nat} {qk:Nat->Nat × Nat} {st:St} (h:CwW W S p f mp ch cb g qk st (ix st.fr) (occ st.fr)) (hg:Good st):
 Calls Tryz.prog 95 #[p] W fun e w'=>(∃A c,e=.returned (.slice A (dh st).length c)/\UL w' A (dh st)/\∀a,A=some a->W.heap.size<=a.block)/\Bw W w':=by
 have cM:=hid (dU h);obtain ⟨D,hown,hsz,hD⟩:=h.mc.own;have hW:Hid (∀b,b<4294967296->Maps.has D (kl b)=(ix st.fr b).isSome):=fun b hb=>(hD b hb).2;have hA:Hid (∀b,b<4294967296->D.atKey (kl b) (el 0)=el ((ix st.fr b).getD 0)):=fun b hb=>(hD b hb).1;have hk:occ st.fr<=64:=by have:=yB st.fr;have:=hg.n2;omega
 have HL:Hid ((dh st).length<=80):=Nat.le_trans (oo st) (by omega);obtain ⟨-,-,c2,-⟩:=h.cells;generalize occ st.fr=k at*;have HH:=hid h;have HG:=hid hg;have HO:=hid hown;have HZ:=hid hsz;have HK:=hid hk;clear h hg hown hsz hD hk;go_enter Tryz.func95,Tryz.ntmps95
 go_wp2_with (first
  |(go_at_call 94;refine cM.out.mono ?_;rintro e w' ⟨rfl,rfl⟩)
  |(at_range;refine wpList_range_own _ rfl _ 126 rfl 25 3 keyed Tryz.underlying126 _ mp k _ rfl HO.out ?_;intro w0 hrg0 hg0 hs0))
 go_frame
 have H0:Hid (DR W w0 st mp k D (Maps.has D) (Maps.size D) none 0 []):=by
  refine ⟨hrg0,VO.nil _ _ _,List.nodup_nil,fun b=>?_,by rw [HZ.out];simp,fun _=>rfl,⟨hg0.os,hg0.tape,hg0.output,hg0.size,fun i hi=>hg0.block i hi (by simp)⟩⟩;simp;intro _ e;simp [e]
 clear hrg0 hg0 hs0 c2
 go_loopg [3] (Maps.size D) (fun gk bv wr=>∃(left:Lit->Bool) (A:Option Addr) (m c:Nat) (L:List Nat),bv= .slice A m c/\Hid (L.length=m)/\Hid (DR W wr st mp k D left gk A c L))
 case atStart=>exact ⟨_,none,0,0,[],rfl,rfl,H0⟩
 case round=>
  obtain ⟨left,A,m,c,L,rfl,HLN,HR⟩:=hrel;clear H0;go_upto_region 5 with fail
  go_upto_region 6 with (at_next;refine wpList_next_ranges_ii _ rfl _ rfl 25 3 .u32 .i64 keyed Tryz.underlying25 Tryz.underlying3 mp W.heap.size k _ _ _ rfl HR.out.rg ?_ ?_)
  . intro h0 hl0
    have HP:=hid (HR.out.done hl0 hW.out HG.out)
    have hm:m<=80:=by
     have:=HP.out.length_eq;rw [HLN.out] at this;rw [this];exact HL.out
    have cS:=hid (D9 HR.out.vo HLN.out hm (fun e=>HR.out.nil (HLN.out.trans e)));have HB:=hid HR.out.bl;have HLT:=hid HR.out.lt;have HAT:=hid HR.out.vo.at_;clear HR hl0 h0;go_wp2_with (go_at_call 132;refine cS.out.mono ?_;rintro e w2 ⟨rfl,L',hv,hp,hs,hi⟩)
    have e1:L'=dh st:=Az (hp.trans HP.out) hs (Eb st);subst e1;have e2:m=(dh st).length:=(by rw [<-HLN.out];exact HP.out.length_eq);rw [e2]
    go_ret
    refine ⟨⟨A,c,rfl,UL.Jy hv,fun a ha=>Nat.le_of_succ_le (hv.at_ a ha).1⟩,?_⟩;have hi2:=hi (match A with|some a=>[a.block]|none=>[]) (fun a ha=>by subst ha;simp);refine HB.out.trans ⟨hi2.os,hi2.tape,hi2.output,hi2.size,fun i hi'=>hi2.block i (Nat.lt_trans hi' HLT.out) fun hm=>?_⟩;cases A with
    |none=>cases hm
    |some a=>
     obtain rfl:i=a.block:=(by simpa using hm);have:=(HAT.out a rfl).1;omega
  . intro x z w1 cnt1 hwx hwz hlx hat hrg1 hlt hg1 hs1 hen
    obtain ⟨b,rfl,hb⟩:∃b:Nat,x=(b:Int)/\b<4294967296:=by
     have h1:IntKind.u32.min=0:=rfl;have h2:IntKind.u32.max=4294967295:=rfl;simp only [Lit.wf,Bool.and_eq_true,decide_eq_true_eq] at hwx;exact ⟨x.toNat,by omega,by omega⟩
    have hh:Maps.has D (kl b)=true:=Maps.has_true_of_atKey hat;have hix:=hW.out b hb;rw [hh] at hix;obtain ⟨j,hj⟩:=Option.isSome_iff_exists.1 hix.symm;have hz:=hA.out b hb;rw [hj] at hz;have hz2:=(hat (el 0)).symm.trans hz;obtain rfl:z=(j:Int):=(by simpa [el] using hz2);obtain ⟨f,hf,hfb⟩:=oh hj;subst hfb;have hlk:=gU HG.out.uq hf;obtain ⟨b,y,d,n⟩:=f
    have hd:dX st b=d:=by
     unfold dX;simp only at hlk;rw [hlk]
    have h1:=HH.out.kept (kF HR.out.bl hg1 (Nat.le_refl _) HR.out.bl.size);obtain ⟨-,c1,-,-⟩:=h1.cells;obtain ⟨-,-,d2,-⟩:=h1.fw.cell hf;simp only [f2] at d2;have hjl:=aU hf;obtain ⟨N,hN⟩:∃N,N=st.fr.length:=⟨_,rfl⟩
    rw [<-hN] at c1 hjl;have HB:=hid (And.intro hb (And.intro hh hlx));have HR1:=hid (And.intro hrg1 (And.intro hlt hg1));have HD:=hid hd;clear hwx hwz hlx hat hrg1 hlt hg1 hs1 hh hix hj hz hz2 hf hlk hd h1 hN;cases d with
    |false=>
     have hnew:=hid (HR.out.skip HB.out.1 HB.out.2.2 HR1.out.1 HR1.out.2.1 HR1.out.2.2 HD.out);have hlt:=HR1.out.2.1;clear HR HR1 HB;go_wp2_with fail
     go_roundg cnt1
     case measure=>omega
     case rel=>exact ⟨_,A,m,c,L,rfl,HLN,hnew⟩
    |true=>
     have HX:Hid (Bw w1 (w1.alloc (.cells #[.int .u32 (b:Int)] 25))):=bAx;have hcl:Hid ((w1.alloc (.cells #[.int .u32 (b:Int)] 25)).cell? ⟨w1.heap.size,0,none⟩=some (.int .u32 (b:Int))):=(by unfold Hid;simp);simp only at HB HR1 hen
     have HVO:Hid (VO 25 (w1.alloc (.cells #[.int .u32 (b:Int)] 25)) (W.heap.size+1) A c (L.map jc)):=by
      have hv1:VO 25 w1 (W.heap.size+1) A c (L.map jc):=HR.out.vo.keep fun a ha=>by
       obtain ⟨g1,g2⟩:=HR.out.vo.at_ a ha;exact HR1.out.2.2.block _ g2 (by simp;omega)
      exact hv1.kept HX.out
     have HM2:Hid ((L.map jc).length=m):=(by unfold Hid;rw [List.length_map,HLN.out]);have Rz:m+1<=1048576:=by have:=HR.out.bd;have:=HLN.out;have:=HK.out;omega
     have hBx:W.heap.size+1<=(w1.alloc (.cells #[.int .u32 (b:Int)] 25)).heap.size:=by
      have h1:=HR.out.lt;have h2:=HR1.out.2.2.size;have h3:=HX.out.size;omega
     go_wp2_with (with_reducible refine dQ rfl (.tmp 27) (.tmp 29) _ rfl 25 Tryz.underlying38 (.int .u32 0) 4 l9 rfl (by omega) (W.heap.size+1) A m c (L.map jc) rfl HM2.out HVO.out w1.heap.size 1 (.int .u32 (b:Int)) rfl hcl.out rfl Rz hBx ?_;intro A' c' w3 hd3)
     have hnew:=hid (HR.out.more HB.out.1 HB.out.2.1 HB.out.2.2 HR1.out.1 HR1.out.2.1 HR1.out.2.2 HD.out hd3.out);have hlt:=HR1.out.2.1;have RA:Hid ((L++[b]).length=m+1):=(by unfold Hid;rw [List.length_append,HLN.out];rfl);clear HR HR1 HB
     go_roundg cnt1
     case measure=>omega
     case rel=>exact ⟨_,A',m+1,c',L++[b],rfl,RA,hnew⟩
theorem MH {w:World} {F:List Nat} {p g:Nat} {st:St} (h:Cw w F p g st):Calls Tryz.prog 95 #[p] w fun e w'=>(∃A c,e=.returned (.slice A (dh st).length c)/\UL w' A (dh st)/\∀a,A=some a->w.heap.size<=a.block)/\Bw w w':=by
 obtain ⟨S,fb,mp,ch,cb,qk,h1,h2,h3,h4,h5,h6⟩:=h;exact Ky h1 h5
end Ca
end Go.Proofs.YtjpjjnalpdpljaaGreatDoor
set_option maxHeartbeats 1000000
set_option maxRecDepth 100000
namespace Go.Proofs.YtjpjjnalpdpljaaGreatDoor
open Go.RowKit
open Go.Lib (hid)
namespace Ca
open Mem Dv Cn Po So
section
variable {st:St}
theorem Ec {b j:Nat} {f:Fr} (h:look st.fr b=some (j,f)):bq st b=bJ st j:=by unfold bq;rw [h]
theorem Hf (h:Good st) (a:Nat):ix (bJ st a).fr=ix st.fr:=by
 unfold bJ;split
 . rename_i hf
   exact D6 h.uq hf
 . rfl
theorem Ed (h:Good st) (b:Nat):ix (bq st b).fr=ix st.fr:=by
 unfold bq;split
 . exact Hf h _
 . rfl
theorem vB (l:List Nat):∀{st:St},Good st->ix (l.foldl bq st).fr=ix st.fr/\(l.foldl bq st).s<=st.s+l.length/\(l.foldl bq st).r=st.r/\(l.foldl bq st).m=st.m/\(l.foldl bq st).ls.length=st.ls.length/\(l.foldl bq st).row=st.row:=by
 induction l with
 |nil=>intro st _;simp
 |cons x r ih=>
  intro st h;obtain ⟨h1,h2,h3,h4,h5,h6⟩:=ih (h.bq x)
  have hs:(bq st x).s<=st.s+1/\(bq st x).r=st.r/\(bq st x).m=st.m/\(bq st x).ls.length=st.ls.length/\(bq st x).row=st.row:=by
   unfold bq;split
   . obtain ⟨c1,c2,c3,c4,c5,c6⟩:=lZ st ‹_›
     exact ⟨c4,c3,c1,c2,c5⟩
   . simp
  refine ⟨h1.trans (Ed h x),?_,h3.trans hs.2.1,h4.trans hs.2.2.1,h5.trans hs.2.2.2.1,h6.trans hs.2.2.2.2⟩;simp only [List.foldl_cons,List.length_cons];omega
theorem MI {W:World} {F:List Nat} {p g:Nat} (h:Cw W F p g st) (hK:Sm st 900000):Calls Tryz.prog 59 #[p] W fun e w'=>e=.returned (0:Int)/\Aft W w' F p g (eZ st):=by
 have cM:=hid (sP h);have cD:=hid (MH h);have HH:=hid h;have HG:=hid h.good;have HK:=hid hK.s;obtain ⟨R,hR⟩:∃R,R=dh st:=⟨_,rfl⟩
 have RB:R.length<=64:=by
  rw [hR];have h1:=oo st;have h2:=yB st.fr;have h3:=HG.out.n2;omega
 have HRW:=hid hR;rw [<-hR] at cD;obtain ⟨N,hN⟩:∃N,N=R.length:=⟨_,rfl⟩
 have HN:=hid hN;rw [<-hN] at cD RB;clear h hK hR hN;go_enter Tryz.func59,Tryz.ntmps59
 go_wp2_with (first
  |(go_at_call 94;refine cM.out.mono ?_;rintro e w' ⟨rfl,rfl⟩)
  |(go_at_call 95;refine cD.out.mono ?_;rintro e w1 ⟨⟨IA,ic,rfl,hul,hfr⟩,hb1⟩;have HUL:=hid hul;have HFR:=hid hfr;have HB1:=hid hb1;clear hul hfr hb1))
 clear cM cD
 go_loopg [11] N (fun gk iv wr=>∃k:Nat,k<=N/\gk=N-k/\iv= .int .i64 (k:Int)/\Hid (Aft w1 wr F p g ((R.take k).foldl bq st)))
 case atStart=>exact ⟨0,Nat.zero_le _,rfl,rfl,Aft.same (HH.out.kept HB1.out) (Below.refl _ _)⟩
 case round=>
  obtain ⟨k,hk,rfl,rfl,HA⟩:=hrel;by_cases hlt:k<N
  . have hkR:k<R.length:=by rw [<-HN.out];exact hlt
    obtain ⟨b,hb⟩:∃b,b=R[k]:=⟨_,rfl⟩
    have hiF:=HA.out.2;obtain ⟨⟨F1,h1,hg1⟩,hi1⟩:=HA.out
    have Qw:UL wr IA R:=fun h0=>by
     obtain ⟨q,rfl,hq,hc⟩:=HUL.out h0;refine ⟨q,rfl,Nat.lt_of_lt_of_le hq hi1.size,fun i hi=>?_⟩;rw [<-hc i hi];refine World.cell?_of_block (w:=w1) (a:=⟨q,i,none⟩) (hi1.block q hq fun hm=>?_);have h1:=HFR.out _ rfl;have h2:=HH.out.lt q hm;simp only at h1;omega
    obtain ⟨q,hIA,-,Qx⟩:=Qw (by omega);have hic:=Qx k hkR;rw [<-hb] at hic;have hmem:b∈dh st:=(by rw [<-HRW.out,hb];exact List.getElem_mem hkR);obtain ⟨c1,c2,c3,c4,c5,c6⟩:=vB (R.take k) HG.out
    have hbl:b<st.ls.length/\dX st b=true:=by
     unfold dh at hmem;rw [List.mem_filter,List.mem_range] at hmem;exact hmem
    have hb2:b<4294967296:=by have:=HG.out.l32;omega
    obtain ⟨j,hj⟩:∃j,ix st.fr b=some j:=by
     have:=hbl.2;unfold dX at this;unfold ix;cases e:look st.fr b with
     |none=>rw [e] at this;cases this
     |some y=>exact ⟨_,rfl⟩
    have hjk:=hj;rw [<-c1] at hjk;obtain ⟨f,hf,hfb⟩:=oh hjk;have hlk:look ((R.take k).foldl bq st).fr b=some (j,f):=by rw [<-hfb];exact gU h1.good.uq hf
    have hstep:(R.take (k+1)).foldl bq st=bJ ((R.take k).foldl bq st) j:=by
     rw [List.take_succ_eq_append_getElem hkR,List.foldl_append,<-hb];exact Ec hlk
    have hs:((R.take k).foldl bq st).s<=1000000:=by
     have:=HK.out;have:(R.take k).length<=64:=(by rw [List.length_take];omega);omega
    have cC:=hid (I7 h1 hf hs);have hw1:IntKind.i64.wrap ((k:Int)+1)=((k+1:Nat):Int):=(by rw [IntKind.wrap_i64];omega);have HST:=hid hstep;obtain ⟨S,fb,mp,ch,cb,qk,hcw,_⟩:=h1;obtain ⟨-,-,m2,-⟩:=hcw.cells;have hq:=hcw.mc.look hb2;rw [hjk] at hq;simp only [Option.getD_some] at hq;have HG1:=hid (And.intro hg1 hi1);subst hIA;clear Qx hb hiF hg1 hi1 Qw hmem c1 c2 c3 c4 c5 c6 hbl hj hjk hf hfb hlk hstep hs hcw HA;generalize (R.take k).foldl bq st=stk at*;go_wp2_with (go_at_call 96;refine cC.out.mono ?_;rintro e w2 ⟨rfl,ha⟩;have HA2:=hid ha;clear ha)
    go_roundg (N-(k+1))
    case measure=>omega
    case rel=>
     refine ⟨k+1,hlt,rfl,by go_num,?_⟩;unfold Hid;rw [HST.out];obtain ⟨⟨F2,k1,k2⟩,k3⟩:=HA2.out;refine ⟨⟨F2,k1,fun x hx=>?_⟩,bN HG1.out.2 k3 HG1.out.1⟩;rcases k2 x hx with h'|h'
     . exact HG1.out.1 x h'
     . exact .inr (Nat.le_trans HG1.out.2.size h')
  . obtain rfl:k=N:=by omega
    have e:(R.take k).foldl bq st=eZ st:=(by rw [List.take_of_length_le (by rw [<-HN.out];exact Nat.le_refl _),HRW.out];rfl);have HA2:=HA.out;rw [e] at HA2;go_wp2_with fail
    go_ret
    exact ⟨rfl,Aft.behind HB1.out HA2⟩
end
end Ca
end Go.Proofs.YtjpjjnalpdpljaaGreatDoor
set_option maxHeartbeats 1000000
set_option maxRecDepth 100000
namespace Go.Proofs.YtjpjjnalpdpljaaGreatDoor
open Go.RowKit
open Go.Lib (hid)
open List (mem_cons not_mem_nil range replicate)
namespace Ca
open Mem Dv Cn
theorem MJ:(Tryz.prog.info? 131).map (fun i=>(i.zero,i.size,i.bytes))=some (some (.agg #[.int .u32 0,(),.bool false,(0:Int)]),4,48):=by kernel_rfl
def zfr:Array Value:= #[.int .u32 0,.slice none 0 0,.bool false,.int .i64 0]
theorem pG (n:Nat) (hn:n<=64) (w:World):
 (Instr.makeSlice 125 (.int .i64 (n:Int)) (.int .i64 (n:Int))).run Tryz.prog w= .ok (.slice (some ⟨w.heap.size,0,none⟩) n n) (w.alloc (.cells (madeCells zfr (n*4)) 131)):=by
 obtain ⟨i,hi,hz,hs,hb⟩:=info_parts MJ;have hr:=run_make (P:=Tryz.prog) w _ _ i _ Tryz.underlying125 hi hz .i64 .i64 n n (by omega) (by omega) (by rw [hb];omega) (by omega);rw [hr,hs];simp only [Int.toNat_natCast];rfl
theorem sU {n i:Nat} (h:i<n):(madeCells zfr n).toList[i]? =some (zfr[i % 4]!):=by
 simp [madeCells,h,zfr]
theorem Hg (n:Nat) (w:World) (qk:Nat->Nat × Nat):FrW (w.alloc (.cells (madeCells zfr (n*4)) 131)) w.heap.size qk (replicate n none):=by
 refine ⟨(madeCells zfr (n*4)).toList,?_,by simp [size_madeCells],fun j x hx=>?_⟩
 . unfold Cells
   rw [heap_alloc_new]
 . rw [List.getElem?_replicate] at hx
   split at hx
   . rename_i hj
     obtain rfl:x=none:=(by simpa using hx.symm);rw [sU (by omega),sU (by omega),sU (by omega),sU (by omega)];rw [show j*4 % 4=0 by omega,show (j*4+1) % 4=1 by omega,show (j*4+2) % 4=2 by omega,show (j*4+3) % 4=3 by omega];exact ⟨rfl,rfl,rfl,rfl⟩
   . cases hx
def st0 (m n:Nat) (ls:List (List UInt8)) (r s:Nat):St:=⟨m,ls,r,s,replicate n none,range n⟩
theorem dG {n j:Nat} {f:Fr} (h:(replicate n (none:Option Fr))[j]? =some (some f)):False:=by
 rw [List.getElem?_replicate] at h;split at h<;>simp at h
theorem Hl {m n:Nat} {ls:List (List UInt8)} {r s:Nat} (n1:1<=n) (n2:n<=64) (hm:∀l,l∈ls->l.length=m) (hl:ls.length<=65536):Good (st0 m n ls r s):=
 ⟨by simpa [st0] using n1,by simpa [st0] using n2,fun i j f f' h=>(dG h).elim,fun j f h=>(dG h).elim,fun j f h=>(dG h).elim,fun j=>by
   simp only [st0,List.mem_range,List.length_replicate]
   exact ⟨fun h=>⟨h,fun f hf=>(dG hf).elim⟩,fun h=>h.1⟩,List.nodup_range,⟨[],range n,rfl,fun j h=>(by cases h),fun j h=>by
   simp only [st0,List.getElem?_replicate]
   rw [if_pos (by simpa using h)]⟩,hm,hl⟩
theorem MK (n:Nat):ix (replicate n none)=fun _=>none:=by
 funext b;exact eY fun j f h=>(dG h).elim
theorem Kz (n:Nat):occ (replicate n none)=0:=by
 unfold occ;rw [List.length_eq_zero_iff,List.filterMap_eq_nil_iff];intro x hx;rw [List.eq_of_mem_replicate hx];rfl
theorem Dev.lm {w:World} {S:List Nat} {g m:Nat} {ls:List (List UInt8)} {r s:Nat} (h:Dev w S g m ls r s):∀l,l∈ls->l.length=m:=by
 obtain ⟨⟨b,c,bks,h1,h2⟩,_⟩:=h;exact h1.ll
section
variable {w:World} {S:List Nat} {g m:Nat} {ls:List (List UInt8)} {r s:Nat}
def Qy (w w':World) (S:List Nat) (g:Nat) (st:St) (e:Ending):Prop:=∃p F,e=.returned (.tuple #[(p:Nat),(0:Int)])/\Cw w' F p g st/\Df w S F/\Bw w w'
theorem lg (h:Dev w S g m ls r s) (n:Nat) (n1:1<=n) (n2:n<=64):Calls Tryz.prog 65 #[g,(n:Int)] w fun e w'=>Qy w w' S g (st0 m n ls r s) e:=by
 have cB:=hid (gM h);have h5:=h.n1;have hne:((ls.length:Int)==0)=false:=by simp;intro e;simp [e] at h5
 have HG:=hid (Hl (r:=r) (s:=s) n1 n2 (Dev.lm h) h.n2);generalize (ls.length:Int)=z at*;have H:=hid h;have cN:=hid (Cn.lg n w n1 (by omega));have hmm:= @run_makeMap Tryz.prog;have hmk:=fun w=>pG n n2 w;have HN:=hid (And.intro n1 n2);clear h h5;go_enter Tryz.func65,Tryz.ntmps65
 go_wp2_with (first
  |(go_at_call 32;refine cB.out.mono ?_;rintro e w' ⟨rfl,rfl⟩)
  |(go_at_call 107;refine cN.out.mono ?_;rintro e w1 ⟨⟨ch,cb,rfl,hc,hg1,hg2⟩,hb⟩;have HC:=hid (And.intro hc (And.intro hg1 hg2));have HB:=hid hb;clear hc hb hg1 hg2))
 clear cB cN
 go_loopg [25] n (fun gk iv wr=>∃k:Nat,k<=n/\gk=n-k/\iv= .int .i64 (k:Int)/\Hid (Chn wr ch cb n (range k))/\Hid (Flow.Into [ch,cb] w1 wr))
 case atStart=>exact ⟨0,Nat.zero_le _,rfl,rfl,HC.out.1,Flow.Into.refl _ _⟩
 case round=>
  obtain ⟨k,hk,rfl,rfl,HCk,HIk⟩:=hrel;by_cases hlt:k<n
  . have cBk:=hid (za HCk.out hlt)
    have hw1:IntKind.i64.wrap ((k:Int)+1)=((k+1:Nat):Int):=(by rw [IntKind.wrap_i64];omega);go_wp2_with (go_at_call 108;refine cBk.out.mono ?_;rintro e w2 ⟨z2,rfl,hc,hi⟩;have HC2:=hid hc;have HI2:=hid hi;clear hc hi)
    go_roundg (n-(k+1))
    case measure=>omega
    case rel=>
     refine ⟨k+1,hlt,rfl,by go_num,?_,HIk.out.trans HI2.out⟩;have:=HC2.out;rw [kN (by simp)] at this;unfold Hid;rw [List.range_succ];exact this
  . obtain rfl:k=n:=by omega
    clear hlt;go_wp2_with fail
    have hfw:=Hg k wr fun _=>(0,0);have hA:Bw wr (wr.alloc (.cells (madeCells zfr (k*4)) 131)):=bAx;have hAs:(wr.alloc (.cells (madeCells zfr (k*4)) 131)).heap.size=wr.heap.size+1:=(by simp);generalize wr.alloc (.cells (madeCells zfr (k*4)) 131)=w2 at*;have hM:=MC.made w2;have hB2:Bw w2 (w2.alloc (.map #[] 0)):=bAx;have hBs:(w2.alloc (.map #[] 0)).heap.size=wr.heap.size+1+1:=(by simp [hAs]);rw [hAs] at hM;generalize w2.alloc (.map #[] 0)=w3 at*;have hX:=heap_alloc_new w3 (.cells #[g,.slice (some ⟨wr.heap.size,0,none⟩) k k,.map (some (wr.heap.size+1)),ch] 129);have hC:Bw w3 (w3.alloc (.cells #[g,.slice (some ⟨wr.heap.size,0,none⟩) k k,.map (some (wr.heap.size+1)),ch] 129)):=bAx;rw [hBs] at hX;generalize w3.alloc (.cells #[g,.slice (some ⟨wr.heap.size,0,none⟩) k k,.map (some (wr.heap.size+1)),ch] 129)=w4 at*;have hr4:Bw wr w4:=gu (gu hA hB2 (Nat.le_refl _)) hC (Nat.le_refl _);obtain ⟨-,hg1,hg2⟩:=HC.out
    have hin:∀x,x∈[ch,cb]->w.heap.size<=x:=fun x hx=>by
     simp only [mem_cons,not_mem_nil,or_false] at hx;rcases hx with rfl|rfl
     . exact hg1
     . exact hg2
    have hwr:Bw w wr:=HB.out.trans (kZ HIk.out hin HB.out.size);have hb4:Bw w w4:=gu hwr hr4 (Nat.le_refl _);have hS:=H.out.lt;obtain ⟨l1,l2,l3,-⟩:=HCk.out.lt;have hws:=hwr.size;refine bodyPost_ret (v:= .tuple #[.pointer (some ⟨wr.heap.size+1+1,0,none⟩),(0:Int)]) (by simp [results,Tryz.results65,go_sem]) rfl ⟨wr.heap.size+1+1,[wr.heap.size+1+1,wr.heap.size,wr.heap.size+1,ch,cb]++S,rfl,⟨S,wr.heap.size,wr.heap.size+1,ch,cb,fun _=>(0,0),?_,fun x hx=>List.mem_append_right _ hx,fun x hx=>List.mem_append_left _ hx,fun j x hx=>(dG hx).elim,HG.out,fun x hx=>?_⟩,fun x hx=>?_,hb4⟩
    . refine ⟨?_,(hfw.keep (hB2.block _ (by omega))).keep (hC.block _ (by omega)),fun j x hx=>(dG hx).elim,?_,?_,H.out.kept hb4,?_,fun x hx hm=>?_,fun j x hx=>(dG hx).elim,fun i j x y hx=>(dG hx).elim⟩
      . simp only [st0,List.length_replicate]
        exact hX
      . show MC w4 _ (ix (replicate k none)) (occ (replicate k none))
        rw [MK,Kz];exact hM.keep (hC.block _ (by omega))
      . show Chn w4 ch cb (replicate k none).length (range k)
        rw [List.length_replicate];exact HCk.out.kept hr4
      . simp only [List.nodup_cons,mem_cons,not_mem_nil,or_false,not_or,List.nodup_nil,and_true,not_false_eq_true]
        omega
      . have:=hS x hm
        simp only [mem_cons,not_mem_nil,or_false] at hx;omega
    . have h4s:=hC.size
      rcases List.mem_append.1 hx with hx|hx
      . simp only [mem_cons,not_mem_nil,or_false] at hx
        have:wr.heap.size+1+1<w4.heap.size:=(Array.getElem?_eq_some_iff.1 hX).1;omega
      . have:=hS x hx
        omega
    . rcases List.mem_append.1 hx with hx|hx
      . right
        simp only [mem_cons,not_mem_nil,or_false] at hx;omega
      . exact .inl hx
end
end Ca
end Go.Proofs.YtjpjjnalpdpljaaGreatDoor
namespace Go.Proofs.YtjpjjnalpdpljaaGreatDoor
open Go.RowKit
namespace Ca
section
variable {st t:St}
theorem jL {b j:Nat} {f:Fr} (h:look st.fr b=some (j,f)):bH st b=f.2.2.2:=by unfold bH;rw [h]
theorem pI {b:Nat} (h:look st.fr b=none):bH st b=0:=by unfold bH;rw [h]
theorem qI (h:Good st) (a x:Nat):bH (bJ st a) x=bH st x:=by
 unfold bJ;split
 . rename_i b y p hf
   have hl:=dM (f':=(b,y,false,p)) h.uq hf rfl x;unfold bH;simp only [hl];by_cases e:x=b
   . subst e
     rw [if_pos rfl,gU h.uq hf]
   . rw [if_neg e]
 . rfl
theorem qJ (h:Good st) {a:Nat} {f:Fr} (hf:st.fr[a]? =some (some f)) (hd:f.2.2.2=0) (x:Nat):bH (gF st a) x=bH st x:=by
 have hl:=l5 h.uq hf x;unfold gF bH;simp only [hl];by_cases e:x=f.1
 . subst e
   rw [if_pos rfl,gU h.uq hf];exact hd.symm
 . rw [if_neg e]
theorem vC (h:Good st) {a:Nat} (hr:fV st=some (a,t)) (x:Nat):bH t x=bH st x:=by
 unfold fV at hr;split at hr
 . cases hr
 . rename_i i hi
   have hm:i∈st.row:=List.mem_of_getLast? hi;split at hr
   . rename_i f hf
     simp only [Option.some.injEq,Prod.mk.injEq] at hr;obtain ⟨rfl,rfl⟩:=hr;have h0:=((h.rw i).1 hm).2 f hf;obtain ⟨b,y,d,p⟩:=f;rw [qJ (h.clean _) (nP hf) h0,qI h]
   . simp only [Option.some.injEq,Prod.mk.injEq] at hr
     obtain ⟨rfl,rfl⟩:=hr;rfl
theorem Ee (h:st.row≠[]):∃a t,fV st=some (a,t):=by
 unfold fV;cases e:st.row.getLast? with
 |none=>exact absurd (List.getLast?_eq_none_iff.1 e) h
 |some a=>
  simp only;split
  . exact ⟨_,_,rfl⟩
  . exact ⟨_,_,rfl⟩
theorem Ho (h:Good st) (h3:3<=st.fr.length) {k1 k2:Nat} (hp:∀b,bH st b≠0->b=k1\/b=k2):∃a t,fV st=some (a,t):=by
 refine Ee fun he=>?_
 have each:∀j,j<3->∃f:Fr,st.fr[j]? =some (some f)/\(f.1=k1\/f.1=k2):=fun j hj=>by
  have hn:¬(j<st.fr.length/\∀f:Fr,st.fr[j]? =some (some f)->f.2.2.2=0):=fun hh=>by
   have:=(h.rw j).2 hh;rw [he] at this;cases this
  rw [Classical.not_and_iff_not_or_not] at hn;rcases hn with hn|hn
  . omega
  . rw [Classical.not_forall] at hn
    obtain ⟨f,hf⟩:=hn;rw [Classical.not_imp] at hf;refine ⟨f,hf.1,hp _ ?_⟩;rw [jL (gU h.uq hf.1)];exact hf.2
 obtain ⟨f0,g0,e0⟩:=each 0 (by decide);obtain ⟨f1,g1,e1⟩:=each 1 (by decide);obtain ⟨f2,g2,e2⟩:=each 2 (by decide);have a1:=fun e=>h.uq 0 1 f0 f1 g0 g1 e;have a2:=fun e=>h.uq 0 2 f0 f2 g0 g2 e;have a3:=fun e=>h.uq 1 2 f1 f2 g1 g2 e
 rcases e0 with e0|e0<;>rcases e1 with e1|e1<;>rcases e2 with e2|e2<;>first
  |exact absurd (a1 (by omega)) (by decide)
  |exact absurd (a2 (by omega)) (by decide)
  |exact absurd (a3 (by omega)) (by decide)
theorem MN (h:Good st) {b:Nat} (hb:b<st.ls.length) (hr:∃a t,fV st=some (a,t)):(om st b).1=0/\∀x,bH (om st b).2 x=if x=b then bH st b+1 else bH st x:=by
 unfold om;rw [if_pos hb];cases hl:look st.fr b with
 |some y=>
  obtain ⟨j,f⟩:=y;obtain ⟨hf,rfl⟩:=aH hl;refine ⟨rfl,fun x=>?_⟩;have:=dM (f':=(f.1,f.2.1,f.2.2.1,f.2.2.2+1)) h.uq hf rfl x;rw [jL hl];unfold gB;simp only;unfold bH;simp only [this];by_cases e:x=f.1
  . rw [if_pos e,if_pos e]
  . rw [if_neg e,if_neg e]
 |none=>
  obtain ⟨a,t,hr⟩:=hr;rw [hr];refine ⟨rfl,fun x=>?_⟩;obtain ⟨g1,g2,g3,g4,g5,g6,g7⟩:=fZ h hr;have hn:=bS hl;have:=kP (f:=(b,(t.ls[b]?).getD [],false,1)) g1.uq (aU g2) (fun j g hj e=>absurd e (hn j g (g5 j g hj))) (fun g hg=>by rw [g2] at hg;cases hg) x;rw [pI hl,<-vC h hr x];unfold gB tZ;simp only;unfold bH;simp only [this];by_cases e:x=b
  . rw [if_pos e,if_pos e]
  . rw [if_neg e,if_neg e]
theorem Hq (h:Good st) {b:Nat} (hb:b<st.ls.length) (h0:bH st b=0) (hr:∃a t,fV st=some (a,t)):(eu st b).1=0/\∀x,bH (eu st b).2 x=if x=b then 1 else bH st x:=by
 unfold eu;rw [if_pos hb,if_neg (by omega)];cases hl:look st.fr b with
 |some y=>
  obtain ⟨j,f⟩:=y;obtain ⟨hf,rfl⟩:=aH hl;refine ⟨rfl,fun x=>?_⟩;have:=dM (f':=(f.1,List.replicate st.m 0,true,1)) h.uq hf rfl x;unfold gB;simp only;unfold bH;simp only [this];by_cases e:x=f.1
  . rw [if_pos e,if_pos e]
  . rw [if_neg e,if_neg e]
 |none=>
  obtain ⟨a,t,hr⟩:=hr;rw [hr];refine ⟨rfl,fun x=>?_⟩;obtain ⟨g1,g2,g3,g4,g5,g6,g7⟩:=fZ h hr;have hn:=bS hl;have:=kP (f:=(b,List.replicate st.m 0,true,1)) g1.uq (aU g2) (fun j g hj e=>absurd e (hn j g (g5 j g hj))) (fun g hg=>by rw [g2] at hg;cases hg) x;rw [<-vC h hr x];unfold gB;simp only;unfold bH;simp only [this];by_cases e:x=b
  . rw [if_pos e,if_pos e]
  . rw [if_neg e,if_neg e]
theorem jg {b:Nat} (h0:bH st b≠0):∃j f,look st.fr b=some (j,f)/\f.2.2.2≠0:=by
 cases hl:look st.fr b with
 |none=>exact absurd (pI hl) h0
 |some y=>
  obtain ⟨j,f⟩:=y;rw [jL hl] at h0;exact ⟨j,f,rfl,h0⟩
theorem Hr (h:Good st) {b:Nat} (h0:bH st b≠0):(dV st b).1=0/\∀x,bH (dV st b).2 x=if x=b then bH st b-1 else bH st x:=by
 obtain ⟨j,f,hl,hn⟩:=jg h0;rw [jL hl];unfold dV;rw [hl];simp only;rw [if_neg hn];refine ⟨rfl,fun x=>?_⟩;obtain ⟨hf,rfl⟩:=aH hl;have:=dM (f':=(f.1,f.2.1,f.2.2.1,f.2.2.2-1)) h.uq hf rfl x;simp only;unfold bH;simp only [this];by_cases e:x=f.1
 . rw [if_pos e,if_pos e]
 . rw [if_neg e,if_neg e]
theorem Ht (h:Good st) {b:Nat} {y:List UInt8} (h0:bH st b≠0) (hy:y.length=st.m):(dW st b y).1=0/\∀x,bH (dW st b y).2 x=bH st x:=by
 obtain ⟨j,f,hl,hn⟩:=jg h0;obtain ⟨hf,rfl⟩:=aH hl;unfold dW;rw [hl];simp only;rw [if_neg hn,if_pos (hy.trans (h.blk _ _ hf).2.symm)];refine ⟨rfl,fun x=>?_⟩;have:=dM (f':=(f.1,y,true,f.2.2.2)) h.uq hf rfl x;simp only;unfold bH;simp only [this];by_cases e:x=f.1
 . subst e
   rw [if_pos rfl,hl]
 . rw [if_neg e]
theorem KA (h:Good st) {b:Nat} (h0:bH st b=0):(iR st b).1=0/\(∀x,bH (iR st b).2 x=bH st x)/\∀i,i≠b->cur (iR st b).2 i=cur st i:=by
 unfold iR;rw [if_neg (by omega)];cases hl:look st.fr b with
 |none=>exact ⟨rfl,fun _=>rfl,fun _ _=>rfl⟩
 |some y=>
  obtain ⟨j,f⟩:=y;obtain ⟨hf,rfl⟩:=aH hl;rw [jL hl] at h0;refine ⟨rfl,fun x=>qJ h hf h0 x,fun i hi=>?_⟩;have hk:=l5 h.uq hf i;simp only;unfold gF cur;simp only [hk];rw [if_neg hi]
theorem xw (h:Good st) (b x:Nat):bH (bq st b) x=bH st x:=by
 unfold bq;split
 . exact qI h _ _
 . rfl
theorem xA (l:List Nat):∀{st:St},Good st->∀x,bH (l.foldl bq st) x=bH st x:=by
 induction l with
 |nil=>exact fun _ _=>rfl
 |cons y r ih=>
  intro st h x;rw [List.foldl_cons,ih (h.bq y) x,xw h]
theorem AA (h:Good st) (x:Nat):bH (eZ st) x=bH st x:=xA _ h x
theorem Hu (m n:Nat) (ls:List (List UInt8)) (r s x:Nat):bH (st0 m n ls r s) x=0:=by
 refine pI (dJ fun j f hj=>?_);exact (dG hj).elim
theorem KD (m n:Nat) (ls:List (List UInt8)) (r s x:Nat):cur (st0 m n ls r s) x=(ls[x]?).getD []:=by
 have:look (st0 m n ls r s).fr x=none:=dJ fun j f hj=>(dG hj).elim;rw [qY this];rfl
end
end Ca
end Go.Proofs.YtjpjjnalpdpljaaGreatDoor
namespace Go.Proofs.YtjpjjnalpdpljaaGreatDoor
open Go.RowKit
namespace Ca
open Mem Dv Cn Po
structure Cl (W w:World) (F:List Nat) (p g:Nat) (st:St):Prop where
 cw:Cw w F p g st
 lo:∀x,x∈F->W.heap.size<=x
 bl:Bw W w
section
variable {W w w':World} {F:List Nat} {p g:Nat} {st st':St}
theorem Cl.kept (h:Cl W w F p g st) (hb:Bw w w'):Cl W w' F p g st:=⟨h.cw.kept hb,h.lo,gu h.bl hb (Nat.le_refl _)⟩
theorem Cl.aft (h:Cl W w F p g st) (ha:Aft w w' F p g st'):∃F',Cl W w' F' p g st'/\Df w F F':=by
 obtain ⟨⟨F',h1,h2⟩,h3⟩:=ha;refine ⟨F',⟨h1,fun x hx=>?_,h.bl.trans (kZ h3 h.lo h.bl.size)⟩,h2⟩;rcases h2 x hx with h'|h'
 . exact h.lo x h'
 . exact Nat.le_trans h.bl.size h'
theorem Cl.dev (h:Cl W w F p g st):∃S,Dev w S g st.m st.ls st.r st.s:=by
 obtain ⟨S,fb,mp,ch,cb,qk,h1,_⟩:=h.cw;exact ⟨S,h1.dv⟩
def Did (W w w':World) (F:List Nat) (p g:Nat) (z:Int) (st':St) (e:Ending):Prop:=e=.returned z/\(∃F',Cl W w' F' p g st'/\Df w F F')/\Flow.Into F w w'
theorem Did.of {z:Int} {e:Ending} (h:Cl W w F p g st) (hd:e=.returned z/\Aft w w' F p g st'):Did W w w' F p g z st' e:=⟨hd.1,h.aft hd.2,hd.2.2⟩
theorem RD (h:Cl W w F p g st) (hK:Sm st 1000000) (b:Nat):Calls Tryz.prog 47 #[p,.int .u32 (b:Int)] w fun e w'=>Did W w w' F p g (om st b).1 (om st b).2 e:=(Ru h.cw hK b).mono fun _ _ hd=>Did.of h hd
theorem MO (h:Cl W w F p g st) (hK:Sm st 1000000) (b:Nat):Calls Tryz.prog 114 #[p,.int .u32 (b:Int)] w fun e w'=>Did W w w' F p g (eu st b).1 (eu st b).2 e:=(MG h.cw hK b).mono fun _ _ hd=>Did.of h hd
theorem MP (h:Cl W w F p g st) (hK:Sm st 1000000) {b:Nat} (hb:b<4294967296):Calls Tryz.prog 49 #[p,.int .u32 (b:Int)] w fun e w'=>Did W w w' F p g (dV st b).1 (dV st b).2 e:=(MQ h.cw hK hb).mono fun _ _ hd=>Did.of h hd
theorem MR (h:Cl W w F p g st) {b:Nat} (hb:b<4294967296) {A:Option Addr} {n c:Nat} {y:List UInt8} (hA:BL w A y) (hn:y.length=n):Calls Tryz.prog 113 #[p,.int .u32 (b:Int),.slice A n c] w fun e w'=>Did W w w' F p g (dW st b y).1 (dW st b y).2 e:=by
 subst hn;exact (MU h.cw hb hA).mono fun _ _ hd=>Did.of h hd
theorem Pb (h:Cl W w F p g st) {b:Nat} (hb:b<4294967296):Calls Tryz.prog 75 #[p,.int .u32 (b:Int)] w fun e w'=>Did W w w' F p g (iR st b).1 (iR st b).2 e:=(Pd h.cw hb).mono fun _ _ hd=>Did.of h hd
theorem MV (h:Cl W w F p g st) (hK:Sm st 900000):Calls Tryz.prog 59 #[p] w fun e w'=>Did W w w' F p g 0 (eZ st) e:=(MI h.cw hK).mono fun _ _ hd=>Did.of h hd
theorem Did.same (h:Cl W w F p g st) {z:Int} {e:Ending} (he:e=.returned z) (hb:Bw w w'):Did W w w' F p g z st e:=⟨he,⟨F,h.kept hb,iw w F⟩,Flow.Into.of_below hb⟩
end
end Ca
end Go.Proofs.YtjpjjnalpdpljaaGreatDoor
