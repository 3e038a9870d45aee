import Derived.Test.YtjpjjnalpdpljaaGreatDoorPkAI
import Derived.Test.YtjpjjnalpdpljaaGreatDoorPqPdqQ
import Derived.Test.YtjpjjnalpdpljaaGreatDoorPkAJ
import Derived.Test.YtjpjjnalpdpljaaGreatDoorPqPdqI
import Derived.Test.YtjpjjnalpdpljaaGreatDoorPkAH
import Derived.Test.YtjpjjnalpdpljaaGreatDoorPqCacheAct3
import Derived.Test.YtjpjjnalpdpljaaGreatDoorPkAA
import Derived.Carry
set_option maxHeartbeats 4000000
set_option maxRecDepth 100000
namespace Go.Proofs.YtjpjjnalpdpljaaGreatDoor
open Go.RowKit
namespace Pq
open Mem Hp
structure PQ (w wr:World) (g c n:Nat) (l L:List Nat) (a0 b0 a b:Nat):Prop where
 us:US w wr g c n l L a0 b0
 re:Rest L a0 b0 a b
 bl:Blw L a b
 a0a:a0<=a
 ab:a<=b
 bb0:b<=b0
 b0n:b0<=n
section
variable {w wr w':World} {g c n a0 b0 a b:Nat} {l L L2:List Nat}
theorem PQ.moved (h:PQ w wr g c n l L a0 b0 a b) (k:US wr w' g c n L L2 a b):PQ w w' g c n l L2 a0 b0 a b:=by
 have hb:b<=L.length:=by rw [h.us.len];exact Nat.le_trans h.bb0 h.b0n
 exact ⟨h.us.then_ (k.wide h.a0a h.bb0),h.re.moved k.mv hb h.a0a h.bb0,h.bl.moved k.mv hb,h.a0a,h.ab,h.bb0,h.b0n⟩
theorem PQ.kept (h:PQ w wr g c n l L a0 b0 a b) (hb:Below wr.heap.size wr w'):PQ w w' g c n l L a0 b0 a b:=⟨h.us.kept hb,h.re,h.bl,h.a0a,h.ab,h.bb0,h.b0n⟩
theorem PQ.eq {m pv:Nat} (h:PQ w wr g c n l L a0 b0 a b) (k:US wr w' g c n L L2 a b) (e:EqParted L L2 a b pv m) (ha:0<a) (hp:gt L pv<=gt L (a-1)):PQ w w' g c n l L2 a0 b0 m b:=by
 have h2:=h.moved k
 have hall:∀x,a<=x->x<b->gt L2 a<=gt L2 x:=fun x h3 h4=>by
  have h5:=h2.bl ha x h3 h4
  have h6:=k.mv.out (a-1) (.inl (by omega))
  rw [e.at_]
  omega
 have hmb:=e.mb
 have ham:=e.am
 refine ⟨h2.us,h2.re.same ham hmb e.lo e.hi hall,fun _ x h3 h4=>?_,by have:=h.a0a;omega,hmb,h.bb0,h.b0n⟩
 have h5:=e.lo (m-1) (by omega) (by omega)
 have h6:=e.hi x h3 h4
 omega
theorem PQ.left {m:Nat} {w2:World} {L3:List Nat} (h:PQ w wr g c n l L a0 b0 a b) (p:Parted L a b m) (k:US wr w2 g c n L L3 a m) (ho:Ord2 L3 a m):PQ w w2 g c n l L3 a0 b0 (m+1) b:=by
 have hb:b<=L.length:=by rw [h.us.len];exact Nat.le_trans h.bb0 h.b0n
 have hmb:=p.mb
 have h2:=h.moved (k.wide (Nat.le_refl _) (Nat.le_of_lt hmb))
 have p2:=p.movedL k.mv hb
 exact ⟨h2.us,h2.re.left p2 ho,fun _ x h3 h4=>p2.hi x (by omega) h4,by have:=h.a0a;have:=p.am;omega,by omega,h.bb0,h.b0n⟩
theorem PQ.right {m:Nat} {w2:World} {L3:List Nat} (h:PQ w wr g c n l L a0 b0 a b) (p:Parted L a b m) (k:US wr w2 g c n L L3 (m+1) b) (ho:Ord2 L3 (m+1) b):PQ w w2 g c n l L3 a0 b0 a m:=by
 have hb:b<=L.length:=by rw [h.us.len];exact Nat.le_trans h.bb0 h.b0n
 have ham:=p.am
 have hmb:=p.mb
 have h2:=h.moved (k.wide (by omega) (Nat.le_refl _))
 have p2:=p.movedR k.mv hb
 exact ⟨h2.us,h2.re.right p2 ho,fun h0 x h3 h4=>h2.bl h0 x h3 (by omega),h.a0a,ham,by have:=h.bb0;omega,h.b0n⟩
theorem PQ.blL {m:Nat} (h:PQ w wr g c n l L a0 b0 a b) (p:Parted L a b m):Blw L a m:=fun h0 x h3 h4=>h.bl h0 x h3 (by have:=p.mb;omega)
theorem PQ.blR {m:Nat} (_:PQ w wr g c n l L a0 b0 a b) (p:Parted L a b m):Blw L (m+1) b:=fun _ x h3 h4=>by
 rw [Nat.add_sub_cancel]
 exact p.hi x (by omega) h4
end
def PdqOk (N:Nat):Prop:=∀(w:World) (g c n a b:Nat) (z:Int) (l:List Nat),Ow 25 w g c (l.map nV)->l.length=n->a<=b->b<=n->n<=80->b-a=N->Blw l a b->Calls Tryz.prog 164 #[.slice (some ⟨g,0,none⟩) n c, .int .i64 (a:Int), .int .i64 (b:Int), .int .i64 z] w fun e w'=>e= .returned (.tuple #[])/\∃L,US w w' g c n l L a b/\Ord2 L a b
theorem pdq_step (N:Nat) (ih:∀m,m<N->PdqOk m):PdqOk N:=by
 intro w g c n a0 b0 z0 l h hl hab0 hb0n hn hN hblw
 have H0:Hid (PQ w w g c n l l a0 b0 a0 b0):=⟨US.start h hl a0 b0,Rest.start l a0 b0,hblw,Nat.le_refl _,hab0,Nat.le_refl _,hb0n⟩
 have IH:Hid (∀m,m<N->PdqOk m):=ih
 have HN:=Lib.hid hN
 have hb80:b0<=80:=by omega
 clear h hl hblw ih hN
 go_enter Tryz.func164,Tryz.ntmps164
 go_wp2_with fail
 go_loopg [1,2,3,8,9] (b0-a0) (fun gk av bv zv xv yv wr=>∃(a b:Nat) (z:Int) (x y:Bool) (L:List Nat),gk=b-a/\av= .int .i64 (a:Int)/\bv= .int .i64 (b:Int)/\zv= .int .i64 z/\xv= .bool x/\yv= .bool y/\Hid (PQ w wr g c n l L a0 b0 a b))
 case atStart=>exact ⟨a0,b0,z0,true,true,l,rfl,rfl,rfl,rfl,rfl,rfl,H0⟩
 case round=>
  obtain ⟨a,b,z,x,y,L,rfl,rfl,rfl,rfl,rfl,rfl,HQ⟩:=hrel
  clear H0
  have hq:=HQ.out
  have hab:=hq.ab
  have hbb0:=hq.bb0
  have ha0a:=hq.a0a
  have hbn:b<=n:=Nat.le_trans hbb0 hb0n
  clear hq
  obtain ⟨m0,hm0⟩:∃m,m=b-a:=⟨_,rfl⟩
  have hwl:IntKind.i64.wrap ((b:Int)-(a:Int))=(m0:Int):=by rw [IntKind.wrap_i64];omega
  have HM0:=Lib.hid hm0
  clear hm0
  by_cases h12:m0<=12
  . have cI:=Lib.hid (insertion_any HQ.out.us.ow HQ.out.us.len hab hbn (by omega))
    go_wp2_with (go_at_call 186;refine cI.out.mono ?_;rintro e w2 ⟨rfl,L2,h1,h2⟩)
    exact bodyPost_ret (results_none rfl _ _ _) rfl ⟨rfl,L2,(HQ.out.moved h1).us,(HQ.out.moved h1).re.done h2.ord⟩
  have h12':12<m0:=by omega
  by_cases hz:z=0
  . subst hz
    have cI:=Lib.hid (heapSort_any HQ.out.us.ow HQ.out.us.len hab hbn (by omega))
    go_wp2_with (go_at_call 187;refine cI.out.mono ?_;rintro e w2 ⟨rfl,L2,h1,h2⟩)
    exact bodyPost_ret (results_none rfl _ _ _) rfl ⟨rfl,L2,(HQ.out.moved h1).us,(HQ.out.moved h1).re.done h2.ord⟩
  have hz':(z==0)=false:=by simpa using hz
  have h12a:a+12<b:=by have:=HM0.out;omega
  have hn1000:n<=1000:=by omega
  go_upto_if 35 with fail
  clear hwl hz hz' h12
  go_cut [3] (fun zv wx=>∃(z:Int) (L:List Nat),zv= .int .i64 z/\Hid (PQ w wx g c n l L a0 b0 a b))
  case first=>
   cases x with
   |true=>
    go_wp2_with fail
    go_meet
    exact ⟨z,L,rfl,HQ⟩
   |false=>
    have cI:=Lib.hid (break_any HQ.out.us.ow HQ.out.us.len h12a hbn hn)
    go_wp2_with (go_at_call 188;refine cI.out.mono ?_;rintro e w2 ⟨rfl,L2,h1⟩)
    have HQ2:=Lib.hid (HQ.out.moved h1)
    clear h1 cI HQ
    go_wp2_with fail
    go_meet
    exact ⟨_,L2,rfl,HQ2⟩
  case rest=>
  clear HQ L z
  obtain ⟨z,L,rfl,HQ⟩:=hcut
  have cP:=Lib.hid (choosePivot_any HQ.out.us.ow HQ.out.us.len h12a hbn hn1000)
  go_upto_region 11 with (go_at_call 189;refine cP.out.mono ?_;rintro e w2 ⟨pv,hint,rfl,hh,hp1,hp2,hb2⟩)
  have HQ2:=Lib.hid (HQ.out.kept hb2)
  clear HQ cP hb2
  go_upto_if 50 with fail
  go_cut [11,12] (fun pvv hv wx=>∃(pv:Nat) (hint:Int) (L:List Nat),pvv= .int .i64 (pv:Int)/\hv= .int .i64 hint/\a<=pv/\pv<b/\Hid (hint=0\/hint=1)/\Hid (PQ w wx g c n l L a0 b0 a b))
  case first=>
   by_cases h2:hint=2
   . subst h2
     obtain ⟨b1,hb1⟩:∃b1,b1=b-1:=⟨_,rfl⟩
     obtain ⟨d1,hd1⟩:∃d,d=pv-a:=⟨_,rfl⟩
     obtain ⟨pv2,hpv2⟩:∃p,p=b1-d1:=⟨_,rfl⟩
     have hw1:IntKind.i64.wrap ((b:Int)-1)=(b1:Int):=by rw [IntKind.wrap_i64];omega
     have hw2:IntKind.i64.wrap ((pv:Int)-(a:Int))=(d1:Int):=by rw [IntKind.wrap_i64];omega
     have hw3:IntKind.i64.wrap ((b1:Int)-(d1:Int))=(pv2:Int):=by rw [IntKind.wrap_i64];omega
     have cR:=Lib.hid (reverse_any HQ2.out.us.ow HQ2.out.us.len (show a<b by omega) hbn hn1000)
     have HP3:=Lib.hid (show a<=pv2/\pv2<b by omega)
     clear hb1 hd1 hpv2 hh
     go_wp2_with (go_at_call 190;refine cR.out.mono ?_;rintro e w3 ⟨rfl,L3,h3⟩)
     have HQ3:=Lib.hid (HQ2.out.moved h3)
     clear h3 cR HQ2
     go_wp2_with fail
     go_meet
     exact ⟨pv2,1,L3,rfl,rfl,HP3.out.1,HP3.out.2,Lib.hid (.inr rfl),HQ3⟩
   . have h2':(hint==2)=false:=by simpa using h2
     have HH:Hid (hint=0\/hint=1):=by unfold Hid;omega
     clear hh h2
     go_wp2_with fail
     go_meet
     exact ⟨pv,hint,L,rfl,rfl,hp1,hp2,HH,HQ2⟩
  case rest=>
  clear HQ2 hh hp1 hp2 L
  obtain ⟨pv2,hint2,L,rfl,rfl,hp1,hp2,HH,HQ⟩:=hcut
  obtain ⟨pv,rfl⟩:∃pv,pv=pv2:=⟨_,rfl⟩
  go_upto_region 15 with fail
  go_cut [68] (fun tv wx=>(∃t:Bool,tv= .bool t)/\Hid (PQ w wx g c n l L a0 b0 a b))
  case first=>
   have HQ1:=HQ
   clear HQ
   rcases HH.out with h|h
   . subst h
     cases x with
     |true=>
      cases y with
      |true=>
       go_wp2_with fail
       go_meet
       exact ⟨⟨_,rfl⟩,HQ1⟩
      |false=>
       go_wp2_with fail
       go_meet
       exact ⟨⟨_,rfl⟩,HQ1⟩
     |false=>
      go_wp2_with fail
      go_meet
      exact ⟨⟨_,rfl⟩,HQ1⟩
   . subst h
     cases x with
     |true=>
      cases y with
      |true=>
       go_wp2_with fail
       go_meet
       exact ⟨⟨_,rfl⟩,HQ1⟩
      |false=>
       go_wp2_with fail
       go_meet
       exact ⟨⟨_,rfl⟩,HQ1⟩
     |false=>
      go_wp2_with fail
      go_meet
      exact ⟨⟨_,rfl⟩,HQ1⟩
  case rest=>
  obtain ⟨⟨t1,rfl⟩,HQ'⟩:=hcut
  clear HQ HH
  go_upto_if 68 with fail
  go_cut [11] (fun pvv wx=>∃(L:List Nat),pvv= .int .i64 (pv:Int)/\Hid (PQ w wx g c n l L a0 b0 a b))
  case first=>
   cases t1 with
   |false=>
    go_wp2_with fail
    go_meet
    exact ⟨L,rfl,HQ'⟩
   |true=>
    have cI:=Lib.hid (partial_any HQ'.out.us.ow HQ'.out.us.len h12a hbn hn1000 HQ'.out.bl)
    go_upto_if 72 with (go_at_call 191;refine cI.out.mono ?_;rintro e w2 ⟨t2,L2,rfl,h1,h2⟩)
    have HQ2:=Lib.hid (HQ'.out.moved h1)
    have HT:=Lib.hid h2
    clear h1 h2 cI HQ'
    cases t2 with
    |true=>
     go_wp2_with fail
     exact bodyPost_ret (results_none rfl _ _ _) rfl ⟨rfl,L2,HQ2.out.us,HQ2.out.re.done (HT.out trivial).ord⟩
    |false=>
     go_wp2_with fail
     go_meet
     exact ⟨L2,rfl,HQ2⟩
  case rest=>
  clear HQ' L
  obtain ⟨L,rfl,HQ⟩:=hcut
  go_upto_region 17 with fail
  go_cut [87] (fun tv wx=>∃t:Bool,tv= .bool t/\Hid (t=true->0<a/\gt L pv<=gt L (a-1))/\Hid (PQ w wx g c n l L a0 b0 a b))
  case first=>
   rcases Nat.eq_zero_or_pos a with h0|h0
   . subst h0
     go_quiet (fail)
     have HQ2:=Lib.hid (HQ.out.kept (below_dn _ nq))
     clear HQ
     go_wp2_with fail
     go_meet
     exact ⟨false,rfl,Lib.hid (fun h=>by cases h),HQ2⟩
   . obtain ⟨a1,ha1⟩:∃a1,a1=a-1:=⟨_,rfl⟩
     have hw1:IntKind.i64.wrap ((a:Int)-1)=(a1:Int):=by rw [IntKind.wrap_i64];omega
     have ha1n:a1<n:=by omega
     have hpn:pv<n:=by omega
     have d1:=HQ.out.us.cell ha1n
     have d2:=HQ.out.us.cell hpn
     have HA1:=Lib.hid ha1
     clear ha1
     by_cases hxy:gt L a1<gt L pv
     . have cL:=fun w=>Lib.hid (Less_is (t:=true) (x:=gt L a1) (y:=gt L pv) (by simpa using hxy) w)
       clear hxy
       go_quiet ((go_at_call 192;exact Calls.quiet_of_same ((cL _).out.mono fun e w' ⟨he,hw⟩=>⟨he,hw.symm⟩)))
       have HQ2:=Lib.hid (HQ.out.kept (below_dn _ nq))
       clear HQ d1 d2
       go_wp2_with fail
       go_meet
       exact ⟨false,rfl,Lib.hid (fun h=>by cases h),HQ2⟩
     . have cL:=fun w=>Lib.hid (Less_is (t:=false) (x:=gt L a1) (y:=gt L pv) (by simpa using hxy) w)
       have HX:Hid (0<a/\gt L pv<=gt L (a-1)):=⟨h0,by rw [<-HA1.out];omega⟩
       clear hxy
       go_quiet ((go_at_call 192;exact Calls.quiet_of_same ((cL _).out.mono fun e w' ⟨he,hw⟩=>⟨he,hw.symm⟩)))
       have HQ2:=Lib.hid (HQ.out.kept (below_dn _ nq))
       clear HQ d1 d2
       go_wp2_with fail
       go_meet
       exact ⟨true,rfl,Lib.hid (fun _=>HX.out),HQ2⟩
  case rest=>
  obtain ⟨t,rfl,HT,HQ2⟩:=hcut
  clear HQ
  have HQ:=HQ2
  clear HQ2
  cases t with
  |true=>
   have HT2:Hid (0<a/\gt L pv<=gt L (a-1)):=HT.out rfl
   have cE:=Lib.hid (partEq_any HQ.out.us.ow HQ.out.us.len hp1 hp2 hbn hn1000)
   clear HT
   go_wp2_with (go_at_call 193;refine cE.out.mono ?_;rintro e w2 ⟨m,rfl,L2,h1,h2⟩)
   have HQ3:=Lib.hid (HQ.out.eq h1 h2 HT2.out.1 HT2.out.2)
   have HM:=Lib.hid (show a<m/\m<=b from ⟨h2.am,h2.mb⟩)
   clear h1 h2 cE HQ HT2
   go_wp2_with fail
   go_roundg (b-m)
   case measure=>have:=HM.out;omega
   case rel=>exact ⟨m,b,z,x,y,L2,rfl,rfl,rfl,rfl,rfl,rfl,HQ3⟩
  |false=>
   clear HT
   have cE:=Lib.hid (partition_any HQ.out.us.ow HQ.out.us.len hp1 hp2 hbn hn1000)
   go_upto_region 21 with (go_at_call 194;refine cE.out.mono ?_;rintro e w2 ⟨m,tp,rfl,L2,h1,h2⟩)
   have HQ3:=Lib.hid (HQ.out.moved h1)
   have HPA:=Lib.hid h2
   have ham:=h2.am
   have hmb:=h2.mb
   clear h1 h2 cE HQ
   obtain ⟨ll,hll⟩:∃d,d=m-a:=⟨_,rfl⟩
   obtain ⟨rl,hrl⟩:∃d,d=b-m:=⟨_,rfl⟩
   obtain ⟨th,hth⟩:∃d,d=m0 / 8:=⟨_,rfl⟩
   obtain ⟨m1,hm1⟩:∃d,d=m+1:=⟨_,rfl⟩
   have hw1:IntKind.i64.wrap ((m:Int)-(a:Int))=(ll:Int):=by rw [IntKind.wrap_i64];omega
   have hw2:IntKind.i64.wrap ((b:Int)-(m:Int))=(rl:Int):=by rw [IntKind.wrap_i64];omega
   have hw3:(m0:Int).tdiv 8=(th:Int):=by rw [Int.tdiv_eq_ediv_of_nonneg (by omega)];omega
   have hw4:IntKind.i64.wrap (th:Int)=(th:Int):=by rw [IntKind.wrap_i64];have:=HM0.out;omega
   have hw5:IntKind.i64.wrap ((m:Int)+1)=(m1:Int):=by rw [IntKind.wrap_i64];omega
   have HE:=Lib.hid (show ll=m-a/\rl=b-m/\m1=m+1 from ⟨hll,hrl,hm1⟩)
   clear hll hrl hth hm1
   by_cases hlr:ll<rl
   . have cI:Hid (Calls Tryz.prog 164 #[.slice (some ⟨g,0,none⟩) n c, .int .i64 (a:Int), .int .i64 (m:Int), .int .i64 z] w2 fun e w'=>e= .returned (.tuple #[])/\∃L,US w2 w' g c n L2 L a m/\Ord2 L a m):=IH.out (m-a) (by have:=HN.out;omega) w2 g c n a m z L2 HQ3.out.us.ow HQ3.out.us.len ham (by omega) hn rfl (HQ3.out.blL HPA.out)
     go_wp2_with (go_at_call 164;refine cI.out.mono ?_;rintro e w3 ⟨rfl,L3,h1,h2⟩)
     have HQ4:Hid (PQ w w3 g c n l L3 a0 b0 m1 b):=by
      rw [HE.out.2.2]
      exact HQ3.out.left HPA.out h1 h2
     clear h1 h2 cI HQ3
     go_wp2_with fail
     go_roundg (b-m1)
     case measure=>have:=HE.out;omega
     case rel=>exact ⟨m1,b,z,_,tp,L3,rfl,rfl,rfl,rfl,rfl,rfl,HQ4⟩
   . have hlr':rl<=ll:=by omega
     have cI:Hid (Calls Tryz.prog 164 #[.slice (some ⟨g,0,none⟩) n c, .int .i64 (m1:Int), .int .i64 (b:Int), .int .i64 z] w2 fun e w'=>e= .returned (.tuple #[])/\∃L,US w2 w' g c n L2 L m1 b/\Ord2 L m1 b):=IH.out (b-m1) (by have:=HN.out;have:=HE.out;omega) w2 g c n m1 b z L2 HQ3.out.us.ow HQ3.out.us.len (by have:=HE.out;omega) hbn hn rfl (by rw [HE.out.2.2];exact HQ3.out.blR HPA.out)
     go_wp2_with (go_at_call 164;refine cI.out.mono ?_;rintro e w3 ⟨rfl,L3,h1,h2⟩)
     have HQ4:Hid (PQ w w3 g c n l L3 a0 b0 a m):=by
      rw [HE.out.2.2] at h1 h2
      exact HQ3.out.right HPA.out h1 h2
     clear h1 h2 cI HQ3
     go_wp2_with fail
     go_roundg (m-a)
     case measure=>omega
     case rel=>exact ⟨a,m,z,_,tp,L3,rfl,rfl,rfl,rfl,rfl,rfl,HQ4⟩
theorem pdq_any (N:Nat):PdqOk N:=Nat.strongRecOn N pdq_step
end Pq
end Go.Proofs.YtjpjjnalpdpljaaGreatDoor
namespace Go.Proofs.YtjpjjnalpdpljaaGreatDoor
open Go.RowKit
namespace Pq
open Mem Hp
theorem Sort_any {w:World} {g c n:Nat} {l:List Nat} (h:Ow 25 w g c (l.map nV)) (hl:l.length=n) (h1:1<=n) (hn:n<=80):Calls Tryz.prog 132 #[.slice (some ⟨g,0,none⟩) n c] w fun e w'=>e= .returned (.tuple #[])/\∃L,US w w' g c n l L 0 n/\Ord2 L 0 n:=by
 have cL:=fun w=>Lib.hid (Len_small n h1 hn w)
 have cP:=fun z=>Lib.hid (pdq_any n w g c n 0 n z l h hl (Nat.zero_le _) (Nat.le_refl _) hn rfl (fun h0=>by omega))
 have hw1:IntKind.u64.wrap (n:Int)=(n:Int):=by rw [IntKind.wrap_u64];omega
 clear h hl h1 hn
 go_enter Tryz.func132,Tryz.ntmps132
 go_wp2_with (first
  |(go_at_call 165;refine (cL _).out.mono ?_;rintro e w' ⟨z,rfl,rfl,-,-,-⟩)
  |(go_at_call 164;refine (cP _).out.mono ?_;rintro e w2 ⟨rfl,L,h1,h2⟩))
 go_end0
 exact ⟨rfl,L,h1,h2⟩
end Pq
end Go.Proofs.YtjpjjnalpdpljaaGreatDoor
namespace Go.Proofs.YtjpjjnalpdpljaaGreatDoor
open Go.RowKit
namespace So
open Mem Po
theorem sort_zero {w:World} (c:Nat):Calls Tryz.prog 132 #[.slice none 0 c] w fun e w'=>e= .returned (.tuple #[])/\w=w':=by
 have cL:=fun w=>Lib.hid (Len_small 0 (by decide) w)
 have cI:=fun z=>Lib.hid (pdq_zero (w:=w) c z)
 go_enter Tryz.func132,Tryz.ntmps132
 go_wp2_with (first
  |(go_at_call 165;refine (cL _).out.mono ?_;rintro e w' ⟨z,rfl,rfl⟩)
  |(go_at_call 164;refine (cI _).out.mono ?_;rintro e w' ⟨rfl,rfl⟩))
 go_end0
 exact ⟨rfl,rfl⟩
theorem srt_of_ord2 {L:List Nat} (h:Pq.Ord2 L 0 L.length):Srt L:=by
 unfold Srt
 rw [List.pairwise_iff_getElem]
 intro i j hi hj hij
 have:=h i j (Nat.zero_le _) hij hj
 simpa [Hp.gt,hi,hj] using this
theorem Sort_vo80 {w:World} {B c n:Nat} {A:Option Addr} {l:List Nat} (h:VO 25 w B A c (l.map u32V)) (hl:l.length=n) (hn:n<=80) (hnil:n=0->A=none):
 Calls Tryz.prog 132 #[.slice A n c] w fun e w'=>e= .returned (.tuple #[])/\Sorted w w' A c l B:=by
 by_cases h0:n=0
 . subst h0
   obtain rfl:=hnil rfl
   obtain rfl:l=[]:=List.eq_nil_of_length_eq_zero hl
   refine (sort_zero c).mono fun e w' ⟨he,hw⟩=>⟨he,[],hw▸h,List.Perm.refl _,by simp [Srt],fun T _=>hw▸Flow.Into.refl _ _⟩
 . obtain ⟨g,rfl,hB,ho⟩:=h.ow (by simp;omega)
   refine (Pq.Sort_any ho hl (by omega) hn).mono fun e w' ⟨he,L,hU,hO⟩=>⟨he,L,vo_of_ow hU.ow hB,hU.mv.perm,srt_of_ord2 ?_,fun T hT=>hU.hi.mono fun y hy=>?_⟩
   . rw [hU.len]
     exact hO
   . obtain rfl:y=g:=by simpa using hy
     exact hT _ rfl
end So
end Go.Proofs.YtjpjjnalpdpljaaGreatDoor
namespace Go.Proofs.YtjpjjnalpdpljaaGreatDoor
open Go.RowKit Go.Maps
namespace Ca
open Mem Dv Cn Po So
theorem same_kl (a b:Nat):(kl a).sameKey (kl b)=decide (a=b):=by
 simp only [kl,Lit.sameKey,true_and]
 by_cases h:a=b
 . subst h;simp
 . have:¬(a:Int)=(b:Int):=by omega
   simp [h,this]
structure DR (W wr:World) (st:St) (mp k:Nat) (D:DataW Unit) (left:Lit->Bool) (cnt:Nat) (A:Option Addr) (c:Nat) (L:List Nat):Prop where
 rg:wr.ranges Tryz.prog 25 (plainElem Tryz.prog 3) mp W.heap.size k D left cnt
 vo:VO 25 wr (W.heap.size+1) A c (L.map u32V)
 nd:L.Nodup
 mem:∀b,b∈L↔b<4294967296/\Maps.has D (kl b)=true/\left (kl b)=false/\dirtyP st b=true
 bd:L.length+cnt<=k
 nil:L.length=0->A=none
 bl:Below W.heap.size W wr
section
variable {W wr w1 w3:World} {st:St} {mp k cnt cnt1 c c':Nat} {D:DataW Unit} {left:Lit->Bool} {A A':Option Addr} {L:List Nat} {b:Nat}
theorem DR.lt (h:DR W wr st mp k D left cnt A c L):W.heap.size<wr.heap.size:=h.rg.lt
theorem grown_below {a w w':World} {r B:Nat} (h:Below B a w) (hg:w.grownBy w' (some r)) (hr:B<=r) (hB:B<=w.heap.size):Below B a w':=
 h.trans ⟨hg.os,hg.tape,hg.output,hg.size,fun i hi=>hg.block i (by omega) (by simp;omega)⟩
theorem DR.skip (h:DR W wr st mp k D left cnt A c L) (hb:b<4294967296) (hl:left (kl b)=true) (hr:w1.ranges Tryz.prog 25 (plainElem Tryz.prog 3) mp W.heap.size k D (fun z=>left z&& !z.sameKey (kl b)) cnt1) (hc:cnt1<cnt) (hg:wr.grownBy w1 (some W.heap.size)) (hd:dirtyP st b=false):
 DR W w1 st mp k D (fun z=>left z&& !z.sameKey (kl b)) cnt1 A c L:=by
 refine ⟨hr,h.vo.keep fun a ha=>?_,h.nd,fun x=>?_,by have:=h.bd;omega,h.nil,grown_below h.bl hg (Nat.le_refl _) h.bl.size⟩
 . obtain ⟨g1,g2⟩:=h.vo.at_ a ha
   exact hg.block _ g2 (by simp;omega)
 . rw [h.mem x]
   simp only [same_kl]
   by_cases e:x=b
   . subst e
     simp [hd]
   . simp [e]
theorem DR.more (h:DR W wr st mp k D left cnt A c L) (hb:b<4294967296) (hh:Maps.has D (kl b)=true) (hl:left (kl b)=true) (hr:w1.ranges Tryz.prog 25 (plainElem Tryz.prog 3) mp W.heap.size k D (fun z=>left z&& !z.sameKey (kl b)) cnt1) (hc:cnt1<cnt) (hg:wr.grownBy w1 (some W.heap.size)) (hd:dirtyP st b=true)
 (ha:Appd 25 (W.heap.size+1) (w1.alloc (.cells #[.int .u32 (b:Int)] 25)) w3 A A' c' (L.map u32V++[.int .u32 (b:Int)])):
 DR W w3 st mp k D (fun z=>left z&& !z.sameKey (kl b)) cnt1 A' c' (L++[b]):=by
 have hlt:=h.lt
 have hrlt:=hr.lt
 have hmlt:=hr.owns.lt
 have hs1:w1.heap.size<(w1.alloc (.cells #[.int .u32 (b:Int)] 25)).heap.size:=by simp
 have hb1:Below W.heap.size W w1:=grown_below h.bl hg (Nat.le_refl _) h.bl.size
 have hne:=hr.ne
 have hAr:∀a,A=some a->W.heap.size+1<=a.block:=fun a e=>(h.vo.at_ a e).1
 have hgg:(w1.alloc (.cells #[.int .u32 (b:Int)] 25)).grownBy w3 (A.map (·.block)):=⟨ha.below.os,ha.below.tape,ha.below.output,ha.below.size,fun i hi hn=>ha.block i hi fun a e=>by
  rintro rfl
  exact hn (by rw [e];rfl)⟩
 refine ⟨?_,?_,?_,fun x=>?_,?_,?_,?_⟩
 . refine (hr.alloc _).kept hgg ?_ ?_
   . rintro e
     cases hA:A with
     |none=>rw [hA] at e;cases e
     |some a=>
      rw [hA] at e
      have e1:mp=a.block:=by simpa using e
      have hmw:w1.heap[mp]? =wr.heap[mp]? :=by
       obtain ⟨g1,g2⟩:=h.vo.at_ a hA
       exact hg.block _ (by omega) (by simp;omega)
      obtain ⟨g1,g2⟩:=h.vo.at_ a hA
      obtain ⟨es,clock,hb',_⟩:=h.rg.owns
      obtain ⟨_,h2⟩:=h.vo
      rcases h2 with ⟨h2,_⟩|⟨g',cap',cur,he,_,hh',_⟩
      . rw [hA] at h2;cases h2
      . rw [hA] at he
        obtain ⟨rfl,_⟩:a=⟨g',0,none⟩/\c=cap':=by simpa using he
        have e2:mp=g':=e1
        rw [e2,hh'] at hb'
        cases hb'
   . rintro e
     cases hA:A with
     |none=>rw [hA] at e;cases e
     |some a=>
      rw [hA] at e
      have e1:W.heap.size=a.block:=by simpa using e
      have:=hAr a hA
      omega
 . have:=ha.vo
   rw [List.map_append]
   exact this
 . refine List.nodup_append.2 ⟨h.nd,by simp,fun x hx y hy e=>?_⟩
   obtain rfl:y=b:=by simpa using hy
   subst e
   rw [((h.mem x).1 hx).2.2.1] at hl
   cases hl
 . rw [List.mem_append,h.mem x,List.mem_singleton]
   simp only [same_kl]
   by_cases e:x=b
   . subst e
     simp [hd,hh,hb]
   . simp [e]
 . have:=h.bd
   simp
   omega
 . intro e;simp at e
 . exact (hb1.trans (((Below.refl _ _).alloc (Nat.le_refl _) _).mono hb1.size)).trans (ha.below.mono (Nat.le_succ _))
theorem DR.done (h:DR W wr st mp k D left cnt A c L) (hl:∀z,left z=false) (hW:∀b,b<4294967296->Maps.has D (kl b)=(ix st.fr b).isSome) (hg:Good st):L.Perm (dirtyL st):=by
 refine (List.perm_ext_iff_of_nodup h.nd (List.nodup_range.filter _)).2 fun x=>?_
 rw [h.mem x,List.mem_filter,List.mem_range]
 refine ⟨fun ⟨h1,h2,_,h4⟩=>⟨?_,h4⟩,fun ⟨h1,h2⟩=>⟨?_,?_,hl _,h2⟩⟩
 . rw [hW x h1] at h2
   obtain ⟨j,hj⟩:=Option.isSome_iff_exists.1 h2
   obtain ⟨f,hf,rfl⟩:=ix_some hj
   exact (hg.blk j f hf).1
 . have:=hg.l32;omega
 . rw [hW x (by have:=hg.l32;omega)]
   unfold dirtyP at h2
   unfold ix
   cases e:look st.fr x with
   |none=>rw [e] at h2;cases h2
   |some y=>rfl
end
theorem srt_unique:∀{l l':List Nat},l.Perm l'->Srt l->Srt l'->l=l':=fun hp h h'=>hp.eq_of_pairwise (fun _ _ _ _=>Nat.le_antisymm) h h'
theorem srt_dirty (st:St):Srt (dirtyL st):=by
 unfold Srt dirtyL
 exact (List.pairwise_le_range).filter _
theorem Dirty_w {W:World} {S:List Nat} {p f mp ch cb g:Nat} {qk:Nat->Nat × Nat} {st:St} (h:CwW W S p f mp ch cb g qk st (ix st.fr) (occ st.fr)) (hg:Good st):
 Calls Tryz.prog 95 #[.pointer (some ⟨p,0,none⟩)] W fun e w'=>(∃A c,e= .returned (.slice A (dirtyL st).length c)/\UL w' A (dirtyL st)/\∀a,A=some a->W.heap.size<=a.block)/\Below W.heap.size W w':=by
 have cM:=Lib.hid (isMade_any h)
 obtain ⟨D,hown,hsz,hD⟩:=h.mc.own
 have hW:Hid (∀b,b<4294967296->Maps.has D (kl b)=(ix st.fr b).isSome):=fun b hb=>(hD b hb).2
 have hA:Hid (∀b,b<4294967296->D.atKey (kl b) (el 0)=el ((ix st.fr b).getD 0)):=fun b hb=>(hD b hb).1
 have hk:occ st.fr<=64:=by have:=occ_le st.fr;have:=hg.n2;omega
 have HL:Hid ((dirtyL st).length<=80):=Nat.le_trans (dirty_occ st) (by omega)
 obtain ⟨-,-,c2,-⟩:=h.cells
 generalize occ st.fr=k at*
 have HH:=Lib.hid h
 have HG:=Lib.hid hg
 have HO:=Lib.hid hown
 have HZ:=Lib.hid hsz
 have HK:=Lib.hid hk
 clear h hg hown hsz hD hk
 go_enter Tryz.func95,Tryz.ntmps95
 go_wp2_with (first
  |(go_at_call 94;refine cM.out.mono ?_;rintro e w' ⟨rfl,rfl⟩)
  |(at_range;refine wpList_range_own _ rfl _ 126 rfl 25 3 keyed Tryz.underlying126 _ mp k _ rfl HO.out ?_;intro w0 hrg0 hg0 hs0))
 go_frame
 have H0:Hid (DR W w0 st mp k D (Maps.has D) (Maps.size D) none 0 []):=by
  refine ⟨hrg0,VO.nil _ _ _,List.nodup_nil,fun b=>?_,by rw [HZ.out];simp,fun _=>rfl,⟨hg0.os,hg0.tape,hg0.output,hg0.size,fun i hi=>hg0.block i hi (by simp)⟩⟩
  simp
  intro _ e
  simp [e]
 clear hrg0 hg0 hs0 c2
 go_loopg [3] (Maps.size D) (fun gk bv wr=>∃(left:Lit->Bool) (A:Option Addr) (m c:Nat) (L:List Nat),bv= .slice A m c/\Hid (L.length=m)/\Hid (DR W wr st mp k D left gk A c L))
 case atStart=>exact ⟨_,none,0,0,[],rfl,rfl,H0⟩
 case round=>
  obtain ⟨left,A,m,c,L,rfl,HLN,HR⟩:=hrel
  clear H0
  go_upto_region 5 with fail
  go_upto_region 6 with (at_next;refine wpList_next_ranges_ii _ rfl _ rfl 25 3 .u32 .i64 keyed Tryz.underlying25 Tryz.underlying3 mp W.heap.size k _ _ _ rfl HR.out.rg ?_ ?_)
  . intro h0 hl0
    have HP:=Lib.hid (HR.out.done hl0 hW.out HG.out)
    have hm:m<=80:=by
     have:=HP.out.length_eq
     rw [HLN.out] at this
     rw [this];exact HL.out
    have cS:=Lib.hid (Sort_vo80 HR.out.vo HLN.out hm (fun e=>HR.out.nil (HLN.out.trans e)))
    have HB:=Lib.hid HR.out.bl
    have HLT:=Lib.hid HR.out.lt
    have HAT:=Lib.hid HR.out.vo.at_
    clear HR hl0 h0
    go_wp2_with (go_at_call 132;refine cS.out.mono ?_;rintro e w2 ⟨rfl,L',hv,hp,hs,hi⟩)
    have e1:L'=dirtyL st:=srt_unique (hp.trans HP.out) hs (srt_dirty st)
    subst e1
    have e2:m=(dirtyL st).length:=by rw [<-HLN.out];exact HP.out.length_eq
    rw [e2]
    go_ret
    refine ⟨⟨A,c,rfl,UL.of_vo hv,fun a ha=>Nat.le_of_succ_le (hv.at_ a ha).1⟩,?_⟩
    have hi2:=hi (match A with|some a=>[a.block]|none=>[]) (fun a ha=>by subst ha;simp)
    refine HB.out.trans ⟨hi2.os,hi2.tape,hi2.output,hi2.size,fun i hi'=>hi2.block i (Nat.lt_trans hi' HLT.out) fun hm=>?_⟩
    cases A with
    |none=>cases hm
    |some a=>
     obtain rfl:i=a.block:=by simpa using hm
     have:=(HAT.out a rfl).1
     omega
  . intro x z w1 cnt1 hwx hwz hlx hat hrg1 hlt hg1 hs1 hen
    obtain ⟨b,rfl,hb⟩:∃b:Nat,x=(b:Int)/\b<4294967296:=by
     have h1:IntKind.u32.min=0:=rfl
     have h2:IntKind.u32.max=4294967295:=rfl
     simp only [Lit.wf,Bool.and_eq_true,decide_eq_true_eq] at hwx
     exact ⟨x.toNat,by omega,by omega⟩
    have hh:Maps.has D (kl b)=true:=Maps.has_true_of_atKey hat
    have hix:=hW.out b hb
    rw [hh] at hix
    obtain ⟨j,hj⟩:=Option.isSome_iff_exists.1 hix.symm
    have hz:=hA.out b hb
    rw [hj] at hz
    have hz2:=(hat (el 0)).symm.trans hz
    obtain rfl:z=(j:Int):=by simpa [el] using hz2
    obtain ⟨f,hf,hfb⟩:=ix_some hj
    subst hfb
    have hlk:=look_at HG.out.uq hf
    obtain ⟨b,y,d,n⟩:=f
    have hd:dirtyP st b=d:=by
     unfold dirtyP
     simp only at hlk
     rw [hlk]
    have h1:=HH.out.kept (grown_below HR.out.bl hg1 (Nat.le_refl _) HR.out.bl.size)
    obtain ⟨-,c1,-,-⟩:=h1.cells
    obtain ⟨-,-,d2,-⟩:=h1.fw.cell hf
    simp only [f2] at d2
    have hjl:=lt_of_get hf
    obtain ⟨N,hN⟩:∃N,N=st.fr.length:=⟨_,rfl⟩
    rw [<-hN] at c1 hjl
    have HB:=Lib.hid (And.intro hb (And.intro hh hlx))
    have HR1:=Lib.hid (And.intro hrg1 (And.intro hlt hg1))
    have HD:=Lib.hid hd
    clear hwx hwz hlx hat hrg1 hlt hg1 hs1 hh hix hj hz hz2 hf hlk hd h1 hN
    cases d with
    |false=>
     have hnew:=Lib.hid (HR.out.skip HB.out.1 HB.out.2.2 HR1.out.1 HR1.out.2.1 HR1.out.2.2 HD.out)
     have hlt:=HR1.out.2.1
     clear HR HR1 HB
     go_wp2_with fail
     go_roundg cnt1
     case measure=>omega
     case rel=>exact ⟨_,A,m,c,L,rfl,HLN,hnew⟩
    |true=>
     have HX:Hid (Below w1.heap.size w1 (w1.alloc (.cells #[.int .u32 (b:Int)] 25))):=(Below.refl _ _).alloc (Nat.le_refl _) _
     have hcl:Hid ((w1.alloc (.cells #[.int .u32 (b:Int)] 25)).cell? ⟨w1.heap.size,0,none⟩=some (.int .u32 (b:Int))):=by unfold Hid;simp
     simp only at HB HR1 hen
     have HVO:Hid (VO 25 (w1.alloc (.cells #[.int .u32 (b:Int)] 25)) (W.heap.size+1) A c (L.map u32V)):=by
      have hv1:VO 25 w1 (W.heap.size+1) A c (L.map u32V):=HR.out.vo.keep fun a ha=>by
       obtain ⟨g1,g2⟩:=HR.out.vo.at_ a ha
       exact HR1.out.2.2.block _ g2 (by simp;omega)
      exact hv1.kept HX.out
     have HM2:Hid ((L.map u32V).length=m):=by unfold Hid;rw [List.length_map,HLN.out]
     have hm65:m+1<=1048576:=by have:=HR.out.bd;have:=HLN.out;have:=HK.out;omega
     have hBx:W.heap.size+1<=(w1.alloc (.cells #[.int .u32 (b:Int)] 25)).heap.size:=by
      have h1:=HR.out.lt
      have h2:=HR1.out.2.2.size
      have h3:=HX.out.size
      omega
     go_wp2_with (with_reducible refine wpList_append_one rfl (.tmp 27) (.tmp 29) _ rfl 25 Tryz.underlying38 (.int .u32 0) 4 u32info rfl (by omega) (W.heap.size+1) A m c (L.map u32V) rfl HM2.out HVO.out w1.heap.size 1 (.int .u32 (b:Int)) rfl hcl.out rfl hm65 hBx ?_;intro A' c' w3 hd3)
     have hnew:=Lib.hid (HR.out.more HB.out.1 HB.out.2.1 HB.out.2.2 HR1.out.1 HR1.out.2.1 HR1.out.2.2 HD.out hd3.out)
     have hlt:=HR1.out.2.1
     have HLN':Hid ((L++[b]).length=m+1):=by unfold Hid;rw [List.length_append,HLN.out];rfl
     clear HR HR1 HB
     go_roundg cnt1
     case measure=>omega
     case rel=>exact ⟨_,A',m+1,c',L++[b],rfl,HLN',hnew⟩
theorem CDirty {w:World} {F:List Nat} {p g:Nat} {st:St} (h:Cw w F p g st):Calls Tryz.prog 95 #[.pointer (some ⟨p,0,none⟩)] w fun e w'=>(∃A c,e= .returned (.slice A (dirtyL st).length c)/\UL w' A (dirtyL st)/\∀a,A=some a->w.heap.size<=a.block)/\Below w.heap.size w w':=by
 obtain ⟨S,fb,mp,ch,cb,qk,h1,h2,h3,h4,h5,h6⟩:=h
 exact Dirty_w h1 h5
end Ca
end Go.Proofs.YtjpjjnalpdpljaaGreatDoor
namespace Go.Proofs.YtjpjjnalpdpljaaGreatDoor
open Go.RowKit
namespace Ca
open Mem Dv Cn Po So
section
variable {st:St}
theorem cleanB_at {b j:Nat} {f:Fr} (h:look st.fr b=some (j,f)):cleanB st b=cleanT st j:=by unfold cleanB;rw [h]
theorem ix_clean (h:Good st) (a:Nat):ix (cleanT st a).fr=ix st.fr:=by
 unfold cleanT
 split
 . rename_i hf
   exact ix_mark h.uq hf
 . rfl
theorem ix_cleanB (h:Good st) (b:Nat):ix (cleanB st b).fr=ix st.fr:=by
 unfold cleanB
 split
 . exact ix_clean h _
 . rfl
theorem cleans_facts (l:List Nat):∀{st:St},Good st->ix (l.foldl cleanB st).fr=ix st.fr/\(l.foldl cleanB st).s<=st.s+l.length/\(l.foldl cleanB st).r=st.r/\(l.foldl cleanB st).m=st.m/\(l.foldl cleanB st).ls.length=st.ls.length/\(l.foldl cleanB st).row=st.row:=by
 induction l with
 |nil=>intro st _;simp
 |cons x r ih=>
  intro st h
  obtain ⟨h1,h2,h3,h4,h5,h6⟩:=ih (h.cleanB x)
  have hs:(cleanB st x).s<=st.s+1/\(cleanB st x).r=st.r/\(cleanB st x).m=st.m/\(cleanB st x).ls.length=st.ls.length/\(cleanB st x).row=st.row:=by
   unfold cleanB
   split
   . obtain ⟨c1,c2,c3,c4,c5,c6⟩:=clean_spec st ‹_›
     exact ⟨c4,c3,c1,c2,c5⟩
   . simp
  refine ⟨h1.trans (ix_cleanB h x),?_,h3.trans hs.2.1,h4.trans hs.2.2.1,h5.trans hs.2.2.2.1,h6.trans hs.2.2.2.2⟩
  simp only [List.foldl_cons,List.length_cons]
  omega
theorem CFlush {W:World} {F:List Nat} {p g:Nat} (h:Cw W F p g st) (hK:Sm st 900000):Calls Tryz.prog 59 #[.pointer (some ⟨p,0,none⟩)] W fun e w'=>e= .returned (.int .i64 0)/\Aft W w' F p g (flushT st):=by
 have cM:=Lib.hid (CisMade h)
 have cD:=Lib.hid (CDirty h)
 have HH:=Lib.hid h
 have HG:=Lib.hid h.good
 have HK:=Lib.hid hK.s
 obtain ⟨R,hR⟩:∃R,R=dirtyL st:=⟨_,rfl⟩
 have hR12:R.length<=64:=by
  rw [hR]
  have h1:=dirty_occ st
  have h2:=occ_le st.fr
  have h3:=HG.out.n2
  omega
 have HRW:=Lib.hid hR
 rw [<-hR] at cD
 obtain ⟨N,hN⟩:∃N,N=R.length:=⟨_,rfl⟩
 have HN:=Lib.hid hN
 rw [<-hN] at cD hR12
 clear h hK hR hN
 go_enter Tryz.func59,Tryz.ntmps59
 go_wp2_with (first
  |(go_at_call 94;refine cM.out.mono ?_;rintro e w' ⟨rfl,rfl⟩)
  |(go_at_call 95;refine cD.out.mono ?_;rintro e w1 ⟨⟨IA,ic,rfl,hul,hfr⟩,hb1⟩;have HUL:=Lib.hid hul;have HFR:=Lib.hid hfr;have HB1:=Lib.hid hb1;clear hul hfr hb1))
 clear cM cD
 go_loopg [11] N (fun gk iv wr=>∃k:Nat,k<=N/\gk=N-k/\iv= .int .i64 (k:Int)/\Hid (Aft w1 wr F p g ((R.take k).foldl cleanB st)))
 case atStart=>exact ⟨0,Nat.zero_le _,rfl,rfl,Aft.same (HH.out.kept HB1.out) (Below.refl _ _)⟩
 case round=>
  obtain ⟨k,hk,rfl,rfl,HA⟩:=hrel
  by_cases hlt:k<N
  . have hkR:k<R.length:=by rw [<-HN.out];exact hlt
    obtain ⟨b,hb⟩:∃b,b=R[k]:=⟨_,rfl⟩
    have hiF:=HA.out.2
    obtain ⟨⟨F1,h1,hg1⟩,hi1⟩:=HA.out
    have hulr:UL wr IA R:=fun h0=>by
     obtain ⟨q,rfl,hq,hc⟩:=HUL.out h0
     refine ⟨q,rfl,Nat.lt_of_lt_of_le hq hi1.size,fun i hi=>?_⟩
     rw [<-hc i hi]
     refine World.cell?_of_block (w:=w1) (a:=⟨q,i,none⟩) (hi1.block q hq fun hm=>?_)
     have h1:=HFR.out _ rfl
     have h2:=HH.out.lt q hm
     simp only at h1
     omega
    obtain ⟨q,hIA,-,hic0⟩:=hulr (by omega)
    have hic:=hic0 k hkR
    rw [<-hb] at hic
    have hmem:b∈dirtyL st:=by rw [<-HRW.out,hb];exact List.getElem_mem hkR
    obtain ⟨c1,c2,c3,c4,c5,c6⟩:=cleans_facts (R.take k) HG.out
    have hbl:b<st.ls.length/\dirtyP st b=true:=by
     unfold dirtyL at hmem
     rw [List.mem_filter,List.mem_range] at hmem
     exact hmem
    have hb2:b<4294967296:=by have:=HG.out.l32;omega
    obtain ⟨j,hj⟩:∃j,ix st.fr b=some j:=by
     have:=hbl.2
     unfold dirtyP at this
     unfold ix
     cases e:look st.fr b with
     |none=>rw [e] at this;cases this
     |some y=>exact ⟨_,rfl⟩
    have hjk:=hj
    rw [<-c1] at hjk
    obtain ⟨f,hf,hfb⟩:=ix_some hjk
    have hlk:look ((R.take k).foldl cleanB st).fr b=some (j,f):=by rw [<-hfb];exact look_at h1.good.uq hf
    have hstep:(R.take (k+1)).foldl cleanB st=cleanT ((R.take k).foldl cleanB st) j:=by
     rw [List.take_succ_eq_append_getElem hkR,List.foldl_append,<-hb]
     exact cleanB_at hlk
    have hs:((R.take k).foldl cleanB st).s<=1000000:=by
     have:=HK.out
     have:(R.take k).length<=64:=by rw [List.length_take];omega
     omega
    have cC:=Lib.hid (Cclean h1 hf hs)
    have hw1:IntKind.i64.wrap ((k:Int)+1)=((k+1:Nat):Int):=by rw [IntKind.wrap_i64];omega
    have HST:=Lib.hid hstep
    obtain ⟨S,fb,mp,ch,cb,qk,hcw,_⟩:=h1
    obtain ⟨-,-,m2,-⟩:=hcw.cells
    have hq:=hcw.mc.look hb2
    rw [hjk] at hq
    simp only [Option.getD_some] at hq
    have HG1:=Lib.hid (And.intro hg1 hi1)
    subst hIA
    clear hic0 hb hiF hg1 hi1 hulr hmem c1 c2 c3 c4 c5 c6 hbl hj hjk hf hfb hlk hstep hs hcw HA
    generalize (R.take k).foldl cleanB st=stk at*
    go_wp2_with (go_at_call 96;refine cC.out.mono ?_;rintro e w2 ⟨rfl,ha⟩;have HA2:=Lib.hid ha;clear ha)
    go_roundg (N-(k+1))
    case measure=>omega
    case rel=>
     refine ⟨k+1,hlt,rfl,by go_num,?_⟩
     unfold Hid
     rw [HST.out]
     obtain ⟨⟨F2,k1,k2⟩,k3⟩:=HA2.out
     refine ⟨⟨F2,k1,fun x hx=>?_⟩,into_more HG1.out.2 k3 HG1.out.1⟩
     rcases k2 x hx with h'|h'
     . exact HG1.out.1 x h'
     . exact .inr (Nat.le_trans HG1.out.2.size h')
  . obtain rfl:k=N:=by omega
    have e:(R.take k).foldl cleanB st=flushT st:=by rw [List.take_of_length_le (by rw [<-HN.out];exact Nat.le_refl _),HRW.out];rfl
    have HA2:=HA.out
    rw [e] at HA2
    go_wp2_with fail
    go_ret
    exact ⟨rfl,Aft.behind HB1.out HA2⟩
end
end Ca
end Go.Proofs.YtjpjjnalpdpljaaGreatDoor
namespace Go.Proofs.YtjpjjnalpdpljaaGreatDoor
open Go.RowKit
namespace Ca
open Mem Dv Cn
theorem frinfo:(Tryz.prog.info? 131).map (fun i=>(i.zero,i.size,i.bytes))=some (some (.agg #[.int .u32 0, .slice none 0 0, .bool false, .int .i64 0]),4,48):=by kernel_rfl
def zfr:Array Value:= #[.int .u32 0, .slice none 0 0, .bool false, .int .i64 0]
theorem run_make_frames (n:Nat) (hn:n<=64) (w:World):
 (Instr.makeSlice 125 (.int .i64 (n:Int)) (.int .i64 (n:Int))).run Tryz.prog w= .ok (.slice (some ⟨w.heap.size,0,none⟩) n n) (w.alloc (.cells (madeCells zfr (n*4)) 131)):=by
 obtain ⟨i,hi,hz,hs,hb⟩:=info_parts frinfo
 have hr:=run_make (P:=Tryz.prog) w _ _ i _ Tryz.underlying125 hi hz .i64 .i64 n n (by omega) (by omega) (by rw [hb];omega) (by omega)
 rw [hr,hs]
 simp only [Int.toNat_natCast]
 rfl
theorem made_at {n i:Nat} (h:i<n):(madeCells zfr n).toList[i]? =some (zfr[i % 4]!):=by
 simp [madeCells,h,zfr]
theorem frw_made (n:Nat) (w:World) (qk:Nat->Nat × Nat):FrW (w.alloc (.cells (madeCells zfr (n*4)) 131)) w.heap.size qk (List.replicate n none):=by
 refine ⟨(madeCells zfr (n*4)).toList,?_,by simp [size_madeCells],fun j x hx=>?_⟩
 . unfold Cells
   rw [heap_alloc_new]
 . rw [List.getElem?_replicate] at hx
   split at hx
   . rename_i hj
     obtain rfl:x=none:=by simpa using hx.symm
     rw [made_at (by omega),made_at (by omega),made_at (by omega),made_at (by omega)]
     rw [show j*4 % 4=0 by omega,show (j*4+1) % 4=1 by omega,show (j*4+2) % 4=2 by omega,show (j*4+3) % 4=3 by omega]
     exact ⟨rfl,rfl,rfl,rfl⟩
   . cases hx
def st0 (m n:Nat) (ls:List (List UInt8)) (r s:Nat):St:=⟨m,ls,r,s,List.replicate n none,List.range n⟩
theorem repl_none {n j:Nat} {f:Fr} (h:(List.replicate n (none:Option Fr))[j]? =some (some f)):False:=by
 rw [List.getElem?_replicate] at h
 split at h<;>simp at h
theorem good_new {m n:Nat} {ls:List (List UInt8)} {r s:Nat} (n1:1<=n) (n2:n<=64) (hm:∀l,l∈ls->l.length=m) (hl:ls.length<=65536):Good (st0 m n ls r s):=
 ⟨by simpa [st0] using n1,by simpa [st0] using n2,fun i j f f' h=>(repl_none h).elim,fun j f h=>(repl_none h).elim,fun j f h=>(repl_none h).elim,fun j=>by
   simp only [st0,List.mem_range,List.length_replicate]
   exact ⟨fun h=>⟨h,fun f hf=>(repl_none hf).elim⟩,fun h=>h.1⟩,List.nodup_range,⟨[],List.range n,rfl,fun j h=>(by cases h),fun j h=>by
   simp only [st0,List.getElem?_replicate]
   rw [if_pos (by simpa using h)]⟩,hm,hl⟩
theorem ix_new (n:Nat):ix (List.replicate n none)=fun _=>none:=by
 funext b
 exact ix_none_of fun j f h=>(repl_none h).elim
theorem occ_new (n:Nat):occ (List.replicate n none)=0:=by
 unfold occ
 rw [List.length_eq_zero_iff,List.filterMap_eq_nil_iff]
 intro x hx
 rw [List.eq_of_mem_replicate hx];rfl
theorem Dev.lm {w:World} {S:List Nat} {g m:Nat} {ls:List (List UInt8)} {r s:Nat} (h:Dev w S g m ls r s):∀l,l∈ls->l.length=m:=by
 obtain ⟨⟨b,c,bks,h1,h2⟩,_⟩:=h
 exact h1.ll
theorem Blocks_nil (w:World):Calls Tryz.prog 32 #[.pointer none] w fun e w'=>e= .returned (.int .i64 0)/\w=w':=by
 go_enter Tryz.func32,Tryz.ntmps32
 go_wp2
 go_ret
 exact ⟨rfl,rfl⟩
theorem New_nil (w:World) (n:Int):Calls Tryz.prog 65 #[.pointer none, .int .i64 n] w fun e w'=>e= .returned (.tuple #[.pointer none, .int .i64 1])/\w=w':=by
 have cB:=Lib.hid (Blocks_nil w)
 go_enter Tryz.func65,Tryz.ntmps65
 go_wp2_with (go_at_call 32;refine cB.out.mono ?_;rintro e w' ⟨rfl,rfl⟩)
 exact bodyPost_ret (v:= .tuple #[.pointer none, .int .i64 1]) (by simp [results,Tryz.results65,go_sem]) rfl ⟨rfl,rfl⟩
section
variable {w:World} {S:List Nat} {g m:Nat} {ls:List (List UInt8)} {r s:Nat}
def NewC (w w':World) (S:List Nat) (g:Nat) (st:St) (e:Ending):Prop:=∃p F,e= .returned (.tuple #[.pointer (some ⟨p,0,none⟩), .int .i64 0])/\Cw w' F p g st/\Grew w S F/\Below w.heap.size w w'
theorem New_in (h:Dev w S g m ls r s) (n:Nat) (n1:1<=n) (n2:n<=64):Calls Tryz.prog 65 #[.pointer (some ⟨g,0,none⟩), .int .i64 (n:Int)] w fun e w'=>NewC w w' S g (st0 m n ls r s) e:=by
 have cB:=Lib.hid (Blocks_any h)
 have h5:=h.n1
 have hne:((ls.length:Int)==0)=false:=by simp;intro e;simp [e] at h5
 have HG:=Lib.hid (good_new (r:=r) (s:=s) n1 n2 (Dev.lm h) h.n2)
 generalize (ls.length:Int)=z at*
 have H:=Lib.hid h
 have cN:=Lib.hid (Cn.New_in n w n1 (by omega))
 have hmm:= @run_makeMap Tryz.prog
 have hmk:=fun w=>run_make_frames n n2 w
 have HN:=Lib.hid (And.intro n1 n2)
 clear h h5
 go_enter Tryz.func65,Tryz.ntmps65
 go_wp2_with (first
  |(go_at_call 32;refine cB.out.mono ?_;rintro e w' ⟨rfl,rfl⟩)
  |(go_at_call 107;refine cN.out.mono ?_;rintro e w1 ⟨⟨ch,cb,rfl,hc,hg1,hg2⟩,hb⟩;have HC:=Lib.hid (And.intro hc (And.intro hg1 hg2));have HB:=Lib.hid hb;clear hc hb hg1 hg2))
 clear cB cN
 go_loopg [25] n (fun gk iv wr=>∃k:Nat,k<=n/\gk=n-k/\iv= .int .i64 (k:Int)/\Hid (Chn wr ch cb n (List.range k))/\Hid (Flow.Into [ch,cb] w1 wr))
 case atStart=>exact ⟨0,Nat.zero_le _,rfl,rfl,HC.out.1,Flow.Into.refl _ _⟩
 case round=>
  obtain ⟨k,hk,rfl,rfl,HCk,HIk⟩:=hrel
  by_cases hlt:k<n
  . have cBk:=Lib.hid (Back_any HCk.out hlt)
    have hw1:IntKind.i64.wrap ((k:Int)+1)=((k+1:Nat):Int):=by rw [IntKind.wrap_i64];omega
    go_wp2_with (go_at_call 108;refine cBk.out.mono ?_;rintro e w2 ⟨z2,rfl,hc,hi⟩;have HC2:=Lib.hid hc;have HI2:=Lib.hid hi;clear hc hi)
    go_roundg (n-(k+1))
    case measure=>omega
    case rel=>
     refine ⟨k+1,hlt,rfl,by go_num,?_,HIk.out.trans HI2.out⟩
     have:=HC2.out
     rw [del_none (by simp)] at this
     unfold Hid
     rw [List.range_succ]
     exact this
  . obtain rfl:k=n:=by omega
    clear hlt
    go_wp2_with fail
    have hfw:=frw_made k wr fun _=>(0,0)
    have hA:Below wr.heap.size wr (wr.alloc (.cells (madeCells zfr (k*4)) 131)):=(Below.refl _ _).alloc (Nat.le_refl _) _
    have hAs:(wr.alloc (.cells (madeCells zfr (k*4)) 131)).heap.size=wr.heap.size+1:=by simp
    generalize wr.alloc (.cells (madeCells zfr (k*4)) 131)=w2 at*
    have hM:=MC.made w2
    have hB2:Below w2.heap.size w2 (w2.alloc (.map #[] 0)):=(Below.refl _ _).alloc (Nat.le_refl _) _
    have hBs:(w2.alloc (.map #[] 0)).heap.size=wr.heap.size+1+1:=by simp [hAs]
    rw [hAs] at hM
    generalize w2.alloc (.map #[] 0)=w3 at*
    have hX:=heap_alloc_new w3 (.cells #[.pointer (some ⟨g,0,none⟩), .slice (some ⟨wr.heap.size,0,none⟩) k k, .map (some (wr.heap.size+1)), .pointer (some ⟨ch,0,none⟩)] 129)
    have hC:Below w3.heap.size w3 (w3.alloc (.cells #[.pointer (some ⟨g,0,none⟩), .slice (some ⟨wr.heap.size,0,none⟩) k k, .map (some (wr.heap.size+1)), .pointer (some ⟨ch,0,none⟩)] 129)):=(Below.refl _ _).alloc (Nat.le_refl _) _
    rw [hBs] at hX
    generalize w3.alloc (.cells #[.pointer (some ⟨g,0,none⟩), .slice (some ⟨wr.heap.size,0,none⟩) k k, .map (some (wr.heap.size+1)), .pointer (some ⟨ch,0,none⟩)] 129)=w4 at*
    have hr4:Below wr.heap.size wr w4:=below_all (below_all hA hB2 (Nat.le_refl _)) hC (Nat.le_refl _)
    obtain ⟨-,hg1,hg2⟩:=HC.out
    have hin:∀x,x∈[ch,cb]->w.heap.size<=x:=fun x hx=>by
     simp only [List.mem_cons,List.not_mem_nil,or_false] at hx
     rcases hx with rfl|rfl
     . exact hg1
     . exact hg2
    have hwr:Below w.heap.size w wr:=HB.out.trans (below_of_into HIk.out hin HB.out.size)
    have hb4:Below w.heap.size w w4:=below_all hwr hr4 (Nat.le_refl _)
    have hS:=H.out.lt
    obtain ⟨l1,l2,l3,-⟩:=HCk.out.lt
    have hws:=hwr.size
    refine bodyPost_ret (v:= .tuple #[.pointer (some ⟨wr.heap.size+1+1,0,none⟩), .int .i64 0]) (by simp [results,Tryz.results65,go_sem]) rfl ⟨wr.heap.size+1+1,[wr.heap.size+1+1,wr.heap.size,wr.heap.size+1,ch,cb]++S,rfl,⟨S,wr.heap.size,wr.heap.size+1,ch,cb,fun _=>(0,0),?_,fun x hx=>List.mem_append_right _ hx,fun x hx=>List.mem_append_left _ hx,fun j x hx=>(repl_none hx).elim,HG.out,fun x hx=>?_⟩,fun x hx=>?_,hb4⟩
    . refine ⟨?_,(hfw.keep (hB2.block _ (by omega))).keep (hC.block _ (by omega)),fun j x hx=>(repl_none hx).elim,?_,?_,H.out.kept hb4,?_,fun x hx hm=>?_,fun j x hx=>(repl_none hx).elim,fun i j x y hx=>(repl_none hx).elim⟩
      . simp only [st0,List.length_replicate]
        exact hX
      . show MC w4 _ (ix (List.replicate k none)) (occ (List.replicate k none))
        rw [ix_new,occ_new]
        exact hM.keep (hC.block _ (by omega))
      . show Chn w4 ch cb (List.replicate k none).length (List.range k)
        rw [List.length_replicate]
        exact HCk.out.kept hr4
      . simp only [List.nodup_cons,List.mem_cons,List.not_mem_nil,or_false,not_or,List.nodup_nil,and_true,not_false_eq_true]
        omega
      . have:=hS x hm
        simp only [List.mem_cons,List.not_mem_nil,or_false] at hx
        omega
    . have h4s:=hC.size
      rcases List.mem_append.1 hx with hx|hx
      . simp only [List.mem_cons,List.not_mem_nil,or_false] at hx
        have:wr.heap.size+1+1<w4.heap.size:=(Array.getElem?_eq_some_iff.1 hX).1
        omega
      . have:=hS x hx
        omega
    . rcases List.mem_append.1 hx with hx|hx
      . right
        simp only [List.mem_cons,List.not_mem_nil,or_false] at hx
        omega
      . exact .inl hx
end
end Ca
end Go.Proofs.YtjpjjnalpdpljaaGreatDoor
