import Derived.Test.YtjpjjnalpdpljaaGreatDoorPkAH
set_option maxHeartbeats 4000000
set_option maxRecDepth 100000
namespace Go.Proofs.YtjpjjnalpdpljaaGreatDoor
open Go.RowKit
open Go.Lib (hid)
open ah (dL)
open ah.aS (cell)
open IntKind (wrap_i64)
namespace Pq
open Mem Hp
structure Peq (p:Nat) (l:List Nat) (a b i j:Nat):Prop extends Pe l a b i j where
 at_:gt l a=p
section
variable {l:List Nat} {p a b i j:Nat}
theorem Peq.up (h:Peq p l a b i j) (hij:i<=j) (hx:gt l i<=gt l a):Peq p l a b (i+1) j:=⟨h.toPe.up hij hx,h.at_⟩
theorem Peq.down (h:Peq p l a b i (j+1)) (hij:i<=j+1) (hx:gt l a<gt l (j+1)):Peq p l a b i j:=⟨h.toPe.down hij hx,h.at_⟩
theorem Peq.swap (h:Peq p l a b i (j+1)) (hij:i<=j+1) (hb:b<=l.length) (hx:¬gt l i<=gt l a) (hy:¬gt l a<gt l (j+1)):Peq p (Hp.swp l i (j+1)) a b (i+1) j:=⟨h.toPe.swap hij hb hx hy,by
 have h1:=h.ai;have h2:=h.jb;rw [jA (by omega) (by omega),if_neg (by omega),if_neg (by omega)]
 exact h.at_⟩
end
structure sG (l L:List Nat) (a b pv m:Nat):Prop where
 am:a<m
 mb:m<=b
 at_:gt L a=gt l pv
 lo:∀k,a<=k->k<m->gt L k<=gt L a
 hi:∀k,m<=k->k<b->gt L a<gt L k
theorem Ao {w:World} {g c n a b pv:Nat} {l:List Nat} (h:Ow 25 w g c (l.map nV)) (hl:l.length=n) (hap:a<=pv) (OZ:pv<b) (hbn:b<=n) (hn:n<=1000):Calls Tryz.prog 193 #[.slice (some ⟨g,0,none⟩) n c,(a:Int),(b:Int),(pv:Int)] w fun e w'=>∃(m:Nat),e=.returned (m:Int)/\∃L,US w w' g c n l L a b/\sG l L a b pv m:=by
 have hab:a<b:=by omega
 have han:a<n:=by omega
 obtain ⟨b1,hb1⟩:∃b1,b=b1+1:=⟨b-1,by omega⟩
 have HS:Hid (US w w g c n l l a b):=US.start h hl a b;have hpn:=han;have hqn:pv<n:=by omega
 have hpa:=Nat.le_refl a;have hpb:=hab;have hqa:=hap;have hqb:=OZ;have HB:=hid hb1;obtain ⟨L,hL⟩:∃L,L=l:=⟨_,rfl⟩
 obtain ⟨p,hp⟩:∃p,p=gt l pv:=⟨_,rfl⟩
 have HPE:Hid (gt l pv=p):=hp.symm
 have HPP:Hid (gt (swp L a pv) a=p):=by
  unfold Hid;rw [hL,jA (by omega) (by omega),hp];by_cases e:a=pv
  . rw [if_pos e,e]
  . rw [if_neg e,if_pos rfl]
 have HS1:Hid (US w w g c n l L a b):=by rw [hL];exact HS.out
 clear h hl hb1 HS hL hp;have HS:=HS1;clear HS1;go_enter Tryz.func193,Tryz.ntmps193
 go_upto_region 1 with fail
 go_cut [11] (fun sv wx=>sv=(.slice (some ⟨g,0,none⟩) n c)/\(∃L,Hid (US w wx g c n l L a b)/\Hid (gt L a=p)))
 case first=>
  by_cases hpq:a=pv
  . subst hpq
    go_upto_region 1 with fail
    have x0:=fun t:ah.aS [] w []=>cell (HS.out.cell hpn) (by simp) t;have x1:=fun t:ah.aS [] w []=>cell (HS.out.cell hpn) (by simp) t;refine ah.aB [] [(0,[]),(1,[]),(2,[]),(3,[]),(4,[]),(5,[]),(6,[]),(7,[]),(8,[]),(9,[]),(10,[]),(11,[]),(12,[])] [] [] [2,3] (by kernel_rfl) (by kernel_rfl) (by simp) ?_;simp only [ah.pick,ah.aO,dL]
    repeat (refine ah.ak (fun K hK=>?_);go_simp;(refine hK _ ?_;clear hK K))
    refine ah.ay rfl (.slice (some ⟨g,0,none⟩) n c) (fun W=>by go_simp) ?_;refine ah.ay rfl (.int .i64 (a:Int)) (fun W=>by go_simp) ?_
    repeat (refine ah.ak (fun K hK=>?_);go_simp;(refine hK _ ?_;clear hK K))
    refine ah.walk_nil ?_;intro w6 hb6 _;clear x0 x1;have h6:=HS.out.kept hb6;have f:=h6.free;have e1:=h6.cell hpn;have e2:=h6.cell hpn;have H7:=hid (h6.swap hbn hpa hpb hpa hpb);clear h6 hb6 HS;simp only [lC,List.drop_zero,Nat.zero_add,Nat.reduceAdd];go_wp2_with fail
    (try rw [Flow.aP]);clear e1 e2 f;generalize (w6.setCell ⟨g,a,none⟩ (.int .u32 ((gt L a:Nat):Int))).setCell ⟨g,a,none⟩ (.int .u32 ((gt L a:Nat):Int))=w7 at*;(try go_wp2_with fail);go_meet
    exact ⟨rfl,_,H7,HPP⟩
  . have hne:a≠pv:=hpq
    have hne':pv≠a:=fun e=>hpq e.symm;go_upto_region 1 with fail
    have x0:=fun t:ah.aS [] w []=>cell (HS.out.cell hpn) (by simp) t;have x1:=fun t:ah.aS [] w []=>cell (HS.out.cell hqn) (by simp) t;refine ah.aB [] [(0,[]),(1,[]),(2,[]),(3,[]),(4,[]),(5,[]),(6,[]),(7,[]),(8,[]),(9,[]),(10,[]),(11,[]),(12,[])] [] [] [2,3] (by kernel_rfl) (by kernel_rfl) (by simp) ?_;simp only [ah.pick,ah.aO,dL]
    repeat (refine ah.ak (fun K hK=>?_);go_simp;(refine hK _ ?_;clear hK K))
    refine ah.ay rfl (.slice (some ⟨g,0,none⟩) n c) (fun W=>by go_simp) ?_;refine ah.ay rfl (.int .i64 (pv:Int)) (fun W=>by go_simp) ?_
    repeat (refine ah.ak (fun K hK=>?_);go_simp;(refine hK _ ?_;clear hK K))
    refine ah.walk_nil ?_;intro w6 hb6 _;clear x0 x1;have h6:=HS.out.kept hb6;have f:=h6.free;have e1:=h6.cell hpn;have e2:=h6.cell hqn;have H7:=hid (h6.swap hbn hpa hpb hqa hqb);clear h6 hb6 HS;simp only [lC,List.drop_zero,Nat.zero_add,Nat.reduceAdd];go_wp2_with fail
    (try rw [Flow.aP]);clear e1 e2 f;generalize (w6.setCell ⟨g,a,none⟩ (.int .u32 ((gt L pv:Nat):Int))).setCell ⟨g,pv,none⟩ (.int .u32 ((gt L a:Nat):Int))=w7 at*;(try go_wp2_with fail);go_meet
    exact ⟨rfl,_,H7,HPP⟩
 case rest=>
 obtain ⟨-,HC⟩:=hcut;clear HS HPP L;obtain ⟨L,HS,HPP⟩:=HC;obtain ⟨i,hi⟩:∃i,i=a+1:=⟨_,rfl⟩
 obtain ⟨j,hj⟩:∃j,j=b1:=⟨_,rfl⟩
 have hwi:IntKind.i64.wrap ((a:Int)+1)=(i:Int):=by rw [wrap_i64];omega
 have hwj:IntKind.i64.wrap ((b:Int)-1)=(j:Int):=by rw [wrap_i64];have:=HB.out;omega
 have HP:Hid (Peq p L a b i j):=by
  have:=HB.out;exact ⟨⟨by omega,by omega,by omega,fun k h1 h2=>by rw [show k=a by omega];exact Nat.le_refl _,fun k h1 h2=>by omega⟩,HPP.out⟩
 have hin:i<=n:=by omega
 clear hi hj HB hpn hqn hpa hpb hqa hqb HPP;go_upto_block 0 with fail
 clear hwi hwj
 go_cut [9] (fun iv wx=>∃(i j:Nat) (L:List Nat),iv= .int .i64 (i:Int)/\Hid (j<i)/\Hid (US w wx g c n l L a b)/\Hid (Peq p L a b i j))
 case first=>
  go_wp2_with fail
  go_loopg [9,10] (j+1-i) (fun gk iv jv wr=>∃(i j:Nat) (L:List Nat),gk=j+1-i/\iv= .int .i64 (i:Int)/\jv= .int .i64 (j:Int)/\i<=n/\Hid (US w wr g c n l L a b)/\Hid (Peq p L a b i j))
  case atStart=>exact ⟨i,j,_,rfl,rfl,rfl,hin,HS,HP⟩
  case round=>
   clear HS HP hin;obtain ⟨i0,j0,L0,rfl,rfl,rfl,hin,HS,HP⟩:=hrel;obtain ⟨i,rfl⟩:∃i,i=i0:=⟨_,rfl⟩
   obtain ⟨j,rfl⟩:∃j,j=j0:=⟨_,rfl⟩
   obtain ⟨L,rfl⟩:∃L,L=L0:=⟨_,rfl⟩
   obtain ⟨mm,hmm⟩:∃m,m=j+1-i:=⟨_,rfl⟩
   have HM:Hid (j+1-i<=mm):=(by unfold Hid;omega);have HMM:=hid hmm;clear hmm;obtain ⟨io,hio⟩:∃io,io=i:=⟨_,rfl⟩
   have hile:io<=i:=(by omega);have HMo:Hid (j+1-io<=mm):=(by rw [hio];exact HM.out);clear HM;clear hio;go_upto_block 2 with fail
   go_cut [9] (fun iv wx=>∃i:Nat,iv= .int .i64 (i:Int)/\io<=i/\i<=n/\Hid (US w wx g c n l L a b)/\Hid (Peq p L a b i j)/\Hid (i<=j->¬gt L i<=gt L a))
   case first=>
    have HS0:=HS;have HP0:=HP;clear HS HP;go_wp2_with fail
    go_loopg [9] (j+1-i) (fun gk iv wr=>∃i:Nat,gk=j+1-i/\iv= .int .i64 (i:Int)/\io<=i/\i<=n/\Hid (US w wr g c n l L a b)/\Hid (Peq p L a b i j))
    case atStart=>exact ⟨i,rfl,rfl,hile,hin,HS0,HP0⟩
    case round=>
     obtain ⟨i2,rfl,rfl,uN,hin2,HS,HP⟩:=hrel;clear HS0 HP0 hin hile;obtain ⟨i,rfl⟩:∃i,i=i2:=⟨_,rfl⟩
     obtain ⟨wx,rfl⟩:∃wx:World,wx=wr:=⟨_,rfl⟩
     by_cases hij:i<=j
     . have hjn:j<n:=by have:=HP.out.jb;omega
       have hilt:i<n:=(by omega);have hw1:IntKind.i64.wrap ((i:Int)+1)=((i+1:Nat):Int):=(by rw [wrap_i64];omega);have d1:=HS.out.cell hilt;have d2:=HS.out.cell han;by_cases hxy:gt L a<gt L i
       .
        have cL:=fun w=>hid (bP (t:=true) (x:=gt L a) (y:=gt L i) (by simpa using hxy) w);(have HX:Hid (i<=j->¬gt L i<=gt L a):=fun _=>by omega);clear hxy;go_upto_region 3 with fail
        go_quiet ((go_at_call 192;exact Calls.quiet_of_same ((cL _).out.mono fun e w' ⟨he,hw⟩=>⟨he,hw.symm⟩)))
        have HSq:=hid (HS.out.drew nq);clear HS d1 d2;go_wp2_with fail
        go_meet
        exact ⟨i,rfl,by omega,by omega,HSq,HP,HX⟩
       .
        have cL:=fun w=>hid (bP (t:=false) (x:=gt L a) (y:=gt L i) (by simpa using hxy) w);have HP2:=hid (HP.out.up hij (by omega));clear hxy HP;go_upto_region 3 with fail
        go_quiet ((go_at_call 192;exact Calls.quiet_of_same ((cL _).out.mono fun e w' ⟨he,hw⟩=>⟨he,hw.symm⟩)))
        have HSq:=hid (HS.out.drew nq);clear HS d1 d2;go_wp2_with fail
        go_roundg (j+1-(i+1))
        case measure=>omega
        case rel=>exact ⟨i+1,rfl,by go_num,by omega,by omega,HSq,HP2⟩
     . have HX:Hid (i<=j->¬gt L i<=gt L a):=fun h=>absurd h hij
       have hij':j<i:=(by omega);go_upto_region 3 with fail
       go_quiet (fail)
       have HSq:=hid (HS.out.drew nq);clear HS;go_wp2_with fail
       go_meet
       exact ⟨i,rfl,by omega,by omega,HSq,HP,HX⟩
   case rest=>
   obtain ⟨i2,rfl,uN,hin2,HS2,HP2,HIX⟩:=hcut;have HM:Hid (j+1-i2<=mm):=(by have:=HMo.out;unfold Hid;omega);clear HMo;clear HS HP hin hile uN;obtain ⟨i,rfl⟩:∃i,i=i2:=⟨_,rfl⟩
   have HS:=HS2;have HP:=HP2;have hin:=hin2;clear HS2 HP2 hin2;obtain ⟨jo,hjo⟩:∃jo,jo=j:=⟨_,rfl⟩
   have I4:Hid (∀j',j'<=jo->i<=j'->¬gt L i<=gt L a):=fun j' h1 h2=>HIX.out (by omega);have hjle:j<=jo:=(by omega);have HMo:Hid (jo+1-i<=mm):=(by rw [hjo];exact HM.out);clear HM;clear hjo HIX;go_upto_block 4 with fail
   go_cut [10] (fun jv wx=>∃j:Nat,jv= .int .i64 (j:Int)/\j<=jo/\Hid (US w wx g c n l L a b)/\Hid (Peq p L a b i j)/\Hid (i<=j->¬gt L a<gt L j))
   case first=>
    have HS0:=HS;have HP0:=HP;clear HS HP;go_wp2_with fail
    go_loopg [10] (j+1-i) (fun gk jv wr=>∃j:Nat,gk=j+1-i/\jv= .int .i64 (j:Int)/\j<=jo/\Hid (US w wr g c n l L a b)/\Hid (Peq p L a b i j))
    case atStart=>exact ⟨j,rfl,rfl,hjle,HS0,HP0⟩
    case round=>
     obtain ⟨j2,rfl,rfl,jJ,HS,HP⟩:=hrel;clear HS0 HP0 hjle;obtain ⟨j,rfl⟩:∃j,j=j2:=⟨_,rfl⟩
     obtain ⟨wx,rfl⟩:∃wx:World,wx=wr:=⟨_,rfl⟩
     by_cases hij:i<=j
     . have hjn:j<n:=by have:=HP.out.jb;omega
       obtain ⟨j1,hj1⟩:∃j1,j=j1+1:=⟨j-1,by have:=HP.out.ai;omega⟩
       have HJ:=hid hj1;have hw1:IntKind.i64.wrap ((j:Int)-1)=(j1:Int):=(by rw [wrap_i64];omega);have d1:=HS.out.cell hjn;have d2:=HS.out.cell han;clear hj1;by_cases hxy:gt L a<gt L j
       .
        have cL:=fun w=>hid (bP (t:=true) (x:=gt L a) (y:=gt L j) (by simpa using hxy) w)
        have HP2:Hid (Peq p L a b i j1):=by
         have h1:=HP.out;rw [HJ.out] at h1;exact h1.down (by have:=HJ.out;omega) (by rw [<-HJ.out];exact hxy)
        clear hxy HP;go_upto_region 5 with fail
        go_quiet ((go_at_call 192;exact Calls.quiet_of_same ((cL _).out.mono fun e w' ⟨he,hw⟩=>⟨he,hw.symm⟩)))
        have HSq:=hid (HS.out.drew nq);clear HS d1 d2;go_wp2_with fail
        go_roundg (j1+1-i)
        case measure=>have:=HJ.out;omega
        case rel=>exact ⟨j1,rfl,rfl,by have:=HJ.out;omega,HSq,HP2⟩
       .
        have cL:=fun w=>hid (bP (t:=false) (x:=gt L a) (y:=gt L j) (by simpa using hxy) w);(have HX:Hid (i<=j->¬gt L a<gt L j):=fun _=>by omega);clear hxy;go_upto_region 5 with fail
        go_quiet ((go_at_call 192;exact Calls.quiet_of_same ((cL _).out.mono fun e w' ⟨he,hw⟩=>⟨he,hw.symm⟩)))
        have HSq:=hid (HS.out.drew nq);clear HS d1 d2;go_wp2_with fail
        go_meet
        exact ⟨j,rfl,jJ,HSq,HP,HX⟩
     . have HX:Hid (i<=j->¬gt L a<gt L j):=fun h=>absurd h hij
       have hij':j<i:=(by omega);go_upto_region 5 with fail
       go_quiet (fail)
       have HSq:=hid (HS.out.drew nq);clear HS;go_wp2_with fail
       go_meet
       exact ⟨j,rfl,jJ,HSq,HP,HX⟩
   case rest=>
   obtain ⟨j2,rfl,jJ,HS2,HP2,HJX⟩:=hcut;have HIX:Hid (i<=j2->¬gt L i<=gt L a):=fun h=>I4.out j2 jJ h;have HM:Hid (j2+1-i<=mm):=(by have:=HMo.out;unfold Hid;omega);clear HMo;clear HS HP I4 hjle jJ;obtain ⟨j,rfl⟩:∃j,j=j2:=⟨_,rfl⟩
   have HS:=HS2;have HP:=HP2;clear HS2 HP2;by_cases hgt:j<i
   . have HG:=hid hgt
     clear HIX HJX hgt;go_wp2_with fail
     go_meet
     exact ⟨i,j,L,rfl,HG,HS,HP⟩
   . go_upto_region 8 with fail
     have hij2:i<=j:=(by omega);have hx1:=HIX.out hij2;have hx2:=HJX.out hij2;obtain ⟨j1,hj1⟩:∃j1,j=j1+1:=⟨j-1,by have:=HP.out.ai;omega⟩
     have HPN:Hid (Peq p (swp L i j) a b (i+1) j1):=by
      have h1:=HP.out;rw [hj1] at h1 hx2 ⊢;exact h1.swap (by omega) (by rw [HS.out.len];exact hbn) hx1 hx2
     have hne:i≠j:=fun e=>by
      rw [e] at hx1;omega
     have hne':j≠i:=fun e=>hne e.symm;have hjb:j<b:=HP.out.jb;have hjn:j<n:=(by omega);have hia:a<=i:=(by have:=HP.out.ai;omega);have hilt:i<n:=(by omega);have hib:i<b:=(by omega);have hja:a<=j:=(by omega);have hw1:IntKind.i64.wrap ((i:Int)+1)=((i+1:Nat):Int):=(by rw [wrap_i64];omega);have hw2:IntKind.i64.wrap ((j:Int)-1)=(j1:Int):=(by rw [wrap_i64];omega);have HJ:=hid hj1;have HLE:=hid hij2;clear hx1 hx2 hj1 HIX HJX HP hij2 hgt;go_upto_region 8 with fail
     have x0:=fun t:ah.aS [] wc []=>cell (HS.out.cell hilt) (by simp) t;have x1:=fun t:ah.aS [] wc []=>cell (HS.out.cell hjn) (by simp) t;refine ah.aB [] [(0,[]),(1,[]),(2,[]),(3,[]),(4,[]),(5,[]),(6,[]),(7,[]),(8,[]),(9,[]),(10,[]),(11,[]),(12,[])] [] [] [2,3] (by kernel_rfl) (by kernel_rfl) (by simp) ?_;simp only [ah.pick,ah.aO,dL]
     repeat (refine ah.ak (fun K hK=>?_);go_simp;(refine hK _ ?_;clear hK K))
     refine ah.ay rfl (.slice (some ⟨g,0,none⟩) n c) (fun W=>by go_simp) ?_;refine ah.ay rfl (.int .i64 (j:Int)) (fun W=>by go_simp) ?_
     repeat (refine ah.ak (fun K hK=>?_);go_simp;(refine hK _ ?_;clear hK K))
     refine ah.walk_nil ?_;intro w6 hb6 _;clear x0 x1;have h6:=HS.out.kept hb6;have f:=h6.free;have e1:=h6.cell hilt;have e2:=h6.cell hjn;have H7:=hid (h6.swap hbn hia hib hja hjb);clear h6 hb6 HS;simp only [lC,List.drop_zero,Nat.zero_add,Nat.reduceAdd];go_wp2_with fail
     rw [Flow.aP];clear e1 e2 f;generalize (w6.setCell ⟨g,i,none⟩ (.int .u32 ((gt L j:Nat):Int))).setCell ⟨g,j,none⟩ (.int .u32 ((gt L i:Nat):Int))=w7 at*;go_wp2_with fail
     go_roundg (j1+1-(i+1))
     case measure=>have:=HJ.out;have:=HLE.out;have:=HM.out;have:=HMM.out;omega
     case rel=>exact ⟨i+1,j1,_,rfl,by go_num,rfl,by omega,H7,HPN⟩
 case rest=>
 clear HS HP;obtain ⟨i0,j0,L0,rfl,HG,HS,HP⟩:=hcut
 have HE:Hid (sG l L0 a b pv i0):=by
  have h1:=HP.out;have h2:=HG.out;have h3:=h1.ij;have h4:=h1.jb;exact ⟨h1.ai,by omega,by rw [h1.at_];exact HPE.out.symm,h1.lo,fun k h5 h6=>h1.hi k (by omega) h6⟩
 go_wp2_with fail
 go_ret
 exact ⟨i0,rfl,L0,HS.out,HE.out⟩
end Pq
end Go.Proofs.YtjpjjnalpdpljaaGreatDoor
set_option maxHeartbeats 4000000
set_option maxRecDepth 100000
namespace Go.Proofs.YtjpjjnalpdpljaaGreatDoor
open Go.RowKit
open Go.Lib (hid)
open IntKind (wrap_i64)
namespace Pq
open Mem Hp
theorem wU {w:World} {g c n a b:Nat} {l:List Nat} (h:Ow 25 w g c (l.map nV)) (hl:l.length=n) (hab:a<b) (hbn:b<=n) (hn:n<=1000):Calls Tryz.prog 190 #[.slice (some ⟨g,0,none⟩) n c,(a:Int),(b:Int)] w fun e w'=>e=.returned (.tuple #[])/\∃L,US w w' g c n l L a b:=by
 have H0:=hid (US.start h hl a b);obtain ⟨b1,hb1⟩:∃b1,b=b1+1:=⟨b-1,by omega⟩
 have hw0:IntKind.i64.wrap ((b:Int)-1)=(b1:Int):=by rw [wrap_i64];omega
 have hbb:b1<b:=by omega
 clear h hl hb1;go_enter Tryz.func190,Tryz.ntmps190
 go_upto_block 0 with fail
 clear hw0;go_wp2_with fail
 go_loopg [6,7] (b1+1-a) (fun gk iv jv wr=>∃(i j:Nat) (L:List Nat),gk=j+1-i/\iv= .int .i64 (i:Int)/\jv= .int .i64 (j:Int)/\a<=i/\j<b/\Hid (US w wr g c n l L a b))
 case atStart=>exact ⟨a,b1,l,rfl,rfl,rfl,Nat.le_refl _,hbb,H0⟩
 case round=>
  obtain ⟨i,j,L,rfl,rfl,rfl,hia,hjb,HS⟩:=hrel;clear H0 hbb;obtain ⟨wx,rfl⟩:∃wx:World,wx=wr:=⟨_,rfl⟩
  by_cases hij:i<j
  . obtain ⟨j1,hj1⟩:∃j1,j=j1+1:=⟨j-1,by omega⟩
    have hin:i<n:=(by omega);have hjn:j<n:=(by omega);have hib:i<b:=(by omega);have hja:a<=j:=(by omega);have hne:i≠j:=(by omega);have hne':j≠i:=(by omega);have hw1:IntKind.i64.wrap ((i:Int)+1)=((i+1:Nat):Int):=(by rw [wrap_i64];omega);have hw2:IntKind.i64.wrap ((j:Int)-1)=(j1:Int):=(by rw [wrap_i64];omega);have HJ:=hid hj1;clear hj1;go_upto_region 3 with fail
    have x0:=fun t:ah.aS [] wx []=>ah.aS.cell (HS.out.cell hin) (by simp) t;have x1:=fun t:ah.aS [] wx []=>ah.aS.cell (HS.out.cell hjn) (by simp) t;refine ah.aB [] [(0,[]),(1,[]),(2,[]),(3,[]),(4,[]),(5,[]),(6,[]),(7,[]),(8,[]),(9,[]),(10,[]),(11,[]),(12,[])] [] [] [2,3] (by kernel_rfl) (by kernel_rfl) (by simp) ?_;simp only [ah.pick,ah.aO,ah.dL]
    repeat (refine ah.ak (fun K hK=>?_);go_simp;(refine hK _ ?_;clear hK K))
    refine ah.ay rfl (.slice (some ⟨g,0,none⟩) n c) (fun W=>by go_simp) ?_;refine ah.ay rfl (.int .i64 (j:Int)) (fun W=>by go_simp) ?_
    repeat (refine ah.ak (fun K hK=>?_);go_simp;(refine hK _ ?_;clear hK K))
    refine ah.walk_nil ?_;intro w6 hb6 _;clear x0 x1;have h6:=HS.out.kept hb6;have f:=h6.free;have e1:=h6.cell hin;have e2:=h6.cell hjn;have H7:=hid (h6.swap hbn hia hib hja hjb);clear h6 hb6 HS;simp only [lC,List.drop_zero,Nat.zero_add,Nat.reduceAdd];go_wp2_with fail
    rw [Flow.aP];clear e1 e2 f;generalize (w6.setCell ⟨g,i,none⟩ (.int .u32 ((gt L j:Nat):Int))).setCell ⟨g,j,none⟩ (.int .u32 ((gt L i:Nat):Int))=w7 at*;go_wp2_with fail
    go_roundg (j1+1-(i+1))
    case measure=>have:=HJ.out;omega
    case rel=>exact ⟨i+1,j1,_,rfl,by go_num,rfl,by omega,by have:=HJ.out;omega,H7⟩
  . have hij':j<=i:=by omega
    go_wp2_with fail
    go_end0
    exact ⟨rfl,L,HS.out⟩
structure MS (W w:World) (g c n s:Nat) (L:List Nat):Prop where
 ow:Ow 25 w g c (L.map nV)
 le:L.length=n
 box:∃z:Int,w.heap[s]? =some (.cells #[z] 3 (0,0))
 ne:g≠s
 hi:Flow.Into [s] W w
section
variable {W w w':World} {g c n s i:Nat} {L:List Nat}
theorem MS.kept (h:MS W w g c n s L) (hb:Bw w w'):MS W w' g c n s L:=by
 obtain ⟨z,hz⟩:=h.box;exact ⟨h.ow.kept hb,h.le,⟨z,(hb.block s (Array.getElem?_eq_some_iff.1 hz).1).trans hz⟩,h.ne,h.hi.trans (Flow.Into.of_below hb)⟩
theorem MS.cell (h:MS W w g c n s L) (hi:i<n):w.cell? ⟨g,i,none⟩=some (.int .u32 ((gt L i:Nat):Int)):=(US.start h.ow h.le 0 0).cell hi
theorem MS.set (h:MS W w g c n s L) (z:Int):MS W (w.setCell ⟨s,0,none⟩ z) g c n s L:=by
 obtain ⟨y,hy⟩:=h.box;refine ⟨h.ow.keep (Below.heap_setCell _ _ _ _ h.ne),h.le,⟨z,?_⟩,h.ne,h.hi.trans ⟨rfl,rfl,rfl,by simp [World.setCell],fun i _ hn=>Below.heap_setCell _ _ _ _ (by simpa using hn)⟩⟩;simp [World.setCell,Array.getElem?_modify,hy]
end
theorem mF {W w:World} {g c n s a b:Nat} {L:List Nat} (h:MS W w g c n s L) (ha:a<n) (hb:b<n):Calls Tryz.prog 213 #[.slice (some ⟨g,0,none⟩) n c,(a:Int),(b:Int),s] w fun e w'=>∃x y:Nat,e=.returned (.tuple #[(x:Int),(y:Int)])/\(x=a/\y=b\/x=b/\y=a)/\MS W w' g c n s L:=by
 obtain ⟨t,ht⟩:∃t:Bool,t=true↔gt L b<gt L a:=⟨decide (gt L b<gt L a),by simp⟩
 have cL:=fun w=>hid (bP ht w);have d1:=h.cell ha;have d2:=h.cell hb;have HM:=hid h;clear h ht;go_enter Tryz.func213,Tryz.ntmps213
 cases t with
 |true=>
  go_upto_region 1 with fail
  go_quiet ((go_at_call 192;exact Calls.quiet_of_same ((cL _).out.mono fun e w' ⟨he,hw⟩=>⟨he,hw.symm⟩)))
  go_upto_region 2 with fail
  have HM2:=hid (HM.out.kept (fF w nq));clear d1 d2 cL HM;generalize w.drewN nq=w2 at*;obtain ⟨z,hz⟩:=HM2.out.box;have e1:w2.cell? ⟨s,0,none⟩=some (.int .i64 z):=by simp [World.cell?,hz]
  have e2:w2.frozen? ⟨s,0,none⟩=false:=by simp [World.frozen?,hz]
  obtain ⟨z1,hz1⟩:∃z1,IntKind.i64.wrap (z+1)=z1:=⟨_,rfl⟩
  have HM3:=hid (HM2.out.set z1);clear HM2 hz;go_wp2_with fail
  exact bodyPost_ret (v:= .tuple #[(b:Int),(a:Int)]) (by simp [results,Tryz.results213,go_sem]) rfl ⟨b,a,rfl,.inr ⟨rfl,rfl⟩,HM3.out⟩
 |false=>
  go_upto_region 1 with fail
  go_quiet ((go_at_call 192;exact Calls.quiet_of_same ((cL _).out.mono fun e w' ⟨he,hw⟩=>⟨he,hw.symm⟩)))
  have HM2:=hid (HM.out.kept (fF w nq));clear d1 d2 cL HM;go_wp2_with fail
  exact bodyPost_ret (v:= .tuple #[(a:Int),(b:Int)]) (by simp [results,Tryz.results213,go_sem]) rfl ⟨a,b,rfl,.inl ⟨rfl,rfl⟩,HM2.out⟩
theorem qD {W w:World} {g c n s a b d:Nat} {L:List Nat} (h:MS W w g c n s L) (ha:a<n) (hb:b<n) (hd:d<n):Calls Tryz.prog 209 #[.slice (some ⟨g,0,none⟩) n c,(a:Int),(b:Int),(d:Int),s] w fun e w'=>∃x:Nat,e=.returned (x:Int)/\(x=a\/x=b\/x=d)/\MS W w' g c n s L:=by
 have H0:=hid h;clear h;go_enter Tryz.func209,Tryz.ntmps209
 go_upto_region 2 with (go_at_call 213;refine (mF H0.out ha hb).mono ?_;rintro e w1 ⟨x1,y1,rfl,hx1,h1⟩)
 have H1:=hid h1;have Rc:x1<n:=by omega
 have Rf:y1<n:=by omega
 have HX1:=hid hx1;clear h1 hx1 H0;go_upto_region 3 with (go_at_call 213;refine (mF H1.out Rf hd).mono ?_;rintro e w2 ⟨x2,y2,rfl,hx2,h2⟩)
 have H2:=hid h2;have Rh:x2<n:=by omega
 have HX2:=hid hx2;clear h2 hx2 H1;go_wp2_with (go_at_call 213;refine (mF H2.out Rc Rh).mono ?_;rintro e w3 ⟨x3,y3,rfl,hx3,h3⟩)
 have H3:=hid h3
 have HX:Hid (y3=a\/y3=b\/y3=d):=by
  have:=HX1.out;have:=HX2.out;unfold Hid;omega
 clear h3 hx3;go_wp2_with fail
 go_ret
 exact ⟨y3,rfl,HX.out,H3.out⟩
theorem je {W w:World} {g c n s a:Nat} {L:List Nat} (h:MS W w g c n s L) (h1:1<=a) (ha:a+1<n) (hn:n<=1000):Calls Tryz.prog 208 #[.slice (some ⟨g,0,none⟩) n c,(a:Int),s] w fun e w'=>∃x:Nat,e=.returned (x:Int)/\(a<=x+1/\x<=a+1)/\MS W w' g c n s L:=by
 obtain ⟨p,hp⟩:∃p,p=a-1:=⟨_,rfl⟩
 obtain ⟨q,hq⟩:∃q,q=a+1:=⟨_,rfl⟩
 have hw1:IntKind.i64.wrap ((a:Int)-1)=(p:Int):=by rw [wrap_i64];omega
 have hw2:IntKind.i64.wrap ((a:Int)+1)=(q:Int):=by rw [wrap_i64];omega
 have cM:=hid (qD h (show p<n by omega) (show a<n by omega) (show q<n by omega));have HE:Hid (∀x,x=p\/x=a\/x=q->a<=x+1/\x<=a+1):=fun x hx=>by omega
 clear h hp hq h1 ha;go_enter Tryz.func208,Tryz.ntmps208
 go_wp2_with (go_at_call 209;refine cM.out.mono ?_;rintro e w3 ⟨x,rfl,hx,h3⟩)
 go_ret
 exact ⟨x,rfl,HE.out x hx,h3⟩
theorem o8 {w:World} {g c n a b:Nat} {l:List Nat} (h:Ow 25 w g c (l.map nV)) (hl:l.length=n) (hab:a+12<b) (hbn:b<=n) (hn:n<=1000):Calls Tryz.prog 189 #[.slice (some ⟨g,0,none⟩) n c,(a:Int),(b:Int)] w fun e w'=>∃(x:Nat) (z:Int),e=.returned (.tuple #[(x:Int),z])/\(z=0\/z=1\/z=2)/\a<=x/\x<b/\Bw w w':=by
 obtain ⟨m,hm⟩:∃m,m=b-a:=⟨_,rfl⟩
 obtain ⟨q,hq⟩:∃q,q=m / 4:=⟨_,rfl⟩
 obtain ⟨i,hi⟩:∃i,i=a+q:=⟨_,rfl⟩
 obtain ⟨j,hj⟩:∃j,j=a+2*q:=⟨_,rfl⟩
 obtain ⟨k,hk⟩:∃k,k=a+3*q:=⟨_,rfl⟩
 obtain ⟨q2,hq2⟩:∃q2,q2=2*q:=⟨_,rfl⟩
 obtain ⟨q3,hq3⟩:∃q3,q3=3*q:=⟨_,rfl⟩
 have hw1:IntKind.i64.wrap ((b:Int)-(a:Int))=(m:Int):=by rw [wrap_i64];omega
 have hw2:(m:Int).tdiv 4=(q:Int):=by rw [Int.tdiv_eq_ediv_of_nonneg (by omega)];omega
 have hw3:IntKind.i64.wrap (q:Int)=(q:Int):=by rw [wrap_i64];omega
 have hw4:IntKind.i64.wrap ((q:Int)*2)=(q2:Int):=by rw [wrap_i64];omega
 have hw5:IntKind.i64.wrap ((q:Int)*3)=(q3:Int):=by rw [wrap_i64];omega
 have hw6:IntKind.i64.wrap ((a:Int)+(q:Int))=(i:Int):=by rw [wrap_i64];omega
 have hw7:IntKind.i64.wrap ((a:Int)+(q2:Int))=(j:Int):=by rw [wrap_i64];omega
 have hw8:IntKind.i64.wrap ((a:Int)+(q3:Int))=(k:Int):=by rw [wrap_i64];omega
 have hm8:8<=m:=by omega
 have HR:=hid (show 1<=q/\i=a+q/\j=a+2*q/\k=a+3*q/\a+3*q+1<b/\b<=n by omega);have hb0:Bw w (w.alloc (.cells #[(0:Int)] 3)):=bAx;have HM:Hid (MS (w.alloc (.cells #[(0:Int)] 3)) (w.alloc (.cells #[(0:Int)] 3)) g c n w.heap.size l):=⟨h.kept hb0,hl,⟨0,heap_alloc_new w _⟩,(by have:=h.lt;omega),Flow.Into.refl _ _⟩;have HB0:=hid hb0;clear h hl hm hq hi hj hk hq2 hq3 hb0 hab;go_enter Tryz.func189,Tryz.ntmps189
 go_upto_region 6 with fail
 generalize w.alloc (.cells #[(0:Int)] 3)=w1 at*;obtain ⟨s,hs⟩:∃s,s=w.heap.size:=⟨_,rfl⟩
 rw [<-hs] at HM;simp only [<-hs];have HSW:Hid (w.heap.size<=s):=by rw [hs];exact Nat.le_refl _
 clear hw1 hw2 hw3 hw4 hw5 hw6 hw7 hw8 hs;have hmg:¬(m<8):=by omega
 go_upto_if 34 with fail
 go_cut [10,11,12] (fun iv jv kv wx=>∃i j k:Nat,iv= .int .i64 (i:Int)/\jv= .int .i64 (j:Int)/\kv= .int .i64 (k:Int)/\Hid (a<=i/\i<b/\a<=j/\j<b/\a<=k/\k<b/\b<=n)/\Hid (MS w1 wx g c n s l))
 case first=>
  have hr:=HR.out;by_cases h50:50<=m
  . have c1:=hid (je HM.out (show 1<=i by omega) (show i+1<n by omega) hn)
    have HB1:=hid (show 1<=j/\j+1<n/\1<=k/\k+1<n by omega);clear hr;go_upto_region 9 with (go_at_call 208;refine c1.out.mono ?_;rintro e w2 ⟨x1,rfl,hx1,h1⟩)
    have c2:=hid (je h1 HB1.out.1 HB1.out.2.1 hn);have HX1:=hid hx1;clear c1 h1 hx1;go_upto_region 10 with (go_at_call 208;refine c2.out.mono ?_;rintro e w3 ⟨x2,rfl,hx2,h2⟩)
    have c3:=hid (je h2 HB1.out.2.2.1 HB1.out.2.2.2 hn);have HX2:=hid hx2;clear c2 h2 hx2;go_wp2_with (go_at_call 208;refine c3.out.mono ?_;rintro e w4 ⟨x3,rfl,hx3,h3⟩)
    have HX3:Hid (a<=x1/\x1<b/\a<=x2/\x2<b/\a<=x3/\x3<b/\b<=n):=by
     have:=HX1.out;have:=HX2.out;have:=HR.out;unfold Hid;omega
    have H3:=hid h3;clear h3 hx3 c3;go_wp2_with fail
    go_meet
    exact ⟨x1,x2,x3,rfl,rfl,rfl,HX3,H3⟩
  . have HX3:Hid (a<=i/\i<b/\a<=j/\j<b/\a<=k/\k<b/\b<=n):=by unfold Hid;omega
    have Qr:m<50:=(by omega);clear hr;go_wp2_with fail
    go_meet
    exact ⟨i,j,k,rfl,rfl,rfl,HX3,HM⟩
 case rest=>
 obtain ⟨i2,j2,k2,rfl,rfl,rfl,HX,H2⟩:=hcut;clear HR HM hm8 hmg;have hx:=HX.out;have c4:=hid (qD H2.out (show i2<n by omega) (show j2<n by omega) (show k2<n by omega));clear hx H2;go_upto_region 12 with (go_at_call 209;refine c4.out.mono ?_;rintro e w5 ⟨x,rfl,hx,h5⟩)
 obtain ⟨z,hz⟩:=h5.box;have e1:w5.cell? ⟨s,0,none⟩=some (.int .i64 z):=by simp [World.cell?,hz]
 have HE:Hid (a<=x/\x<b/\Bw w w5):=by
  have:=HX.out;refine ⟨by omega,by omega,HB0.out.trans ⟨h5.hi.os,h5.hi.tape,h5.hi.output,h5.hi.size,fun q hq=>h5.hi.block q (Nat.lt_of_lt_of_le hq HB0.out.size) ?_⟩⟩;have:=HSW.out;simp only [List.mem_singleton];omega
 clear hx h5 hz c4 HX;by_cases h0:z=0
 . subst h0
   go_wp2_with fail
   exact bodyPost_ret (v:= .tuple #[(x:Int),(1:Int)]) (by simp [results,Tryz.results189,go_sem]) rfl ⟨x,1,rfl,by omega,HE.out⟩
 . by_cases h12:z=12
   . subst h12
     go_wp2_with fail
     exact bodyPost_ret (v:= .tuple #[(x:Int),(2:Int)]) (by simp [results,Tryz.results189,go_sem]) rfl ⟨x,2,rfl,by omega,HE.out⟩
   . have hd0:(z==0)=false:=by simpa using h0
     have hd1:(z==12)=false:=(by simpa using h12);go_wp2_with fail
     exact bodyPost_ret (v:= .tuple #[(x:Int),(0:Int)]) (by simp [results,Tryz.results189,go_sem]) rfl ⟨x,0,rfl,by omega,HE.out⟩
end Pq
end Go.Proofs.YtjpjjnalpdpljaaGreatDoor
set_option maxHeartbeats 4000000
set_option maxRecDepth 100000
namespace Go.Proofs.YtjpjjnalpdpljaaGreatDoor
open Go.RowKit
namespace Pq
open Mem Hp
theorem lq (n:Nat) (h1:1<=n) (hn:n<=80) (w:World):Calls Tryz.prog 165 #[.int .u64 (n:Int)] w fun e w'=>∃z:Nat,e=.returned (z:Int)/\w=w'/\1<=z/\z<=7/\2 ^ z<=2*n:=by
 iterate 80
  rcases Nat.eq_or_lt_of_le h1 with rfl|h2
  . clear h1 hn
    go_enter Tryz.func165,Tryz.ntmps165
    go_wp2_with go_in
    go_ret
    first|exact ⟨7,by kernel_rfl,rfl,by decide,by decide,by decide⟩|exact ⟨6,by kernel_rfl,rfl,by decide,by decide,by decide⟩|exact ⟨5,by kernel_rfl,rfl,by decide,by decide,by decide⟩|exact ⟨4,by kernel_rfl,rfl,by decide,by decide,by decide⟩|exact ⟨3,by kernel_rfl,rfl,by decide,by decide,by decide⟩|exact ⟨2,by kernel_rfl,rfl,by decide,by decide,by decide⟩|exact ⟨1,by kernel_rfl,rfl,by decide,by decide,by decide⟩
  replace h1:=Nat.succ_le_of_lt h2;clear h2;simp only [Nat.succ_eq_add_one,Nat.reduceAdd] at h1
 omega
theorem wV (n:Nat) (h1:1<=n) (hn:n<=80) (w:World):Calls Tryz.prog 206 #[(n:Int)] w fun e w'=>∃M:Nat,e=.returned (.int .u64 (M:Int))/\w=w'/\1<=M/\M<=2*n:=by
 have cL:=fun w=>Lib.hid (lq n h1 hn w);have hw1:IntKind.u64.wrap (n:Int)=(n:Int):=by rw [IntKind.wrap_u64];omega
 clear h1 hn;go_enter Tryz.func206,Tryz.ntmps206
 go_wp2_with (go_at_call 165;refine (cL _).out.mono ?_;rintro e w' ⟨z,rfl,rfl,hz1,hz2,hz3⟩;obtain rfl|rfl|rfl|rfl|rfl|rfl|rfl:z=1\/z=2\/z=3\/z=4\/z=5\/z=6\/z=7:=by omega)
 . go_ret
   exact ⟨2,rfl,rfl,by decide,by omega⟩
 . go_ret
   exact ⟨4,rfl,rfl,by decide,by omega⟩
 . go_ret
   exact ⟨8,rfl,rfl,by decide,by omega⟩
 . go_ret
   exact ⟨16,rfl,rfl,by decide,by omega⟩
 . go_ret
   exact ⟨32,rfl,rfl,by decide,by omega⟩
 . go_ret
   exact ⟨64,rfl,rfl,by decide,by omega⟩
 . go_ret
   exact ⟨128,rfl,rfl,by decide,by omega⟩
end Pq
end Go.Proofs.YtjpjjnalpdpljaaGreatDoor
set_option maxHeartbeats 4000000
set_option maxRecDepth 100000
namespace Go.Proofs.YtjpjjnalpdpljaaGreatDoor
open Go.RowKit
open Go.Lib (hid)
open ah (dL)
open ah.aS (cell)
open IntKind (wrap_i64)
open List (drop_zero)
namespace Pq
open Mem Hp
theorem Mi (z:Int) (M:Nat) (hM:M<18446744073709551616):∃m:Nat,bits .and .u64 z (M:Int)=(m:Int)/\m<=M:=by
 refine ⟨(BitVec.ofInt 64 z&&& BitVec.ofInt 64 (M:Int)).toNat,?_,?_⟩
 . have h:(BitVec.ofInt 64 z&&& BitVec.ofInt 64 (M:Int)).toNat<18446744073709551616:=(BitVec.ofInt 64 z&&& BitVec.ofInt 64 (M:Int)).isLt
   show IntKind.u64.wrap ((BitVec.ofInt 64 z&&& BitVec.ofInt 64 (M:Int)).toNat:Int)=_;generalize (BitVec.ofInt 64 z&&& BitVec.ofInt 64 (M:Int)).toNat=q at*;rw [IntKind.wrap_u64];omega
 . rw [BitVec.toNat_and]
   refine Nat.le_trans Nat.and_le_right ?_
   have:(BitVec.ofInt 64 (M:Int)).toNat=M:=by
    rw [BitVec.ofInt_natCast,BitVec.toNat_ofNat];exact Nat.mod_eq_of_lt hM
   rw [this];exact Nat.le_refl _
theorem sH {w:World} {s:Nat} {z:Int} (h:w.heap[s]? =some (.cells #[.int .u64 z] 231 (0,0))):Calls Tryz.prog 207 #[s] w fun e w'=>∃y:Int,e=.returned (.int .u64 y)/\(∃y:Int,w'.heap[s]? =some (.cells #[.int .u64 y] 231 (0,0)))/\Flow.Into [s] w w':=by
 have H0:=hid h;have hst:∀(w:World) (z y:Int),w.heap[s]? =some (.cells #[.int .u64 z] 231 (0,0))->(w.setCell ⟨s,0,none⟩ (.int .u64 y)).heap[s]? =some (.cells #[.int .u64 y] 231 (0,0))/\Flow.Into [s] w (w.setCell ⟨s,0,none⟩ (.int .u64 y)):=fun w z y h=>⟨by simp [World.setCell,Array.getElem?_modify,h],rfl,rfl,rfl,by simp [World.setCell],fun i _ hn=>Below.heap_setCell _ _ _ _ (by simpa using hn)⟩
 have HST:=hid hst;have c0:w.cell? ⟨s,0,none⟩=some (.int .u64 z):=by simp [World.cell?,h]
 clear h hst;go_enter Tryz.func207,Tryz.ntmps207
 obtain ⟨m1,hm1⟩:∃m,IntKind.u64.wrap (z*8192)=m:=⟨_,rfl⟩
 obtain ⟨y1,hy1⟩:∃y,bits .xor .u64 z m1=y:=⟨_,rfl⟩
 go_upto_region 1 with fail
 have x0:=fun t:ah.aS [] w []=>cell c0 (by simp) t;refine ah.aj [] [(0,[]),(1,[]),(2,[]),(3,[]),(4,[]),(5,[]),(6,[]),(7,[])] [] [] (by kernel_rfl) (by kernel_rfl) (by simp) ?_;simp only [ah.pick,ah.aO,dL]
 repeat (refine ah.ak (fun K hK=>?_);go_simp;(refine hK _ ?_;clear hK K))
 refine ah.walk_nil ?_;intro v1 hb1 _;clear x0 c0;have h1:=(hb1.block s (Array.getElem?_eq_some_iff.1 H0.out).1).trans H0.out;have c0:v1.cell? ⟨s,0,none⟩=some (.int .u64 z):=by simp [World.cell?,h1]
 have f0:v1.frozen? ⟨s,0,none⟩=false:=by simp [World.frozen?,h1]
 obtain ⟨g1,g2⟩:=HST.out v1 z y1 h1;have H1:=hid g1;have HI1:Hid (Flow.Into [s] w (v1.setCell ⟨s,0,none⟩ (.int .u64 y1))):=(Flow.Into.of_below hb1).trans g2;clear g1 g2 h1 hb1 hm1;simp only [lC,drop_zero,Nat.zero_add,Nat.reduceAdd];go_wp2_with fail
 (try rw [Flow.aP]);clear c0 f0 hy1;generalize v1.setCell ⟨s,0,none⟩ (.int .u64 y1)=u1 at*;have c0:u1.cell? ⟨s,0,none⟩=some (.int .u64 y1):=by simp [World.cell?,H1.out]
 obtain ⟨m2,hm2⟩:∃m,y1 / 128=m:=⟨_,rfl⟩
 obtain ⟨y2,hy2⟩:∃y,bits .xor .u64 y1 m2=y:=⟨_,rfl⟩
 go_upto_region 2 with fail
 have x0:=fun t:ah.aS [] u1 []=>cell c0 (by simp) t;refine ah.aj [] [(0,[]),(1,[]),(2,[]),(3,[]),(4,[]),(5,[]),(6,[]),(7,[])] [] [] (by kernel_rfl) (by kernel_rfl) (by simp) ?_;simp only [ah.pick,ah.aO,dL]
 repeat (refine ah.ak (fun K hK=>?_);go_simp;(refine hK _ ?_;clear hK K))
 refine ah.walk_nil ?_;intro v2 hb2 _;clear x0 c0;have h1:=(hb2.block s (Array.getElem?_eq_some_iff.1 H1.out).1).trans H1.out;have c0:v2.cell? ⟨s,0,none⟩=some (.int .u64 y1):=by simp [World.cell?,h1]
 have f0:v2.frozen? ⟨s,0,none⟩=false:=by simp [World.frozen?,h1]
 obtain ⟨g1,g2⟩:=HST.out v2 y1 y2 h1;have H2:=hid g1;have HI2:Hid (Flow.Into [s] w (v2.setCell ⟨s,0,none⟩ (.int .u64 y2))):=(HI1.out.trans (Flow.Into.of_below hb2)).trans g2;clear g1 g2 h1 hb2 hm2;simp only [lC,drop_zero,Nat.zero_add,Nat.reduceAdd];go_wp2_with fail
 (try rw [Flow.aP]);clear c0 f0 hy2;generalize v2.setCell ⟨s,0,none⟩ (.int .u64 y2)=u2 at*;have c0:u2.cell? ⟨s,0,none⟩=some (.int .u64 y2):=by simp [World.cell?,H2.out]
 obtain ⟨m3,hm3⟩:∃m,IntKind.u64.wrap (y2*131072)=m:=⟨_,rfl⟩
 obtain ⟨y3,hy3⟩:∃y,bits .xor .u64 y2 m3=y:=⟨_,rfl⟩
 go_upto_region 3 with fail
 have x0:=fun t:ah.aS [] u2 []=>cell c0 (by simp) t;refine ah.aj [] [(0,[]),(1,[]),(2,[]),(3,[]),(4,[]),(5,[]),(6,[]),(7,[])] [] [] (by kernel_rfl) (by kernel_rfl) (by simp) ?_;simp only [ah.pick,ah.aO,dL]
 repeat (refine ah.ak (fun K hK=>?_);go_simp;(refine hK _ ?_;clear hK K))
 refine ah.walk_nil ?_;intro v3 hb3 _;clear x0 c0;have h1:=(hb3.block s (Array.getElem?_eq_some_iff.1 H2.out).1).trans H2.out;have c0:v3.cell? ⟨s,0,none⟩=some (.int .u64 y2):=by simp [World.cell?,h1]
 have f0:v3.frozen? ⟨s,0,none⟩=false:=by simp [World.frozen?,h1]
 obtain ⟨g1,g2⟩:=HST.out v3 y2 y3 h1;have H3:=hid g1;have HI3:Hid (Flow.Into [s] w (v3.setCell ⟨s,0,none⟩ (.int .u64 y3))):=(HI2.out.trans (Flow.Into.of_below hb3)).trans g2;clear g1 g2 h1 hb3 hm3;simp only [lC,drop_zero,Nat.zero_add,Nat.reduceAdd];go_wp2_with fail
 (try rw [Flow.aP]);clear c0 f0 hy3;generalize v3.setCell ⟨s,0,none⟩ (.int .u64 y3)=u3 at*;have c0:u3.cell? ⟨s,0,none⟩=some (.int .u64 y3):=by simp [World.cell?,H3.out]
 go_wp2_with fail
 go_ret
 exact ⟨_,rfl,⟨_,H3.out⟩,HI3.out⟩
theorem Dq {w:World} {g c n a b:Nat} {l:List Nat} (h:Ow 25 w g c (l.map nV)) (hl:l.length=n) (hab:a+12<b) (hbn:b<=n) (hn:n<=80):Calls Tryz.prog 188 #[.slice (some ⟨g,0,none⟩) n c,(a:Int),(b:Int)] w fun e w'=>e=.returned (.tuple #[])/\∃L,US w w' g c n l L a b:=by
 obtain ⟨m0,hm⟩:∃m,m=b-a:=⟨_,rfl⟩
 obtain ⟨q,hq⟩:∃q,q=m0 / 4:=⟨_,rfl⟩
 obtain ⟨q2,hq2⟩:∃q2,q2=q*2:=⟨_,rfl⟩
 obtain ⟨p1,hp1⟩:∃p,p=a+q2:=⟨_,rfl⟩
 obtain ⟨p0,hp0⟩:∃p,p=p1-1:=⟨_,rfl⟩
 obtain ⟨e1,he1⟩:∃p,p=p1+1:=⟨_,rfl⟩
 obtain ⟨e2,he2⟩:∃p,p=p1+2:=⟨_,rfl⟩
 have hw1:IntKind.i64.wrap ((b:Int)-(a:Int))=(m0:Int):=by rw [wrap_i64];omega
 have hw2:(m0:Int).tdiv 4=(q:Int):=by rw [Int.tdiv_eq_ediv_of_nonneg (by omega)];omega
 have hw3:IntKind.i64.wrap (q:Int)=(q:Int):=by rw [wrap_i64];omega
 have hw4:IntKind.i64.wrap ((q:Int)*2)=(q2:Int):=by rw [wrap_i64];omega
 have hw5:IntKind.i64.wrap ((a:Int)+(q2:Int))=(p1:Int):=by rw [wrap_i64];omega
 have hw6:IntKind.i64.wrap ((p1:Int)-1)=(p0:Int):=by rw [wrap_i64];omega
 have hw7:IntKind.i64.wrap ((p1:Int)+1)=(e1:Int):=by rw [wrap_i64];omega
 have hw8:IntKind.u64.wrap (m0:Int)=(m0:Int):=by rw [IntKind.wrap_u64];omega
 have hm8:8<=m0:=by omega
 have HR:=hid (show a<=p0/\e1<b/\e2=e1+1/\m0=b-a/\p0<=e2 by omega);have cN:=fun w=>hid (wV m0 (by omega) (by omega) w);have hb0:Bw w (w.alloc (.cells #[.int .u64 (m0:Int)] 231)):=bAx;have HS:Hid (US w (w.alloc (.cells #[.int .u64 (m0:Int)] 231)) g c n l l a b):=(US.start h hl a b).kept hb0;have HX:Hid (∃z:Int,(w.alloc (.cells #[.int .u64 (m0:Int)] 231)).heap[w.heap.size]? =some (.cells #[.int .u64 z] 231 (0,0))):=⟨_,heap_alloc_new w _⟩;have HG:Hid (g<w.heap.size):=h.lt;have R3:m0<=80:=by omega
 clear h hl hm hq hq2 hp1 hp0 he1 he2 hb0 hab;go_enter Tryz.func188,Tryz.ntmps188
 go_upto_region 3 with fail
 generalize w.alloc (.cells #[.int .u64 (m0:Int)] 231)=w1 at*;obtain ⟨s,hs⟩:∃s,s=w.heap.size:=⟨_,rfl⟩
 rw [<-hs] at HX HG;simp only [<-hs];have HSW:=hid hs;clear hs hw8;go_upto_region 4 with (go_at_call 206;refine (cN _).out.mono ?_;rintro e w' ⟨M,rfl,rfl,hM1,hM2⟩)
 obtain ⟨M1,hM3⟩:∃M1,M=M1+1:=⟨M-1,by omega⟩
 have hwM:IntKind.u64.wrap ((M:Int)-1)=(M1:Int):=by rw [IntKind.wrap_u64];omega
 have HM:=hid (show M1<2*m0 by omega);clear hM1 hM2 hM3 cN;go_upto_block 0 with fail
 clear hw6;go_wp2_with fail
 go_loopg [9] (e2-p0) (fun gk iv wr=>∃(i:Nat) (L:List Nat),gk=e2-i/\iv= .int .i64 (i:Int)/\p0<=i/\i<=e2/\Hid (US w wr g c n l L a b)/\Hid (∃z:Int,wr.heap[s]? =some (.cells #[.int .u64 z] 231 (0,0))))
 case atStart=>exact ⟨p0,l,rfl,rfl,Nat.le_refl _,HR.out.2.2.2.2,HS,HX⟩
 case round=>
  obtain ⟨i,L,rfl,rfl,hi1,hi2,HS0,HX0⟩:=hrel;clear HS HX;by_cases hie:i<=e1
  . have hr:=HR.out
    have hin:i<n:=(by omega);have hia:a<=i:=(by omega);have hib:i<b:=(by omega);obtain ⟨z,hz⟩:=HX0.out;have cX:=hid (sH hz);have hwi:IntKind.i64.wrap ((i:Int)+1)=((i+1:Nat):Int):=(by rw [wrap_i64];omega);clear hz hr;have Ri:M1<160:=(by have:=HM.out;omega);go_upto_region 8 with (go_at_call 207;refine cX.out.mono ?_;rintro e w2 ⟨y,rfl,hy,hin2⟩;obtain ⟨m,hm1,hm2⟩:=Mi y M1 (by omega);have hwm:IntKind.i64.wrap (m:Int)=(m:Int):=by (rw [wrap_i64];omega))
    have HS2:Hid (US w w2 g c n l L a b):=⟨HS0.out.ow.into hin2 (by have:=HG.out;simp only [List.mem_singleton];omega),HS0.out.mv,⟨hin2.os.trans HS0.out.hi.os,hin2.tape.trans HS0.out.hi.tape,hin2.output.trans HS0.out.hi.output,Nat.le_trans HS0.out.hi.size hin2.size,fun k hk hn=>(hin2.block k (Nat.lt_of_lt_of_le hk HS0.out.hi.size) (by rw [<-HSW.out] at hk;simp only [List.mem_singleton];omega)).trans (HS0.out.hi.block k hk hn)⟩,HS0.out.le⟩;have HX2:=hid hy;have HMB:=hid (show m<2*m0 by have:=HM.out;omega);clear hy hin2 cX HS0 HX0 hm1;clear hw2 hw3 hw4 hw5 hw7;go_upto_if 43 with fail
    go_cut [10] (fun ov wx=>∃m:Nat,ov= .int .i64 (m:Int)/\Hid (m<m0)/\Hid (US w wx g c n l L a b)/\Hid (∃z:Int,wx.heap[s]? =some (.cells #[.int .u64 z] 231 (0,0))))
    case first=>
     by_cases hmm:m0<=m
     . obtain ⟨m2,Rj⟩:∃m2,m2=m-m0:=⟨_,rfl⟩
       have hws:IntKind.i64.wrap ((m:Int)-(m0:Int))=(m2:Int):=(by rw [wrap_i64];omega);have HL:Hid (m2<m0):=(by have:=HMB.out;unfold Hid;omega);clear Rj;go_wp2_with fail
       go_meet
       exact ⟨m2,rfl,HL,HS2,HX2⟩
     . have HL:Hid (m<m0):=by unfold Hid;omega
       have hmm':m<m0:=(by omega);go_wp2_with fail
       go_meet
       exact ⟨m,rfl,HL,HS2,HX2⟩
    case rest=>
    obtain ⟨m',rfl,HL,HS,Qs⟩:=hcut;clear HS2 HX2 HMB hwm hm2 Ri;obtain ⟨m,rfl⟩:∃m,m=m':=⟨_,rfl⟩
    have hr:=HR.out;have hlt:=HL.out;obtain ⟨fm,hfm⟩:∃fm,fm=a+m:=⟨_,rfl⟩
    have hwf:IntKind.i64.wrap ((a:Int)+(m:Int))=(fm:Int):=(by rw [wrap_i64];omega);have hfn:fm<n:=(by omega);have hf1:a<=fm:=(by omega);have hf2:fm<b:=(by omega);have hi3:i+1<=e2:=by omega
    have HXS:Hid (∀(v6:World) (x y:Value),Bw wc v6->True=True->∃z:Int,((v6.setCell ⟨g,i,none⟩ x).setCell ⟨g,fm,none⟩ y).heap[s]? =some (.cells #[.int .u64 z] 231 (0,0))):=fun v6 x y hb _=>by
     obtain ⟨z,hz⟩:=Qs.out;have hgs:s≠g:=(by have:=HG.out;omega);exact ⟨z,(Below.heap_setCell _ _ _ _ hgs).trans ((Below.heap_setCell _ _ _ _ hgs).trans ((hb.block s (Array.getElem?_eq_some_iff.1 hz).1).trans hz))⟩
    clear hr hlt hfm Qs;by_cases hif:i=fm
    . subst hif
      go_upto_region 10 with fail
      have x0:=fun t:ah.aS [] wc []=>cell (HS.out.cell hin) (by simp) t;have x1:=fun t:ah.aS [] wc []=>cell (HS.out.cell hin) (by simp) t;refine ah.aB [] [(0,[]),(1,[]),(2,[]),(3,[]),(4,[]),(5,[]),(6,[]),(7,[]),(8,[]),(9,[]),(10,[]),(11,[]),(12,[]),(13,[]),(14,[]),(15,[]),(16,[])] [] [] [2,3,4,5] (by kernel_rfl) (by kernel_rfl) (by simp) ?_;simp only [ah.pick,ah.aO,dL]
      repeat (refine ah.ak (fun K hK=>?_);go_simp;(refine hK _ ?_;clear hK K))
      refine ah.ay rfl (.slice (some ⟨g,0,none⟩) n c) (fun W=>by go_simp) ?_;refine ah.ay rfl (.int .i64 (a:Int)) (fun W=>by go_simp) ?_;refine ah.ay rfl (.int .i64 (m:Int)) (fun W=>by go_simp) ?_;refine ah.ay rfl (.int .i64 (i:Int)) (fun W=>by go_simp) ?_
      repeat (refine ah.ak (fun K hK=>?_);go_simp;(refine hK _ ?_;clear hK K))
      refine ah.walk_nil ?_;intro w6 hb6 _;clear x0 x1;have h6:=HS.out.kept hb6;have f:=h6.free;have e1:=h6.cell hin;have e2:=h6.cell hin;have H7:=hid (h6.swap hbn hia hib hia hib);have HX7:=hid (HXS.out w6 (.int .u32 ((gt L i:Nat):Int)) (.int .u32 ((gt L i:Nat):Int)) hb6 rfl);clear h6 hb6 HS;simp only [lC,drop_zero,Nat.zero_add,Nat.reduceAdd];go_wp2_with fail
      (try rw [Flow.aP]);clear e1 e2 f;generalize (w6.setCell ⟨g,i,none⟩ (.int .u32 ((gt L i:Nat):Int))).setCell ⟨g,i,none⟩ (.int .u32 ((gt L i:Nat):Int))=w7 at*;(try go_wp2_with fail)
      go_roundg (e2-(i+1))
      case measure=>omega
      case rel=>exact ⟨i+1,_,rfl,by go_num,by omega,by omega,H7,HX7⟩
    . have hne:i≠fm:=hif
      have hne':fm≠i:=fun e=>hif e.symm;go_upto_region 10 with fail
      have x0:=fun t:ah.aS [] wc []=>cell (HS.out.cell hin) (by simp) t;have x1:=fun t:ah.aS [] wc []=>cell (HS.out.cell hfn) (by simp) t;refine ah.aB [] [(0,[]),(1,[]),(2,[]),(3,[]),(4,[]),(5,[]),(6,[]),(7,[]),(8,[]),(9,[]),(10,[]),(11,[]),(12,[]),(13,[]),(14,[]),(15,[]),(16,[])] [] [] [2,3,4,5] (by kernel_rfl) (by kernel_rfl) (by simp) ?_;simp only [ah.pick,ah.aO,dL]
      repeat (refine ah.ak (fun K hK=>?_);go_simp;(refine hK _ ?_;clear hK K))
      refine ah.ay rfl (.slice (some ⟨g,0,none⟩) n c) (fun W=>by go_simp) ?_;refine ah.ay rfl (.int .i64 (a:Int)) (fun W=>by go_simp) ?_;refine ah.ay rfl (.int .i64 (m:Int)) (fun W=>by go_simp) ?_;refine ah.ay rfl (.int .i64 (fm:Int)) (fun W=>by go_simp) ?_
      repeat (refine ah.ak (fun K hK=>?_);go_simp;(refine hK _ ?_;clear hK K))
      refine ah.walk_nil ?_;intro w6 hb6 _;clear x0 x1;have h6:=HS.out.kept hb6;have f:=h6.free;have e1:=h6.cell hin;have e2:=h6.cell hfn;have H7:=hid (h6.swap hbn hia hib hf1 hf2);have HX7:=hid (HXS.out w6 (.int .u32 ((gt L fm:Nat):Int)) (.int .u32 ((gt L i:Nat):Int)) hb6 rfl);clear h6 hb6 HS;simp only [lC,drop_zero,Nat.zero_add,Nat.reduceAdd];go_wp2_with fail
      (try rw [Flow.aP]);clear e1 e2 f;generalize (w6.setCell ⟨g,i,none⟩ (.int .u32 ((gt L fm:Nat):Int))).setCell ⟨g,fm,none⟩ (.int .u32 ((gt L i:Nat):Int))=w7 at*;(try go_wp2_with fail)
      go_roundg (e2-(i+1))
      case measure=>omega
      case rel=>exact ⟨i+1,_,rfl,by go_num,by omega,by omega,H7,HX7⟩
  . have R4:¬(i<=e1):=hie
    have R5:e1<i:=(by omega);go_wp2_with fail
    go_end0
    exact ⟨rfl,L,HS0.out⟩
end Pq
end Go.Proofs.YtjpjjnalpdpljaaGreatDoor
