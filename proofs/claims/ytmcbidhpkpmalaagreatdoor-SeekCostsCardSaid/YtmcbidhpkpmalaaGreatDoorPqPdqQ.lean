import Derived.Test.YtmcbidhpkpmalaaGreatDoorPkAJ
set_option maxHeartbeats 4000000
set_option maxRecDepth 100000
namespace Go.Proofs.YtmcbidhpkpmalaaGreatDoor
open Go.RowKit
open Go.Lib (hid)
open ah (dL)
open ah.aQ (cell)
open IntKind (wrap_i64)
open List (drop_zero)
namespace Pq
open Mem Hp
theorem uL{w:World}{g c n a b pv:Nat}{l:List Nat}(h:Ow 30 w g c (l.map nV))(hl:l.length=n)(hap:a<=pv)(Qs:pv<b)(hbn:b<=n)(hn:n<=1000):Calls Tryz.prog 205 #[.slice (some g) n c,(a:Int),(b:Int),(pv:Int)] w fun e w'=>∃(m:Nat) (t:Bool),e=.returned (.tuple #[(m:Int),.bool t])/\∃L,US w w' g c n l L a b/\fO L a b m:=by
 have hab:a<b:=by omega
 have han:a<n:=by omega
 obtain⟨b1,hb1⟩:∃b1,b=b1+1:=⟨b-1,by omega⟩
 have HS:Hid (US w w g c n l l a b):=US.start h hl a b;have hpn:=han;have hqn:pv<n:=by omega
 have hpa:=Nat.le_refl a;have hpb:=hab;have hqa:=hap;have hqb:=Qs;have HB:=hid hb1;obtain⟨L,hL⟩:=eX l;have HS1:Hid (US w w g c n l L a b):=by rw[hL];exact HS.out
 clear h hl hb1 HS hL;have HS:=HS1;clear HS1;obtain⟨w1,hw1⟩:=eX w;go_enter Tryz.func205,Tryz.ntmps205
 go_upto_region 1 with fail
 go_cut[12] (fun sv wx=>sv=(.slice (some g) n c)/\(∃L,Hid (US w wx g c n l L a b)))
 case first=>
  by_cases hpq:a=pv
  . subst hpq
    go_upto_region 1 with fail
    have x0:=fun t:ah.aQ [] w []=>cell (HS.cell hpn) (by simp) t;have x1:=fun t:ah.aQ [] w []=>cell (HS.cell hpn) (by simp) t;refine ah.ay [] [(0,[]),(1,[]),(2,[]),(3,[]),(4,[]),(5,[]),(6,[]),(7,[]),(8,[]),(9,[]),(10,[]),(11,[]),(12,[])] [] [] [2,3] (by kernel_rfl) (by kernel_rfl) (by simp) ?_;simp only[ah.pick,ah.aM,dL]
    repeat (refine ah.ak (fun K hK=>?_);go_simp;(refine hK _ ?_;clear hK K))
    refine ah.au rfl (.slice (some g) n c) (fun W=>by go_simp) ?_;refine ah.au rfl (.int .i64 (a:Int)) (fun W=>by go_simp) ?_
    repeat (refine ah.ak (fun K hK=>?_);go_simp;(refine hK _ ?_;clear hK K))
    refine ah.walk_nil ?_;intro w6 hb6 _;clear x0 x1;have h6:=HS.kept hb6;have f:=h6.free;have e1:=h6.cell hpn;have e2:=h6.cell hpn;have H7:=hid (h6.swap hbn hpa hpb hpa hpb);clear h6 hb6 HS;simp only[lC,drop_zero,Nat.zero_add,Nat.reduceAdd];go_wp2_with fail
    (try rw[Flow.aN]);clear e1 e2 f;generalize (w6.setCell ⟨g,a,none⟩ (.int .u32 ((gt L a:Nat):Int))).setCell ⟨g,a,none⟩ (.int .u32 ((gt L a:Nat):Int))=w7 at*;(try go_wp2_with fail);go_meet
    exact⟨rfl,_,H7⟩
  . have hne:a≠pv:=hpq
    have hne':pv≠a:=fun e=>hpq e.symm;go_upto_region 1 with fail
    have x0:=fun t:ah.aQ [] w []=>cell (HS.cell hpn) (by simp) t;have x1:=fun t:ah.aQ [] w []=>cell (HS.cell hqn) (by simp) t;refine ah.ay [] [(0,[]),(1,[]),(2,[]),(3,[]),(4,[]),(5,[]),(6,[]),(7,[]),(8,[]),(9,[]),(10,[]),(11,[]),(12,[])] [] [] [2,3] (by kernel_rfl) (by kernel_rfl) (by simp) ?_;simp only[ah.pick,ah.aM,dL]
    repeat (refine ah.ak (fun K hK=>?_);go_simp;(refine hK _ ?_;clear hK K))
    refine ah.au rfl (.slice (some g) n c) (fun W=>by go_simp) ?_;refine ah.au rfl (.int .i64 (pv:Int)) (fun W=>by go_simp) ?_
    repeat (refine ah.ak (fun K hK=>?_);go_simp;(refine hK _ ?_;clear hK K))
    refine ah.walk_nil ?_;intro w6 hb6 _;clear x0 x1;have h6:=HS.kept hb6;have f:=h6.free;have e1:=h6.cell hpn;have e2:=h6.cell hqn;have H7:=hid (h6.swap hbn hpa hpb hqa hqb);clear h6 hb6 HS;simp only[lC,drop_zero,Nat.zero_add,Nat.reduceAdd];go_wp2_with fail
    (try rw[Flow.aN]);clear e1 e2 f;generalize (w6.setCell ⟨g,a,none⟩ (.int .u32 ((gt L pv:Nat):Int))).setCell ⟨g,pv,none⟩ (.int .u32 ((gt L a:Nat):Int))=w7 at*;(try go_wp2_with fail);go_meet
    exact⟨rfl,_,H7⟩
 case rest=>
 obtain⟨-,HC⟩:=hcut;clear HS L;obtain⟨L,HS⟩:=HC;obtain⟨i,hi⟩:=eX (a+1);obtain⟨j,hj⟩:=eX b1;have hwi:IntKind.i64.wrap ((a:Int)+1)=(i:Int):=by rw[wrap_i64];omega
 have hwj:IntKind.i64.wrap ((b:Int)-1)=(j:Int):=by rw[wrap_i64];have:=HB.out;omega
 have HP:Hid (Pt L a b i j):=by
  have:=HB.out;exact⟨by omega,by omega,by omega,fun k h1 h2=>by omega,fun k h1 h2=>by omega⟩
 have hin:i<=n:=by omega
 clear hi hj HB hpn hqn hpa hpb hqa hqb hw1;obtain⟨io,hio⟩:=eX i;have hile:io<=i:=by omega
 clear hio;go_upto_block 0 with fail
 go_cut[10] (fun iv wx=>∃i:Nat,iv= .int .i64 (i:Int)/\io<=i/\i<=n/\Hid (US w wx g c n l L a b)/\Hid (Pt L a b i j)/\Hid (i<=j->¬gt L i<gt L a))
 case first=>
  have HS0:=HS;have HP0:=HP;clear HS HP;go_wp2_with fail
  go_loopg[10] (j+1-i) (fun gk iv wr=>∃i:Nat,gk=j+1-i/\iv= .int .i64 (i:Int)/\io<=i/\i<=n/\Hid (US w wr g c n l L a b)/\Hid (Pt L a b i j))
  case atStart=>exact⟨i,rfl,rfl,hile,hin,HS0,HP0⟩
  case round=>
   obtain⟨i2,rfl,rfl,vT,hin2,HS,HP⟩:=hrel;clear HS0 HP0 hin hile;obtain⟨i,rfl⟩:=eX i2;obtain⟨wx,rfl⟩:=eX (wr:World);by_cases hij:i<=j
   . have hjn:j<n:=by have:=HP.jb;omega
     have hilt:i<n:=(by omega);have hw1:IntKind.i64.wrap ((i:Int)+1)=((i+1:Nat):Int):=(by rw[wrap_i64];omega);have d1:=HS.cell hilt;have d2:=HS.cell han;by_cases hxy:gt L i<gt L a
     .
      have cL:=fun w=>hid (bI (t:=true) (x:=gt L i) (y:=gt L a) (by simpa using hxy) w);have HP2:=hid (HP.up hij hxy);clear hxy HP;go_upto_region 3 with fail
      go_quiet ((go_at_call 203;exact Calls.quiet_of_same ((cL _).mono fun e w' ⟨he,hw⟩=>⟨he,hw.symm⟩)))
      have HSq:=hid (HS.drew nq);clear HS d1 d2;go_wp2_with fail
      go_roundg (j+1-(i+1))
      case measure=>omega
      case rel=>exact⟨i+1,rfl,by go_num,by omega,by omega,HSq,HP2⟩
     .
      have cL:=fun w=>hid (bI (t:=false) (x:=gt L i) (y:=gt L a) (by simpa using hxy) w);have HX:Hid (i<=j->¬gt L i<gt L a):=fun _=>hxy;clear hxy;go_upto_region 3 with fail
      go_quiet ((go_at_call 203;exact Calls.quiet_of_same ((cL _).mono fun e w' ⟨he,hw⟩=>⟨he,hw.symm⟩)))
      have HSq:=hid (HS.drew nq);clear HS d1 d2;go_wp2_with fail
      go_meet
      exact⟨i,rfl,by omega,by omega,HSq,HP,HX⟩
   . have HX:Hid (i<=j->¬gt L i<gt L a):=fun h=>absurd h hij
     have hij':j<i:=(by omega);go_upto_region 3 with fail
     go_quiet (fail)
     have HSq:=hid (HS.drew nq);clear HS;go_wp2_with fail
     go_meet
     exact⟨i,rfl,by omega,by omega,HSq,HP,HX⟩
 case rest=>
 obtain⟨i2,rfl,vT,hin2,HS2,HP2,HIX⟩:=hcut;clear HS HP hin hile vT;obtain⟨i,rfl⟩:=eX i2;have HS:=HS2;have HP:=HP2;have hin:=hin2;clear HS2 HP2 hin2;clear hwi hwj;obtain⟨jo,hjo⟩:=eX j;have JQ:Hid (∀j',j'<=jo->i<=j'->¬gt L i<gt L a):=fun j' h1 h2=>HIX.out (by omega);have hjle:j<=jo:=by omega
 clear hjo HIX;go_upto_block 2 with fail
 go_cut[11] (fun jv wx=>∃j:Nat,jv= .int .i64 (j:Int)/\j<=jo/\Hid (US w wx g c n l L a b)/\Hid (Pt L a b i j)/\Hid (i<=j->¬gt L a<=gt L j))
 case first=>
  have HS0:=HS;have HP0:=HP;clear HS HP;go_wp2_with fail
  go_loopg[11] (j+1-i) (fun gk jv wr=>∃j:Nat,gk=j+1-i/\jv= .int .i64 (j:Int)/\j<=jo/\Hid (US w wr g c n l L a b)/\Hid (Pt L a b i j))
  case atStart=>exact⟨j,rfl,rfl,hjle,HS0,HP0⟩
  case round=>
   obtain⟨j2,rfl,rfl,jT,HS,HP⟩:=hrel;clear HS0 HP0 hjle;obtain⟨j,rfl⟩:=eX j2;obtain⟨wx,rfl⟩:=eX (wr:World);by_cases hij:i<=j
   . have hjn:j<n:=by have:=HP.jb;omega
     obtain⟨j1,hj1⟩:∃j1,j=j1+1:=⟨j-1,by have:=HP.ai;omega⟩
     have HJ:=hid hj1;have hw1:IntKind.i64.wrap ((j:Int)-1)=(j1:Int):=(by rw[wrap_i64];omega);have d1:=HS.cell hjn;have d2:=HS.cell han;clear hj1;by_cases hxy:gt L j<gt L a
     .
      have cL:=fun w=>hid (bI (t:=true) (x:=gt L j) (y:=gt L a) (by simpa using hxy) w);(have HX:Hid (i<=j->¬gt L a<=gt L j):=fun _=>by omega);clear hxy;go_upto_region 5 with fail
      go_quiet ((go_at_call 203;exact Calls.quiet_of_same ((cL _).mono fun e w' ⟨he,hw⟩=>⟨he,hw.symm⟩)))
      have HSq:=hid (HS.drew nq);clear HS d1 d2;go_wp2_with fail
      go_meet
      exact⟨j,rfl,jT,HSq,HP,HX⟩
     .
      have cL:=fun w=>hid (bI (t:=false) (x:=gt L j) (y:=gt L a) (by simpa using hxy) w)
      have HP2:Hid (Pt L a b i j1):=by
       have h1:=HP.out;rw[HJ.out]at h1;exact h1.down (by have:=HJ.out;omega) (by rw[<-HJ.out];omega)
      clear hxy HP;go_upto_region 5 with fail
      go_quiet ((go_at_call 203;exact Calls.quiet_of_same ((cL _).mono fun e w' ⟨he,hw⟩=>⟨he,hw.symm⟩)))
      have HSq:=hid (HS.drew nq);clear HS d1 d2;go_wp2_with fail
      go_roundg (j1+1-i)
      case measure=>have:=HJ.out;omega
      case rel=>exact⟨j1,rfl,rfl,by have:=HJ.out;omega,HSq,HP2⟩
   . have HX:Hid (i<=j->¬gt L a<=gt L j):=fun h=>absurd h hij
     have hij':j<i:=(by omega);go_upto_region 5 with fail
     go_quiet (fail)
     have HSq:=hid (HS.drew nq);clear HS;go_wp2_with fail
     go_meet
     exact⟨j,rfl,jT,HSq,HP,HX⟩
 case rest=>
 obtain⟨j2,rfl,jT,HS2,HP2,HJX⟩:=hcut;have HIX:Hid (i<=j2->¬gt L i<gt L a):=fun h=>JQ.out j2 jT h;clear HS HP JQ hjle jT;obtain⟨j,rfl⟩:=eX j2;have HS:=HS2;have HP:=HP2;clear HS2 HP2;by_cases hgt:j<i
 . go_upto_region 8 with fail
   have hij2:j<i:=hgt;have HPD:Hid (fO (swp L j a) a b j):=HP.done hij2 (by rw[HS.len];exact hbn);have hpn:j<n:=(by have:=HP.jb;omega);have hpa:a<=j:=(by have:=HP.ai;have:=HP.ij;omega);have hpb:j<b:=HP.jb;have hqn:=han;have hqa:=Nat.le_refl a;have hqb:=hab;go_upto_region 8 with fail
   go_cut[66] (fun sv wx=>sv=(.slice (some g) n c)/\(∃L,Hid (US w wx g c n l L a b)/\Hid (fO L a b j)))
   case first=>
    by_cases hpq:j=a
    . subst hpq
      go_upto_region 8 with fail
      have x0:=fun t:ah.aQ [] wc []=>cell (HS.cell hpn) (by simp) t;have x1:=fun t:ah.aQ [] wc []=>cell (HS.cell hpn) (by simp) t;refine ah.ay [] [(0,[]),(1,[]),(2,[]),(3,[]),(4,[]),(5,[]),(6,[]),(7,[]),(8,[]),(9,[]),(10,[]),(11,[]),(12,[])] [] [] [2,3] (by kernel_rfl) (by kernel_rfl) (by simp) ?_;simp only[ah.pick,ah.aM,dL]
      repeat (refine ah.ak (fun K hK=>?_);go_simp;(refine hK _ ?_;clear hK K))
      refine ah.au rfl (.slice (some g) n c) (fun W=>by go_simp) ?_;refine ah.au rfl (.int .i64 (j:Int)) (fun W=>by go_simp) ?_
      repeat (refine ah.ak (fun K hK=>?_);go_simp;(refine hK _ ?_;clear hK K))
      refine ah.walk_nil ?_;intro w6 hb6 _;clear x0 x1;have h6:=HS.kept hb6;have f:=h6.free;have e1:=h6.cell hpn;have e2:=h6.cell hpn;have H7:=hid (h6.swap hbn hpa hpb hpa hpb);clear h6 hb6 HS;simp only[lC,drop_zero,Nat.zero_add,Nat.reduceAdd];go_wp2_with fail
      (try rw[Flow.aN]);clear e1 e2 f;generalize (w6.setCell ⟨g,j,none⟩ (.int .u32 ((gt L j:Nat):Int))).setCell ⟨g,j,none⟩ (.int .u32 ((gt L j:Nat):Int))=w7 at*;(try go_wp2_with fail);go_meet
      exact⟨rfl,_,H7,HPD⟩
    . have hne:j≠a:=hpq
      have hne':a≠j:=fun e=>hpq e.symm;go_upto_region 8 with fail
      have x0:=fun t:ah.aQ [] wc []=>cell (HS.cell hpn) (by simp) t;have x1:=fun t:ah.aQ [] wc []=>cell (HS.cell hqn) (by simp) t;refine ah.ay [] [(0,[]),(1,[]),(2,[]),(3,[]),(4,[]),(5,[]),(6,[]),(7,[]),(8,[]),(9,[]),(10,[]),(11,[]),(12,[])] [] [] [2,3] (by kernel_rfl) (by kernel_rfl) (by simp) ?_;simp only[ah.pick,ah.aM,dL]
      repeat (refine ah.ak (fun K hK=>?_);go_simp;(refine hK _ ?_;clear hK K))
      refine ah.au rfl (.slice (some g) n c) (fun W=>by go_simp) ?_;refine ah.au rfl (.int .i64 (a:Int)) (fun W=>by go_simp) ?_
      repeat (refine ah.ak (fun K hK=>?_);go_simp;(refine hK _ ?_;clear hK K))
      refine ah.walk_nil ?_;intro w6 hb6 _;clear x0 x1;have h6:=HS.kept hb6;have f:=h6.free;have e1:=h6.cell hpn;have e2:=h6.cell hqn;have H7:=hid (h6.swap hbn hpa hpb hqa hqb);clear h6 hb6 HS;simp only[lC,drop_zero,Nat.zero_add,Nat.reduceAdd];go_wp2_with fail
      (try rw[Flow.aN]);clear e1 e2 f;generalize (w6.setCell ⟨g,j,none⟩ (.int .u32 ((gt L a:Nat):Int))).setCell ⟨g,a,none⟩ (.int .u32 ((gt L j:Nat):Int))=w7 at*;(try go_wp2_with fail);go_meet
      exact⟨rfl,_,H7,HPD⟩
   case rest=>
   clear hpn hpa hpb hqn hqa hqb;obtain⟨-,HC⟩:=hcut;obtain⟨L2,HE,HF⟩:=HC;clear HS HPD;go_wp2_with fail
   exact bodyPost_ret (v:= .tuple #[(j:Int),.bool true]) (by simp[results,Tryz.results205,go_sem]) rfl ⟨j,true,rfl,L2,HE.out,HF.out⟩
 . go_upto_region 10 with fail
   have hij2:i<=j:=(by omega);have hx1:=HIX.out hij2;have hx2:=HJX.out hij2;obtain⟨j1,hj1⟩:∃j1,j=j1+1:=⟨j-1,by have:=HP.ai;omega⟩
   have HPN:Hid (Pt (swp L i j) a b (i+1) j1):=by
    have h1:=HP.out;rw[hj1]at h1 hx2 ⊢;exact h1.swap (by omega) (by rw[HS.len];exact hbn) hx1 hx2
   have hne:i≠j:=fun e=>by
    rw[e]at hx1;omega
   have hne':j≠i:=fun e=>hne e.symm;have hjb:j<b:=HP.jb;have hjn:j<n:=(by omega);have hia:a<=i:=(by have:=HP.ai;omega);have hilt:i<n:=(by omega);have hib:i<b:=(by omega);have hja:a<=j:=(by omega);have hw1:IntKind.i64.wrap ((i:Int)+1)=((i+1:Nat):Int):=(by rw[wrap_i64];omega);have hw2:IntKind.i64.wrap ((j:Int)-1)=(j1:Int):=(by rw[wrap_i64];omega);have HJ:=hid hj1;have HLE:=hid hij2;clear hx1 hx2 hj1 HIX HJX HP hij2 hgt;go_upto_region 10 with fail
   have x0:=fun t:ah.aQ [] wc []=>cell (HS.cell hilt) (by simp) t;have x1:=fun t:ah.aQ [] wc []=>cell (HS.cell hjn) (by simp) t;refine ah.ay [] [(0,[]),(1,[]),(2,[]),(3,[]),(4,[]),(5,[]),(6,[]),(7,[]),(8,[]),(9,[]),(10,[]),(11,[]),(12,[])] [] [] [2,3] (by kernel_rfl) (by kernel_rfl) (by simp) ?_;simp only[ah.pick,ah.aM,dL]
   repeat (refine ah.ak (fun K hK=>?_);go_simp;(refine hK _ ?_;clear hK K))
   refine ah.au rfl (.slice (some g) n c) (fun W=>by go_simp) ?_;refine ah.au rfl (.int .i64 (j:Int)) (fun W=>by go_simp) ?_
   repeat (refine ah.ak (fun K hK=>?_);go_simp;(refine hK _ ?_;clear hK K))
   refine ah.walk_nil ?_;intro w6 hb6 _;clear x0 x1;have h6:=HS.kept hb6;have f:=h6.free;have e1:=h6.cell hilt;have e2:=h6.cell hjn;have H7:=hid (h6.swap hbn hia hib hja hjb);clear h6 hb6 HS;simp only[lC,drop_zero,Nat.zero_add,Nat.reduceAdd];go_wp2_with fail
   rw[Flow.aN];clear e1 e2 f;generalize (w6.setCell ⟨g,i,none⟩ (.int .u32 ((gt L j:Nat):Int))).setCell ⟨g,j,none⟩ (.int .u32 ((gt L i:Nat):Int))=w7 at*;have hin2:i+1<=n:=(by omega);go_upto_block 4 with fail
   clear hne hne' hjn hilt hib hia hja hjb hw1 hw2 HJ hin HLE
   go_cut[10,11] (fun iv jv wx=>∃(i j:Nat) (L:List Nat),iv= .int .i64 (i:Int)/\jv= .int .i64 (j:Int)/\Hid (j<i)/\Hid (US w wx g c n l L a b)/\Hid (Pt L a b i j))
   case first=>
    go_wp2_with fail
    go_loopg[10,11] (j1+1-(i+1)) (fun gk iv jv wr=>∃(i j:Nat) (L:List Nat),gk=j+1-i/\iv= .int .i64 (i:Int)/\jv= .int .i64 (j:Int)/\i<=n/\Hid (US w wr g c n l L a b)/\Hid (Pt L a b i j))
    case atStart=>exact⟨i+1,j1,_,rfl,by go_num,rfl,hin2,H7,HPN⟩
    case round=>
     clear H7 HPN hin2;obtain⟨i0,j0,L0,rfl,rfl,rfl,hin,HS,HP⟩:=hrel;obtain⟨i,rfl⟩:=eX i0;obtain⟨j,rfl⟩:=eX j0;obtain⟨L,rfl⟩:=eX L0;obtain⟨mm,hmm⟩:=eX (j+1-i);have HM:Hid (j+1-i<=mm):=(by unfold Hid;omega);have HMM:=hid hmm;clear hmm;obtain⟨io,hio⟩:=eX i;have hile:io<=i:=(by omega);have HMo:Hid (j+1-io<=mm):=(by rw[hio];exact HM.out);clear HM;clear hio;go_upto_block 6 with fail
     go_cut[10] (fun iv wx=>∃i:Nat,iv= .int .i64 (i:Int)/\io<=i/\i<=n/\Hid (US w wx g c n l L a b)/\Hid (Pt L a b i j)/\Hid (i<=j->¬gt L i<gt L a))
     case first=>
      have HS0:=HS;have HP0:=HP;clear HS HP;go_wp2_with fail
      go_loopg[10] (j+1-i) (fun gk iv wr=>∃i:Nat,gk=j+1-i/\iv= .int .i64 (i:Int)/\io<=i/\i<=n/\Hid (US w wr g c n l L a b)/\Hid (Pt L a b i j))
      case atStart=>exact⟨i,rfl,rfl,hile,hin,HS0,HP0⟩
      case round=>
       obtain⟨i2,rfl,rfl,vT,hin2,HS,HP⟩:=hrel;clear HS0 HP0 hin hile;obtain⟨i,rfl⟩:=eX i2;obtain⟨wx,rfl⟩:=eX (wr:World);by_cases hij:i<=j
       . have hjn:j<n:=by have:=HP.jb;omega
         have hilt:i<n:=(by omega);have hw1:IntKind.i64.wrap ((i:Int)+1)=((i+1:Nat):Int):=(by rw[wrap_i64];omega);have d1:=HS.cell hilt;have d2:=HS.cell han;by_cases hxy:gt L i<gt L a
         .
          have cL:=fun w=>hid (bI (t:=true) (x:=gt L i) (y:=gt L a) (by simpa using hxy) w);have HP2:=hid (HP.up hij hxy);clear hxy HP;go_upto_region 13 with fail
          go_quiet ((go_at_call 203;exact Calls.quiet_of_same ((cL _).mono fun e w' ⟨he,hw⟩=>⟨he,hw.symm⟩)))
          have HSq:=hid (HS.drew nq);clear HS d1 d2;go_wp2_with fail
          go_roundg (j+1-(i+1))
          case measure=>omega
          case rel=>exact⟨i+1,rfl,by go_num,by omega,by omega,HSq,HP2⟩
         .
          have cL:=fun w=>hid (bI (t:=false) (x:=gt L i) (y:=gt L a) (by simpa using hxy) w);have HX:Hid (i<=j->¬gt L i<gt L a):=fun _=>hxy;clear hxy;go_upto_region 13 with fail
          go_quiet ((go_at_call 203;exact Calls.quiet_of_same ((cL _).mono fun e w' ⟨he,hw⟩=>⟨he,hw.symm⟩)))
          have HSq:=hid (HS.drew nq);clear HS d1 d2;go_wp2_with fail
          go_meet
          exact⟨i,rfl,by omega,by omega,HSq,HP,HX⟩
       . have HX:Hid (i<=j->¬gt L i<gt L a):=fun h=>absurd h hij
         have hij':j<i:=(by omega);go_upto_region 13 with fail
         go_quiet (fail)
         have HSq:=hid (HS.drew nq);clear HS;go_wp2_with fail
         go_meet
         exact⟨i,rfl,by omega,by omega,HSq,HP,HX⟩
     case rest=>
     obtain⟨i2,rfl,vT,hin2,HS2,HP2,HIX⟩:=hcut;have HM:Hid (j+1-i2<=mm):=(by have:=HMo.out;unfold Hid;omega);clear HMo;clear HS HP hin hile vT;obtain⟨i,rfl⟩:=eX i2;have HS:=HS2;have HP:=HP2;have hin:=hin2;clear HS2 HP2 hin2;obtain⟨jo,hjo⟩:=eX j;have JQ:Hid (∀j',j'<=jo->i<=j'->¬gt L i<gt L a):=fun j' h1 h2=>HIX.out (by omega);have hjle:j<=jo:=(by omega);have HMo:Hid (jo+1-i<=mm):=(by rw[hjo];exact HM.out);clear HM;clear hjo HIX;go_upto_block 8 with fail
     go_cut[11] (fun jv wx=>∃j:Nat,jv= .int .i64 (j:Int)/\j<=jo/\Hid (US w wx g c n l L a b)/\Hid (Pt L a b i j)/\Hid (i<=j->¬gt L a<=gt L j))
     case first=>
      have HS0:=HS;have HP0:=HP;clear HS HP;go_wp2_with fail
      go_loopg[11] (j+1-i) (fun gk jv wr=>∃j:Nat,gk=j+1-i/\jv= .int .i64 (j:Int)/\j<=jo/\Hid (US w wr g c n l L a b)/\Hid (Pt L a b i j))
      case atStart=>exact⟨j,rfl,rfl,hjle,HS0,HP0⟩
      case round=>
       obtain⟨j2,rfl,rfl,jT,HS,HP⟩:=hrel;clear HS0 HP0 hjle;obtain⟨j,rfl⟩:=eX j2;obtain⟨wx,rfl⟩:=eX (wr:World);by_cases hij:i<=j
       . have hjn:j<n:=by have:=HP.jb;omega
         obtain⟨j1,hj1⟩:∃j1,j=j1+1:=⟨j-1,by have:=HP.ai;omega⟩
         have HJ:=hid hj1;have hw1:IntKind.i64.wrap ((j:Int)-1)=(j1:Int):=(by rw[wrap_i64];omega);have d1:=HS.cell hjn;have d2:=HS.cell han;clear hj1;by_cases hxy:gt L j<gt L a
         .
          have cL:=fun w=>hid (bI (t:=true) (x:=gt L j) (y:=gt L a) (by simpa using hxy) w);(have HX:Hid (i<=j->¬gt L a<=gt L j):=fun _=>by omega);clear hxy;go_upto_region 15 with fail
          go_quiet ((go_at_call 203;exact Calls.quiet_of_same ((cL _).mono fun e w' ⟨he,hw⟩=>⟨he,hw.symm⟩)))
          have HSq:=hid (HS.drew nq);clear HS d1 d2;go_wp2_with fail
          go_meet
          exact⟨j,rfl,jT,HSq,HP,HX⟩
         .
          have cL:=fun w=>hid (bI (t:=false) (x:=gt L j) (y:=gt L a) (by simpa using hxy) w)
          have HP2:Hid (Pt L a b i j1):=by
           have h1:=HP.out;rw[HJ.out]at h1;exact h1.down (by have:=HJ.out;omega) (by rw[<-HJ.out];omega)
          clear hxy HP;go_upto_region 15 with fail
          go_quiet ((go_at_call 203;exact Calls.quiet_of_same ((cL _).mono fun e w' ⟨he,hw⟩=>⟨he,hw.symm⟩)))
          have HSq:=hid (HS.drew nq);clear HS d1 d2;go_wp2_with fail
          go_roundg (j1+1-i)
          case measure=>have:=HJ.out;omega
          case rel=>exact⟨j1,rfl,rfl,by have:=HJ.out;omega,HSq,HP2⟩
       . have HX:Hid (i<=j->¬gt L a<=gt L j):=fun h=>absurd h hij
         have hij':j<i:=(by omega);go_upto_region 15 with fail
         go_quiet (fail)
         have HSq:=hid (HS.drew nq);clear HS;go_wp2_with fail
         go_meet
         exact⟨j,rfl,jT,HSq,HP,HX⟩
     case rest=>
     obtain⟨j2,rfl,jT,HS2,HP2,HJX⟩:=hcut;have HIX:Hid (i<=j2->¬gt L i<gt L a):=fun h=>JQ.out j2 jT h;have HM:Hid (j2+1-i<=mm):=(by have:=HMo.out;unfold Hid;omega);clear HMo;clear HS HP JQ hjle jT;obtain⟨j,rfl⟩:=eX j2;have HS:=HS2;have HP:=HP2;clear HS2 HP2;by_cases hgt:j<i
     . have HG:=hid hgt
       clear HIX HJX hgt;go_wp2_with fail
       go_meet
       exact⟨i,j,L,rfl,rfl,HG,HS,HP⟩
     . go_upto_region 18 with fail
       have hij2:i<=j:=(by omega);have hx1:=HIX.out hij2;have hx2:=HJX.out hij2;obtain⟨j1,hj1⟩:∃j1,j=j1+1:=⟨j-1,by have:=HP.ai;omega⟩
       have HPN:Hid (Pt (swp L i j) a b (i+1) j1):=by
        have h1:=HP.out;rw[hj1]at h1 hx2 ⊢;exact h1.swap (by omega) (by rw[HS.len];exact hbn) hx1 hx2
       have hne:i≠j:=fun e=>by
        rw[e]at hx1;omega
       have hne':j≠i:=fun e=>hne e.symm;have hjb:j<b:=HP.jb;have hjn:j<n:=(by omega);have hia:a<=i:=(by have:=HP.ai;omega);have hilt:i<n:=(by omega);have hib:i<b:=(by omega);have hja:a<=j:=(by omega);have hw1:IntKind.i64.wrap ((i:Int)+1)=((i+1:Nat):Int):=(by rw[wrap_i64];omega);have hw2:IntKind.i64.wrap ((j:Int)-1)=(j1:Int):=(by rw[wrap_i64];omega);have HJ:=hid hj1;have HLE:=hid hij2;clear hx1 hx2 hj1 HIX HJX HP hij2 hgt;go_upto_region 18 with fail
       have x0:=fun t:ah.aQ [] wc []=>cell (HS.cell hilt) (by simp) t;have x1:=fun t:ah.aQ [] wc []=>cell (HS.cell hjn) (by simp) t;refine ah.ay [] [(0,[]),(1,[]),(2,[]),(3,[]),(4,[]),(5,[]),(6,[]),(7,[]),(8,[]),(9,[]),(10,[]),(11,[]),(12,[])] [] [] [2,3] (by kernel_rfl) (by kernel_rfl) (by simp) ?_;simp only[ah.pick,ah.aM,dL]
       repeat (refine ah.ak (fun K hK=>?_);go_simp;(refine hK _ ?_;clear hK K))
       refine ah.au rfl (.slice (some g) n c) (fun W=>by go_simp) ?_;refine ah.au rfl (.int .i64 (j:Int)) (fun W=>by go_simp) ?_
       repeat (refine ah.ak (fun K hK=>?_);go_simp;(refine hK _ ?_;clear hK K))
       refine ah.walk_nil ?_;intro w6 hb6 _;clear x0 x1;have h6:=HS.kept hb6;have f:=h6.free;have e1:=h6.cell hilt;have e2:=h6.cell hjn;have H7:=hid (h6.swap hbn hia hib hja hjb);clear h6 hb6 HS;simp only[lC,drop_zero,Nat.zero_add,Nat.reduceAdd];go_wp2_with fail
       rw[Flow.aN];clear e1 e2 f;generalize (w6.setCell ⟨g,i,none⟩ (.int .u32 ((gt L j:Nat):Int))).setCell ⟨g,j,none⟩ (.int .u32 ((gt L i:Nat):Int))=w7 at*;go_wp2_with fail
       go_roundg (j1+1-(i+1))
       case measure=>have:=HJ.out;have:=HLE.out;have:=HM.out;have:=HMM.out;omega
       case rel=>exact⟨i+1,j1,_,rfl,by go_num,rfl,by omega,H7,HPN⟩
   case rest=>
   clear H7 HPN;obtain⟨i0,j0,L0,rfl,rfl,HG,HS,HP⟩:=hcut;obtain⟨i,rfl⟩:=eX i0;obtain⟨j,rfl⟩:=eX j0;obtain⟨L,rfl⟩:=eX L0;have hgt:=HG.out;have hij2:j<i:=hgt;have HPD:Hid (fO (swp L j a) a b j):=HP.done hij2 (by rw[HS.len];exact hbn);have hpn:j<n:=(by have:=HP.jb;omega);have hpa:a<=j:=(by have:=HP.ai;have:=HP.ij;omega);have hpb:j<b:=HP.jb;have hqn:=han;have hqa:=Nat.le_refl a;have hqb:=hab;go_upto_region 21 with fail
   go_cut[153] (fun sv wx=>sv=(.slice (some g) n c)/\(∃L,Hid (US w wx g c n l L a b)/\Hid (fO L a b j)))
   case first=>
    by_cases hpq:j=a
    . subst hpq
      go_upto_region 21 with fail
      have x0:=fun t:ah.aQ [] wc []=>cell (HS.cell hpn) (by simp) t;have x1:=fun t:ah.aQ [] wc []=>cell (HS.cell hpn) (by simp) t;refine ah.ay [] [(0,[]),(1,[]),(2,[]),(3,[]),(4,[]),(5,[]),(6,[]),(7,[]),(8,[]),(9,[]),(10,[]),(11,[]),(12,[])] [] [] [2,3] (by kernel_rfl) (by kernel_rfl) (by simp) ?_;simp only[ah.pick,ah.aM,dL]
      repeat (refine ah.ak (fun K hK=>?_);go_simp;(refine hK _ ?_;clear hK K))
      refine ah.au rfl (.slice (some g) n c) (fun W=>by go_simp) ?_;refine ah.au rfl (.int .i64 (j:Int)) (fun W=>by go_simp) ?_
      repeat (refine ah.ak (fun K hK=>?_);go_simp;(refine hK _ ?_;clear hK K))
      refine ah.walk_nil ?_;intro w6 hb6 _;clear x0 x1;have h6:=HS.kept hb6;have f:=h6.free;have e1:=h6.cell hpn;have e2:=h6.cell hpn;have H7:=hid (h6.swap hbn hpa hpb hpa hpb);clear h6 hb6 HS;simp only[lC,drop_zero,Nat.zero_add,Nat.reduceAdd];go_wp2_with fail
      (try rw[Flow.aN]);clear e1 e2 f;generalize (w6.setCell ⟨g,j,none⟩ (.int .u32 ((gt L j:Nat):Int))).setCell ⟨g,j,none⟩ (.int .u32 ((gt L j:Nat):Int))=w7 at*;(try go_wp2_with fail);go_meet
      exact⟨rfl,_,H7,HPD⟩
    . have hne:j≠a:=hpq
      have hne':a≠j:=fun e=>hpq e.symm;go_upto_region 21 with fail
      have x0:=fun t:ah.aQ [] wc []=>cell (HS.cell hpn) (by simp) t;have x1:=fun t:ah.aQ [] wc []=>cell (HS.cell hqn) (by simp) t;refine ah.ay [] [(0,[]),(1,[]),(2,[]),(3,[]),(4,[]),(5,[]),(6,[]),(7,[]),(8,[]),(9,[]),(10,[]),(11,[]),(12,[])] [] [] [2,3] (by kernel_rfl) (by kernel_rfl) (by simp) ?_;simp only[ah.pick,ah.aM,dL]
      repeat (refine ah.ak (fun K hK=>?_);go_simp;(refine hK _ ?_;clear hK K))
      refine ah.au rfl (.slice (some g) n c) (fun W=>by go_simp) ?_;refine ah.au rfl (.int .i64 (a:Int)) (fun W=>by go_simp) ?_
      repeat (refine ah.ak (fun K hK=>?_);go_simp;(refine hK _ ?_;clear hK K))
      refine ah.walk_nil ?_;intro w6 hb6 _;clear x0 x1;have h6:=HS.kept hb6;have f:=h6.free;have e1:=h6.cell hpn;have e2:=h6.cell hqn;have H7:=hid (h6.swap hbn hpa hpb hqa hqb);clear h6 hb6 HS;simp only[lC,drop_zero,Nat.zero_add,Nat.reduceAdd];go_wp2_with fail
      (try rw[Flow.aN]);clear e1 e2 f;generalize (w6.setCell ⟨g,j,none⟩ (.int .u32 ((gt L a:Nat):Int))).setCell ⟨g,a,none⟩ (.int .u32 ((gt L j:Nat):Int))=w7 at*;(try go_wp2_with fail);go_meet
      exact⟨rfl,_,H7,HPD⟩
   case rest=>
   clear hpn hpa hpb hqn hqa hqb;obtain⟨-,HC⟩:=hcut;obtain⟨L2,HE,HF⟩:=HC;clear HS HPD;go_wp2_with fail
   exact bodyPost_ret (v:= .tuple #[(j:Int),.bool false]) (by simp[results,Tryz.results205,go_sem]) rfl ⟨j,false,rfl,L2,HE.out,HF.out⟩
end Pq
end Go.Proofs.YtmcbidhpkpmalaaGreatDoor
