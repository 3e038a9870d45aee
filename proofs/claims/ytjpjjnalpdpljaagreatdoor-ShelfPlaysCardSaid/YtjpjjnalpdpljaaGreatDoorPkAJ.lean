import Derived.Test.YtjpjjnalpdpljaaGreatDoorPkAH
import Derived.Test.YtjpjjnalpdpljaaGreatDoorPkAG
import Derived.Test.YtjpjjnalpdpljaaGreatDoorPkAC
import Derived.Test.YtjpjjnalpdpljaaGreatDoorPkAB
import Derived.Test.YtjpjjnalpdpljaaGreatDoorPqDrift
import Derived.WalkSpells
set_option maxHeartbeats 4000000
set_option maxRecDepth 100000
namespace Go.Proofs.YtjpjjnalpdpljaaGreatDoor
open Go.RowKit
open Go.Lib (hid)
open ah (dL)
open ah.aS (cell)
open IntKind (wrap_i64)
namespace Pq
open Mem Hp
theorem Adj.yV {l:List Nat} {a i p q:Nat} (h:Adj l a i) (hp:i<=p) (hq:i<=q) (hpl:p<l.length) (hql:q<l.length):Adj (swp l p q) a i:=fun k h1 h2=>by
 have G:=jA (l:=l) hpl hql;rw [G,G,if_neg (by omega),if_neg (by omega),if_neg (by omega),if_neg (by omega)];exact h k h1 h2
theorem Adj.less {l:List Nat} {a i j:Nat} (h:Adj l a i) (hj:j<=i):Adj l a j:=fun k h1 h2=>h k h1 (by omega)
theorem wW {w:World} {g c n a b:Nat} {l:List Nat} (h:Ow 25 w g c (l.map nV)) (hl:l.length=n) (hab:a+12<b) (hbn:b<=n) (hn:n<=1000) (Mj:Blw l a b):Calls Tryz.prog 191 #[.slice (some ⟨g,0,none⟩) n c,(a:Int),(b:Int)] w fun e w'=>∃(t:Bool) (L:List Nat),e=.returned (.bool t)/\US w w' g c n l L a b/\(t=true->Adj L a b):=by
 have H0:Hid (US w w g c n l l a b/\Adj l a (a+1)):=⟨US.start h hl a b,fun k h1 h2=>by omega⟩;have HBL:Hid (∀L,Mvd l L a b->Blw L a b):=fun L hm=>Mj.moved hm (by rw [hl];exact hbn);have hw0:IntKind.i64.wrap ((a:Int)+1)=((a+1:Nat):Int):=by rw [wrap_i64];omega
 obtain ⟨m0,hm0⟩:∃m,m=b-a:=⟨_,rfl⟩
 have hwm:IntKind.i64.wrap ((b:Int)-(a:Int))=(m0:Int):=by rw [wrap_i64];omega
 clear h hl Mj hm0;go_enter Tryz.func191,Tryz.ntmps191
 go_upto_block 0 with fail
 clear hw0;go_wp2_with fail
 go_loopg [7,8] 5 (fun gk iv jv wr=>∃(i s:Nat) (L:List Nat),gk=5-s/\iv= .int .i64 (i:Int)/\jv= .int .i64 (s:Int)/\s<=5/\a+1<=i/\i<=b/\Hid (US w wr g c n l L a b)/\Hid (Adj L a i))
 case atStart=>exact ⟨a+1,0,l,rfl,by go_num,rfl,by omega,by omega,by omega,H0.out.1,H0.out.2⟩
 case round=>
  obtain ⟨i,s,L,rfl,rfl,rfl,hs5,hi1,hib,HS,HA⟩:=hrel;clear H0;by_cases hs:s<5
  case neg=>
   have hs':5<=s:=(by omega);go_wp2_with fail
   go_ret
   exact ⟨false,L,rfl,HS.out,fun e=>by cases e⟩
  have HSS:=hid hs;go_upto_block 2 with fail
  go_cut [7] (fun iv wx=>∃i:Nat,iv= .int .i64 (i:Int)/\a+1<=i/\i<=b/\Hid (US w wx g c n l L a b)/\Hid (Adj L a i)/\Hid (i<b->gt L i<gt L (i-1)))
  case first=>
   have HS0:=HS;have HA0:=HA;clear HS HA;go_wp2_with fail
   go_loopg [7] (b-i) (fun gk iv wr=>∃i:Nat,gk=b-i/\iv= .int .i64 (i:Int)/\a+1<=i/\i<=b/\Hid (US w wr g c n l L a b)/\Hid (Adj L a i))
   case atStart=>exact ⟨i,rfl,rfl,hi1,hib,HS0,HA0⟩
   case round=>
    obtain ⟨i2,rfl,rfl,hj1,hjb,HS,HA⟩:=hrel;clear HS0 HA0 hi1 hib;obtain ⟨i,rfl⟩:∃i,i=i2:=⟨_,rfl⟩
    by_cases hlt:i<b
    . obtain ⟨i1,Mk⟩:∃i1,i=i1+1:=⟨i-1,by omega⟩
      have hw1:IntKind.i64.wrap ((i:Int)-1)=(i1:Int):=(by rw [wrap_i64];omega);have hw2:IntKind.i64.wrap ((i:Int)+1)=((i+1:Nat):Int):=(by rw [wrap_i64];omega);have hin:i<n:=(by omega);have Rk:i1<n:=(by omega);have d1:=HS.out.cell hin;have d2:=HS.out.cell Rk;have HI:=hid Mk;clear Mk;by_cases hxy:gt L i<gt L i1
      . have cL:=fun w=>hid (bP (t:=true) (x:=gt L i) (y:=gt L i1) (by simpa using hxy) w)
        (have HX:Hid (i<b->gt L i<gt L (i-1)):=fun _=>by rw [HI.out,Nat.add_sub_cancel,<-HI.out];exact hxy);clear hxy;go_upto_region 5 with fail
        go_quiet ((go_at_call 192;exact Calls.quiet_of_same ((cL _).out.mono fun e w' ⟨he,hw⟩=>⟨he,hw.symm⟩)))
        have HSq:=hid (HS.out.drew nq);clear HS d1 d2;go_wp2_with fail
        go_meet
        exact ⟨i,rfl,hj1,hjb,HSq,HA,HX⟩
      . have cL:=fun w=>hid (bP (t:=false) (x:=gt L i) (y:=gt L i1) (by simpa using hxy) w)
        have HA2:Hid (Adj L a (i+1)):=fun k h1 h2=>by
         by_cases e:k=i
         . rw [e,show i-1=i1 by have:=HI.out;omega]
           omega
         . exact HA.out k h1 (by omega)
        clear hxy HA;go_upto_region 5 with fail
        go_quiet ((go_at_call 192;exact Calls.quiet_of_same ((cL _).out.mono fun e w' ⟨he,hw⟩=>⟨he,hw.symm⟩)))
        have HSq:=hid (HS.out.drew nq);clear HS d1 d2;go_wp2_with fail
        go_roundg (b-(i+1))
        case measure=>omega
        case rel=>exact ⟨i+1,rfl,by go_num,by omega,by omega,HSq,HA2⟩
    . have HX:Hid (i<b->gt L i<gt L (i-1)):=fun h=>absurd h hlt
      have hge:b<=i:=(by omega);go_upto_region 5 with fail
      go_quiet (fail)
      have HSq:=hid (HS.out.drew nq);clear HS;go_wp2_with fail
      go_meet
      exact ⟨i,rfl,hj1,hjb,HSq,HA,HX⟩
  case rest=>
  clear HS HA hi1 hib;obtain ⟨i2,rfl,hi1,hib,HS2,HA2,HX⟩:=hcut;obtain ⟨i,rfl⟩:∃i,i=i2:=⟨_,rfl⟩
  have HS:=HS2;have HA:=HA2;clear HS2 HA2;by_cases hie:i=b
  . subst hie
    clear HX;go_wp2_with fail
    go_ret
    exact ⟨true,L,rfl,HS.out,fun _=>HA.out⟩
  have hlt:i<b:=by omega
  have hd:((i:Int)==(b:Int))=false:=by simp;omega
  by_cases h50:m0<50
  . clear HX
    go_wp2_with fail
    go_ret
    exact ⟨false,L,rfl,HS.out,fun e=>by cases e⟩
  have Qr:50<=m0:=by omega
  obtain ⟨i1,Mk⟩:∃i1,i=i1+1:=⟨i-1,by omega⟩
  have hw1:IntKind.i64.wrap ((i:Int)-1)=(i1:Int):=by rw [wrap_i64];omega
  have hpn:i<n:=by omega
  have hqn:i1<n:=by omega
  have hpa:a<=i:=by omega
  have hpb:=hlt;have hqa:a<=i1:=by omega
  have hqb:i1<b:=by omega
  have hne:i≠i1:=by omega
  have hne':i1≠i:=by omega
  have HI:=hid Mk;have HA3:Hid (Adj (swp L i i1) a i1):=(HA.out.less (by omega)).yV (by omega) (Nat.le_refl _) (by rw [HS.out.len];exact hpn) (by rw [HS.out.len];exact hqn);clear Mk HX HA hie;go_upto_region 11 with fail
  go_upto_region 11 with fail
  have x0:=fun t:ah.aS [] wc []=>cell (HS.out.cell hpn) (by simp) t;have x1:=fun t:ah.aS [] wc []=>cell (HS.out.cell hqn) (by simp) t;refine ah.aB [] [(0,[]),(1,[]),(2,[]),(3,[]),(4,[]),(5,[]),(6,[]),(7,[]),(8,[]),(9,[]),(10,[]),(11,[]),(12,[]),(13,[]),(14,[])] [] [] [2,3,4] (by kernel_rfl) (by kernel_rfl) (by simp) ?_;simp only [ah.pick,ah.aO,dL]
  repeat (refine ah.ak (fun K hK=>?_);go_simp;(refine hK _ ?_;clear hK K))
  refine ah.ay rfl (.slice (some ⟨g,0,none⟩) n c) (fun W=>by go_simp) ?_;refine ah.ay rfl (.int .i64 (i:Int)) (fun W=>by go_simp) ?_;refine ah.ay rfl (.int .i64 (i1:Int)) (fun W=>by go_simp) ?_
  repeat (refine ah.ak (fun K hK=>?_);go_simp;(refine hK _ ?_;clear hK K))
  refine ah.walk_nil ?_;intro w6 hb6 _;clear x0 x1;have h6:=HS.out.kept hb6;have f:=h6.free;have e1:=h6.cell hpn;have e2:=h6.cell hqn;have H7:=hid (h6.swap hbn hpa hpb hqa hqb);clear h6 hb6 HS;simp only [lC,List.drop_zero,Nat.zero_add,Nat.reduceAdd];go_wp2_with fail
  (try rw [Flow.aP]);clear e1 e2 f;generalize (w6.setCell ⟨g,i,none⟩ (.int .u32 ((gt L i1:Nat):Int))).setCell ⟨g,i1,none⟩ (.int .u32 ((gt L i:Nat):Int))=w7 at*;clear hpn hqn hpa hpb hqa hqb hne hne' hd h50 Qr;generalize swp L i i1=L1 at*;obtain ⟨d2,hd2⟩:∃d,d=i-a:=⟨_,rfl⟩
  have hwd:IntKind.i64.wrap ((i:Int)-(a:Int))=(d2:Int):=by rw [wrap_i64];omega
  have HD2:=hid hd2;clear hd2;go_upto_region 12 with fail
  go_cut [61] (fun tv wx=>∃t:Bool,tv= .bool t/\Hid (t=true↔2<=d2)/\Hid (US w wx g c n l L1 a b))
  case first=>
   go_wp2_with fail
   go_meet
   exact ⟨_,rfl,(by unfold Hid;simp;omega),H7⟩
  case rest=>
  obtain ⟨t12,rfl,Oe,H7'⟩:=hcut;clear H7 hwd;have H7:=H7';clear H7';go_upto_if 61 with fail
  go_cut [7] (fun iv wx=>iv= .int .i64 (i:Int)/\(∃L,Hid (US w wx g c n l L a b)/\Hid (Adj L a i)))
  case first=>
   cases t12 with
   |false=>
    have HAE:Hid (Adj L1 a i):=fun k h1 h2=>by
     have:=HD2.out;(have h3:¬2<=d2:=fun h=>by have:=Oe.out.2 h;cases this);omega
    clear Oe;go_wp2_with fail
    go_meet
    exact ⟨rfl,L1,H7,HAE⟩
   |true=>
   have hd3:=Oe.out.1 rfl;clear Oe;have HIN:Hid (Ins L1 a i1 i1):=Ins.start HA3.out;have hia:a<=i1:=(by have:=HI.out;omega);have R6:i1<b:=(by have:=HI.out;omega);have Rl:=hd3;clear hd3 Rl;go_upto_block 4 with fail
   clear hw1 HA3;go_wp2_with fail
   go_loopg [9] i1 (fun gk jv wr=>∃(j:Nat) (L:List Nat),gk=j/\jv= .int .i64 (j:Int)/\a<=j/\j<=i1/\Hid (US w wr g c n l L a b)/\Hid (Ins L a i1 j))
   case atStart=>exact ⟨i1,L1,rfl,rfl,hia,Nat.le_refl _,H7,HIN⟩
   case round=>
    obtain ⟨j,L,hgk,rfl,hja,hji,HS,Ml⟩:=hrel;replace hgk:=hgk.symm;subst hgk;clear H7 HIN;obtain ⟨wx,rfl⟩:∃wx:World,wx=wr:=⟨_,rfl⟩
    have GA:Hid (j<=a\/gt L (j-1)<=gt L j->Adj L a i):=fun h=>by
     have:=Ml.out.stop h
     rwa [<-HI.out] at this
    rcases Nat.eq_zero_or_pos j with h0|h0
    . have HAE:=hid (GA.out (.inl (by omega)))
      subst h0;clear GA Ml;go_wp2_with fail
      go_meet
      exact ⟨rfl,L,HS,HAE⟩
    obtain ⟨j1,hj1⟩:∃j1,j=j1+1:=⟨j-1,by omega⟩
    have hwj:IntKind.i64.wrap ((j:Int)-1)=(j1:Int):=(by rw [wrap_i64];omega);have hpn:j<n:=(by omega);have hqn:j1<n:=(by omega);have d1:=HS.out.cell hpn;have d2':=HS.out.cell hqn;have hj0:1<=j:=h0;by_cases hxy:gt L j<gt L j1
    . have R7:a<j:=by
       rcases Nat.lt_or_ge a j with h1|h1
       . exact h1
       . exfalso
         have e:j=a:=(by omega);have:=HBL.out L HS.out.mv (by omega) a (Nat.le_refl _) (by omega);rw [show a-1=j1 by omega,<-e] at this;omega
      have HJ:=hid hj1
      have Rm:Hid (Ins (swp L j j1) a i1 j1):=by
       have:=Ml.out;rw [hj1] at this hxy ⊢;exact this.step (by omega) (by omega) (by rw [HS.out.len];omega) hxy
      have cL:=fun w=>hid (bP (t:=true) (x:=gt L j) (y:=gt L j1) (by simpa using hxy) w);have hpa:a<=j:=(by omega);have hpb:j<b:=(by omega);have hqa:a<=j1:=(by omega);have hqb:j1<b:=(by omega);have hne:j≠j1:=(by omega);have hne':j1≠j:=(by omega);clear hxy Ml GA hj1;go_upto_region 16 with fail
      go_quiet ((go_at_call 192;exact Calls.quiet_of_same ((cL _).out.mono fun e w' ⟨he,hw⟩=>⟨he,hw.symm⟩)))
      go_upto_region 17 with fail
      have HSq:=hid (HS.out.drew nq);clear HS d1 d2' cL;generalize wx.drewN nq=wx at*;have HS:=HSq;clear HSq;go_upto_region 17 with fail
      have x0:=fun t:ah.aS [] wx []=>cell (HS.out.cell hpn) (by simp) t;have x1:=fun t:ah.aS [] wx []=>cell (HS.out.cell hqn) (by simp) t;refine ah.aB [] [(0,[]),(1,[]),(2,[]),(3,[]),(4,[]),(5,[]),(6,[]),(7,[]),(8,[]),(9,[]),(10,[]),(11,[]),(12,[]),(13,[]),(14,[])] [] [] [2,3,4] (by kernel_rfl) (by kernel_rfl) (by simp) ?_;simp only [ah.pick,ah.aO,dL]
      repeat (refine ah.ak (fun K hK=>?_);go_simp;(refine hK _ ?_;clear hK K))
      refine ah.ay rfl (.slice (some ⟨g,0,none⟩) n c) (fun W=>by go_simp) ?_;refine ah.ay rfl (.int .i64 (j:Int)) (fun W=>by go_simp) ?_;refine ah.ay rfl (.int .i64 (j1:Int)) (fun W=>by go_simp) ?_
      repeat (refine ah.ak (fun K hK=>?_);go_simp;(refine hK _ ?_;clear hK K))
      refine ah.walk_nil ?_;intro w6 hb6 _;clear x0 x1;have h6:=HS.out.kept hb6;have f:=h6.free;have e1:=h6.cell hpn;have e2:=h6.cell hqn;have H7:=hid (h6.swap hbn hpa hpb hqa hqb);clear h6 hb6 HS;simp only [lC,List.drop_zero,Nat.zero_add,Nat.reduceAdd];go_wp2_with fail
      (try rw [Flow.aP]);clear e1 e2 f;generalize (w6.setCell ⟨g,j,none⟩ (.int .u32 ((gt L j1:Nat):Int))).setCell ⟨g,j1,none⟩ (.int .u32 ((gt L j:Nat):Int))=w7 at*;(try go_wp2_with fail)
      go_roundg j1
      case measure=>have:=HJ.out;omega
      case rel=>exact ⟨j1,_,rfl,rfl,by have:=HJ.out;omega,by have:=HJ.out;omega,H7,Rm⟩
    . have cL:=fun w=>hid (bP (t:=false) (x:=gt L j) (y:=gt L j1) (by simpa using hxy) w)
      have HAE:=hid (GA.out (.inr (by rw [show j-1=j1 by omega];omega)));clear hxy Ml GA hj1;go_upto_region 16 with fail
      go_quiet ((go_at_call 192;exact Calls.quiet_of_same ((cL _).out.mono fun e w' ⟨he,hw⟩=>⟨he,hw.symm⟩)))
      have HSq:=hid (HS.out.drew nq);clear HS d1 d2';go_wp2_with fail
      go_meet
      exact ⟨rfl,L,HSq,HAE⟩
  case rest=>
  clear H7 HA3 HD2 hw1;obtain ⟨rfl,L,HS,HA⟩:=hcut;obtain ⟨d3,hd3⟩:∃d,d=b-i:=⟨_,rfl⟩
  have hwd:IntKind.i64.wrap ((b:Int)-(i:Int))=(d3:Int):=by rw [wrap_i64];omega
  have hwi:IntKind.i64.wrap ((i:Int)+1)=((i+1:Nat):Int):=by rw [wrap_i64];omega
  have HD3:=hid hd3;clear hd3;go_upto_region 18 with fail
  go_cut [98] (fun tv wx=>∃t:Bool,tv= .bool t/\Hid (t=true↔2<=d3)/\Hid (US w wx g c n l L a b))
  case first=>
   go_wp2_with fail
   go_meet
   exact ⟨_,rfl,(by unfold Hid;simp;omega),HS⟩
  case rest=>
  obtain ⟨t18,rfl,O1,HS'⟩:=hcut;clear HS hwd;have HS:=HS';clear HS';go_upto_if 98 with fail
  cases t18 with
  |false=>
   clear O1;have hs:=HSS.out;have hws:IntKind.i64.wrap ((s:Int)+1)=((s+1:Nat):Int):=(by rw [wrap_i64];omega);go_wp2_with fail
   go_roundg (5-(s+1))
   case measure=>omega
   case rel=>exact ⟨i,s+1,L,rfl,rfl,by go_num,by omega,hi1,by omega,HS,HA⟩
  |true=>
  have Rn:i+1<=b:=by have:=O1.out.1 rfl;have:=HD3.out;omega
  clear O1;go_upto_block 6 with fail
  clear hwi;have HS0:=HS;have HA0:=HA;clear HS HA;go_wp2_with fail
  go_loopg [10] (b-(i+1)) (fun gk jv wr=>∃(j:Nat) (L:List Nat),gk=b-j/\jv= .int .i64 (j:Int)/\i+1<=j/\j<=b/\Hid (US w wr g c n l L a b)/\Hid (Adj L a i))
  case atStart=>exact ⟨i+1,L,rfl,by go_num,Nat.le_refl _,Rn,HS0,HA0⟩
  case round=>
   obtain ⟨j,L,rfl,rfl,hij,hjb,HS,HA⟩:=hrel;clear HS0 HA0;obtain ⟨wx,rfl⟩:∃wx:World,wx=wr:=⟨_,rfl⟩
   by_cases hjl:j<b
   case neg=>
    have R8:b<=j:=(by omega);have hs:=HSS.out;have hws:IntKind.i64.wrap ((s:Int)+1)=((s+1:Nat):Int):=(by rw [wrap_i64];omega);go_wp2_with fail
    go_roundg (5-(s+1))
    case measure=>omega
    case rel=>exact ⟨i,s+1,L,rfl,rfl,by go_num,by omega,hi1,by omega,HS,HA⟩
   obtain ⟨j1,hj1⟩:∃j1,j=j1+1:=⟨j-1,by omega⟩
   have hwj:IntKind.i64.wrap ((j:Int)-1)=(j1:Int):=(by rw [wrap_i64];omega);have R9:IntKind.i64.wrap ((j:Int)+1)=((j+1:Nat):Int):=(by rw [wrap_i64];omega);have hpn:j<n:=(by omega);have hqn:j1<n:=(by omega);have d1:=HS.out.cell hpn;have d2':=HS.out.cell hqn;have HJ:=hid hj1;by_cases hxy:gt L j<gt L j1
   . have HAN:Hid (Adj (swp L j j1) a i):=HA.out.yV (by omega) (by omega) (by rw [HS.out.len];exact hpn) (by rw [HS.out.len];exact hqn)
     have cL:=fun w=>hid (bP (t:=true) (x:=gt L j) (y:=gt L j1) (by simpa using hxy) w);have hpa:a<=j:=(by omega);have hpb:j<b:=(by omega);have hqa:a<=j1:=(by omega);have hqb:j1<b:=(by omega);have hne:j≠j1:=(by omega);have hne':j1≠j:=(by omega);clear hxy HA hj1;go_upto_region 22 with fail
     go_quiet ((go_at_call 192;exact Calls.quiet_of_same ((cL _).out.mono fun e w' ⟨he,hw⟩=>⟨he,hw.symm⟩)))
     go_upto_region 23 with fail
     have HSq:=hid (HS.out.drew nq);clear HS d1 d2' cL;generalize wx.drewN nq=wx at*;have HS:=HSq;clear HSq;go_upto_region 23 with fail
     have x0:=fun t:ah.aS [] wx []=>cell (HS.out.cell hpn) (by simp) t;have x1:=fun t:ah.aS [] wx []=>cell (HS.out.cell hqn) (by simp) t;refine ah.aB [] [(0,[]),(1,[]),(2,[]),(3,[]),(4,[]),(5,[]),(6,[]),(7,[]),(8,[]),(9,[]),(10,[]),(11,[]),(12,[]),(13,[]),(14,[])] [] [] [2,3,4] (by kernel_rfl) (by kernel_rfl) (by simp) ?_;simp only [ah.pick,ah.aO,dL]
     repeat (refine ah.ak (fun K hK=>?_);go_simp;(refine hK _ ?_;clear hK K))
     refine ah.ay rfl (.slice (some ⟨g,0,none⟩) n c) (fun W=>by go_simp) ?_;refine ah.ay rfl (.int .i64 (j:Int)) (fun W=>by go_simp) ?_;refine ah.ay rfl (.int .i64 (j1:Int)) (fun W=>by go_simp) ?_
     repeat (refine ah.ak (fun K hK=>?_);go_simp;(refine hK _ ?_;clear hK K))
     refine ah.walk_nil ?_;intro w6 hb6 _;clear x0 x1;have h6:=HS.out.kept hb6;have f:=h6.free;have e1:=h6.cell hpn;have e2:=h6.cell hqn;have H7:=hid (h6.swap hbn hpa hpb hqa hqb);clear h6 hb6 HS;simp only [lC,List.drop_zero,Nat.zero_add,Nat.reduceAdd];go_wp2_with fail
     (try rw [Flow.aP]);clear e1 e2 f;generalize (w6.setCell ⟨g,j,none⟩ (.int .u32 ((gt L j1:Nat):Int))).setCell ⟨g,j1,none⟩ (.int .u32 ((gt L j:Nat):Int))=w7 at*;(try go_wp2_with fail)
     go_roundg (b-(j+1))
     case measure=>omega
     case rel=>exact ⟨j+1,_,rfl,by go_num,by omega,by omega,H7,HAN⟩
   . have cL:=fun w=>hid (bP (t:=false) (x:=gt L j) (y:=gt L j1) (by simpa using hxy) w)
     clear hxy hj1;go_upto_region 22 with fail
     go_quiet ((go_at_call 192;exact Calls.quiet_of_same ((cL _).out.mono fun e w' ⟨he,hw⟩=>⟨he,hw.symm⟩)))
     have HSq:=hid (HS.out.drew nq);clear HS d1 d2';have hs:=HSS.out;have hws:IntKind.i64.wrap ((s:Int)+1)=((s+1:Nat):Int):=(by rw [wrap_i64];omega);go_wp2_with fail
     go_roundg (5-(s+1))
     case measure=>omega
     case rel=>exact ⟨i,s+1,L,rfl,rfl,by go_num,by omega,hi1,by omega,HSq,HA⟩
end Pq
end Go.Proofs.YtjpjjnalpdpljaaGreatDoor
set_option maxHeartbeats 1000000
namespace Go.Proofs.YtjpjjnalpdpljaaGreatDoor
open Go.RowKit
open Go.Lib (hid)
open List (replicate)
namespace Cn
open Mem
theorem GD (n:Nat):(madeCells #[(0:Int),(0:Int)] n).toList=replicate n (.int .i64 0):=by
 apply List.ext_getElem
 . simp [madeCells]
 . intro i h1 h2
   have:i % 2=0\/i % 2=1:=(by omega);rcases this with e|e<;>simp [madeCells,e]
theorem qg (n:Nat) (hn:n<=4097) (w:World):
 (Instr.makeSlice 189 (.int .i64 (n:Int)) (.int .i64 (n:Int))).run Tryz.prog w= .ok (.slice (some ⟨w.heap.size,0,none⟩) n n) (w.alloc (.cells (replicate (n*2) (.int .i64 0)).toArray 191)):=by
 obtain ⟨i,hi,hz,hs,hb⟩:=info_parts Gu;have hr:=run_make (P:=Tryz.prog) w _ _ i _ Tryz.underlying189 hi hz .i64 .i64 n n (by omega) (by omega) (by rw [hb];omega) (by omega);rw [hr,hs];simp only [Int.toNat_natCast];rw [show (Value.agg #[(0:Int),(0:Int)]).cells= #[.int .i64 0,.int .i64 0] from rfl,<-GD]
def first (k j:Nat):Nat:=if j<k then j else 0
theorem Ap (k:Nat):upd (first k) k k=first (k+1):=by
 funext j;unfold upd first
 by_cases h:j=k
 . subst h;simp
 . rw [if_neg h]
   by_cases h2:j<k
   . rw [if_pos h2,if_pos (by omega)]
   . rw [if_neg h2,if_neg (by omega)]
theorem GH (n:Nat) (hn:n<=4097) (w:World):LkW (w.alloc (.cells (replicate (n*2) (.int .i64 0)).toArray 191)) w.heap.size n n (first 0) (first 0):=by
 refine ⟨replicate (n*2) (.int .i64 0),?_,fun i hi=>?_⟩
 . have:=World.ownsRow_lit (base:=0) (e:=191) (size:=2) w (replicate (n*2) (.int .i64 0)).toArray n (Nat.zero_le _) (by unfold maxLen;omega) (by simp)
   exact this
 . simp only [List.getElem?_replicate]
   rw [if_pos (by omega),if_pos (by omega)];simp [first]
theorem GI (n:Nat):Ring n (first (n+1)) (first (n+1)) []:=
 ⟨fun x hx=>(by cases hx),List.nodup_nil,⟨by simp [first],by simp [first]⟩,fun x hx _=>by unfold first;rw [if_pos (by omega)]⟩
theorem lg (n:Nat) (w:World) (h0:1<=n) (h1:n<=4096):Calls Tryz.prog 107 #[(n:Int)] w fun e w'=>(∃g b,e=.returned (.tuple #[(g:Nat),(0:Int)])/\Chn w' g b n []/\w.heap.size<=g/\w.heap.size<=b)/\Bw w w':=by
 have hmk:=fun w=>qg (n+1) (by omega) w;have hmd:=fun w=>hid (GH (n+1) (by omega) w);obtain ⟨m,hm⟩:∃m,m=n+1:=⟨_,rfl⟩
 rw [<-hm] at hmk hmd;have hm1:(n:Int)+1=(m:Int):=by omega
 have HMM:=hid hm;have hm9:m<=4097:=by omega
 clear hm;go_enter Tryz.func107,Tryz.ntmps107
 go_wp2
 have hB1:Bw w (w.alloc (Obj.cells (Array.replicate (m*2) (Value.int IntKind.i64 0)) 191)):=bAx
 have hL1:LkW (w.alloc (Obj.cells (Array.replicate (m*2) (Value.int IntKind.i64 0)) 191)) w.heap.size m m (first 0) (first 0):=by
  have:=(hmd w).out;simpa using this
 obtain ⟨wq,hwq⟩:∃wq,wq=w.alloc (Obj.cells (Array.replicate (m*2) (Value.int IntKind.i64 0)) 191):=⟨_,rfl⟩
 rw [<-hwq] at hB1 hL1 ⊢;have HB1:=hid hB1;have HL1:=hid hL1;clear hwq hB1 hL1 hmd hmk;obtain ⟨t,ht⟩:∃t,t=w.heap.size:=⟨_,rfl⟩
 have HT:=hid ht;rw [<-ht] at HL1 ⊢;clear ht
 go_loopw [17] (fun i wr=>∃k:Nat,k<=m/\i= .int .i64 (k:Int)/\Hid (LkW wr t m m (first k) (first k))/\Hid (Bw w wr)) (fun i _=>m-(intOf i).toNat)
 case atStart=>exact ⟨0,Nat.zero_le _,rfl,HL1,HB1⟩
 case round=>
  obtain ⟨k,hk,rfl,HL,HB⟩:=hrel;by_cases hlt:k<m
  . have d1:=HL.out.rZ hlt
    have d2:=HL.out.wN hlt;have f1:=HL.out.free;generalize (first k k:Int)=z at d1 d2;have n1:k*2+1≠k*2:=(by omega);have n2:k*2≠k*2+1:=by omega
    have HS:Hid (LkW ((wr.setCell ⟨t,k*2,none⟩ (k:Int)).setCell ⟨t,k*2+1,none⟩ (k:Int)) t m m (first (k+1)) (first (k+1))):=by
     have:=(HL.out.JW hlt k).JX hlt k
     rwa [Ap] at this
    have HBS:Hid (Bw w ((wr.setCell ⟨t,k*2,none⟩ (k:Int)).setCell ⟨t,k*2+1,none⟩ (k:Int))):=
     (HB.out.setCell (p:=⟨t,k*2,none⟩) (Nat.le_of_eq HT.out.symm) _).setCell (p:=⟨t,k*2+1,none⟩) (Nat.le_of_eq HT.out.symm) _
    go_wp2
    exact ⟨⟨k+1,hlt,by go_num,HS,HBS⟩,by simp [intOf];omega⟩
  . obtain rfl:k=m:=by omega
    clear hlt
    go_wp2
    have hs:=HB.out.size;have hk1:Bw wr (wr.alloc (.cells #[.slice (some ⟨t,0,none⟩) k k,(0:Int)] 193)):=bAx;refine bodyPost_ret (v:= .tuple #[wr.heap.size,(0:Int)]) (by simp [results,Tryz.results107,go_sem]) rfl ⟨⟨wr.heap.size,t,rfl,⟨k,first (n+1),first (n+1),⟨?_,?_,h0,h1⟩,GI n⟩,hs,Nat.le_of_eq HT.out.symm⟩,HB.out.alloc hs _⟩
    . rw [heap_alloc_new,HMM.out];rfl
    . have:=HL.out.keep (hk1.block t HL.out.lt)
      have e:=HMM.out;subst e;exact this
end Cn
end Go.Proofs.YtjpjjnalpdpljaaGreatDoor
set_option maxHeartbeats 1000000
namespace Go.Proofs.YtjpjjnalpdpljaaGreatDoor
open Go.RowKit
open Go.Lib (hid)
namespace Bt
open Mem
theorem dS {a b:Bool} (h:a=b):Ending.returned (.bool a)=.returned (.bool b):=by rw [h]
theorem wM {a b:Int} (h:a=b):Ending.returned a=.returned b:=by rw [h]
def GJ (x:Nat):Value:= .int .u64 (x:Int)
structure qh (w:World) (g b c:Nat) (ws:List Nat) (tb:List Bool):Prop where
 hd:w.heap[g]? =some (.cells #[(tb.length:Int),.slice (some ⟨b,0,none⟩) ws.length c] 170 (0,0))
 ow:Ow 62 w b c (ws.map GJ)
 rep:Rep ws tb
 lo:1<=tb.length
 hi:tb.length<=65536
def dz (w:World) (g b:Nat) (tb:List Bool):Prop:=∃c ws,qh w g b c ws tb
section
variable {w w':World} {g b c:Nat} {ws:List Nat} {tb:List Bool}
theorem qh.CV (h:qh w g b c ws tb):g<w.heap.size:=(Array.getElem?_eq_some_iff.1 h.hd).1
theorem qh.ne (h:qh w g b c ws tb):g≠b:=by
 rintro rfl;obtain ⟨_,h2⟩:=h.ow;rcases h2 with ⟨h',_⟩|⟨g',cap',cur,he,_,hh,_⟩
 . cases h'
 . obtain ⟨rfl,rfl⟩:g=g'/\c=cap':=by simpa using he
   rw [h.hd] at hh;simp at hh
theorem qh.cells (h:qh w g b c ws tb):w.cell? ⟨g,0,none⟩=some (.int .i64 (tb.length:Int))/\w.cell? ⟨g,1,none⟩=some (.slice (some ⟨b,0,none⟩) ws.length c):=by
 have:=h.hd;simp [World.cell?,this]
theorem qh.word (h:qh w g b c ws tb) {j:Nat} (hj:j<ws.length):w.cell? ⟨b,j,none⟩=some (.int .u64 (ws[j]:Int)):=by
 rw [h.ow.cell (by simpa using hj)];simp [GJ]
theorem qh.free (h:qh w g b c ws tb) (j:Nat):w.frozen? ⟨b,j,none⟩=false:=h.ow.free j
theorem qh.keep (h:qh w g b c ws tb) (hg:w'.heap[g]? =w.heap[g]?) (hb:w'.heap[b]? =w.heap[b]?):qh w' g b c ws tb:=⟨hg.trans h.hd,h.ow.keep hb,h.rep,h.lo,h.hi⟩
theorem qh.kept (h:qh w g b c ws tb) (hb:Bw w w'):qh w' g b c ws tb:=h.keep (hb.block g h.CV) (hb.block b h.ow.lt)
theorem dz.kept (h:dz w g b tb) (hb:Bw w w'):dz w' g b tb:=by
 obtain ⟨c,ws,h⟩:=h;exact ⟨c,ws,h.kept hb⟩
theorem dz.into {S:List Nat} (h:dz w g b tb) (hb:Flow.Into S w w') (hg:g∉S) (hbb:b∉S):dz w' g b tb:=by
 obtain ⟨c,ws,h⟩:=h;exact ⟨c,ws,h.keep (hb.block g h.CV hg) (hb.block b h.ow.lt hbb)⟩
theorem dz.lt (h:dz w g b tb):g<w.heap.size/\b<w.heap.size/\g≠b/\1<=tb.length/\tb.length<=65536:=by
 obtain ⟨c,ws,h⟩:=h;exact ⟨h.CV,h.ow.lt,h.ne,h.lo,h.hi⟩
theorem dz.cell (h:dz w g b tb):w.cell? ⟨g,0,none⟩=some (.int .i64 (tb.length:Int)):=by
 obtain ⟨c,ws,h⟩:=h;exact h.cells.1
theorem qh.store (h:qh w g b c ws tb) {j x:Nat} {tb':List Bool} (hr:Rep (ws.set j x) tb') (hl:tb'.length=tb.length):dz (w.setCell ⟨b,j,none⟩ (.int .u64 (x:Int))) g b tb'/\Flow.Into [b] w (w.setCell ⟨b,j,none⟩ (.int .u64 (x:Int))):=by
 obtain ⟨h1,h2⟩:=h.ow.set j (.int .u64 (x:Int));refine ⟨⟨c,ws.set j x,?_,?_,hr,by rw [hl];exact h.lo,by rw [hl];exact h.hi⟩,h2⟩
 . rw [h2.block g h.CV (by simpa using h.ne),h.hd,hl,List.length_set]
 . rw [List.map_set];exact h1
end
theorem kE (g b:Nat) (tb:List Bool) (w:World) (h:dz w g b tb):CW 90 #[g] w (.int .i64 (tb.length:Int)):=by
 have c0:=h.cell;clear h;go_enter Tryz.func90,Tryz.ntmps90
 go_wp2
 go_ret
 exact ⟨rfl,rfl⟩
theorem dI (g b:Nat) (tb:List Bool) (i:Int) (w:World) (h:dz w g b tb) (h0:0<=i) (h1:i<tb.length):CW 130 #[g,i] w (.int .i64 0):=by
 have c0:=h.cell;have cL:=fun w h=>hid (kE g b tb w h);have HR:=hid h;obtain ⟨n,hn⟩:∃n,n=tb.length:=⟨_,rfl⟩
 have hn0:((n:Int)==0)=false:=by simp;have:=h.lt;omega
 rw [<-hn] at c0 cL h1;clear h hn;go_enter Tryz.func130,Tryz.ntmps130
 go_wp2_with (go_at_call 90;refine (cL _ HR.out).out.mono ?_;rintro e w' ⟨rfl,rfl⟩)
 go_ret
 exact ⟨rfl,rfl⟩
theorem fD (g b:Nat) (tb:List Bool) (i:Int) (w:World) (h:dz w g b tb) (h0:¬(0<=i/\i<tb.length)):CW 130 #[g,i] w (.int .i64 4):=by
 have c0:=h.cell;have cL:=fun w h=>hid (kE g b tb w h);have HR:=hid h;obtain ⟨n,hn⟩:∃n,n=tb.length:=⟨_,rfl⟩
 have hn0:((n:Int)==0)=false:=by simp;have:=h.lt;omega
 rw [<-hn] at c0 cL h0;clear h hn;by_cases hi:i<0
 . clear h0
   go_enter Tryz.func130,Tryz.ntmps130
   go_wp2_with (go_at_call 90;refine (cL _ HR.out).out.mono ?_;rintro e w' ⟨rfl,rfl⟩)
   go_ret
   exact ⟨rfl,rfl⟩
 . have h1:(n:Int)<=i:=by omega
   have h2:0<=i:=(by omega);clear h0 hi;go_enter Tryz.func130,Tryz.ntmps130
   go_wp2_with (go_at_call 90;refine (cL _ HR.out).out.mono ?_;rintro e w' ⟨rfl,rfl⟩)
   go_ret
   exact ⟨rfl,rfl⟩
theorem qh.look {w:World} {g b c:Nat} {ws:List Nat} {tb:List Bool} (h:qh w g b c ws tb) {i:Nat} (h1:i<tb.length):∃j x p:Nat,j<ws.length/\(i:Int) / 64=(j:Int)/\IntKind.i64.wrap (j:Int)=(j:Int)/\w.cell? ⟨b,j,none⟩=some (.int .u64 (x:Int))/\p=2 ^ (i % 64)/\
 bits .and .u64 (x:Int) (p:Int)=((x&&& p:Nat):Int)/\(((x&&& p:Nat):Int) != 0)=tb.getD i false/\bits .or .u64 (x:Int) (p:Int)=((x |||p:Nat):Int)/\bits .andNot .u64 (x:Int) (p:Int)=((x&&& (18446744073709551615-p):Nat):Int)/\
 Rep (ws.set j (x |||p)) (tb.set i true)/\Rep (ws.set j (x&&& (18446744073709551615-p))) (tb.set i false):=by
 have hj:=h.rep.word h1;have hx:=h.rep.uo hj;have hi:=h.hi;have hp:2 ^ (i % 64)<18446744073709551616:=by have:2 ^ (i % 64)<2 ^ 64:=Nat.pow_lt_pow_right (by omega) (by omega);omega
 have e:ws.getD (i / 64) 0=ws[i / 64]:=by simp [List.getD,hj]
 refine ⟨i / 64,ws[i / 64],2 ^ (i % 64),hj,by omega,by rw [IntKind.wrap_i64];omega,h.word hj,rfl,u64_and_nat _ _ hx hp,?_,u64_or_nat _ _ hx hp,u64_andNot_nat _ _ hx hp,?_,?_⟩
 . rw [<-h.rep.bit i,LQ hj,<-uw,Bool.eq_iff_iff];simp
 . rw [<-e];exact h.rep.set h1
 . rw [<-e];exact h.rep.clear h1
theorem kX (g b i:Nat) (tb:List Bool) (w:World) (h:dz w g b tb) (h1:i<tb.length):CB 93 #[g,(i:Int)] w (.bool (tb.getD i false)):=by
 have HR:=hid h;obtain ⟨c,ws,hw⟩:=h;have hi:=hw.hi;have cP:=fun w h=>hid (dI g b tb i w h (by omega) (by omega));have cB:=fun w=>hid (wH i w (by omega));obtain ⟨j,x,p,hj,hq,hwj,d2,hp,k1,k2,-⟩:=hw.look h1;rw [<-hp] at cB;obtain ⟨d0,d1⟩:=hw.cells;obtain ⟨m,hm⟩:∃m,m=ws.length:=⟨_,rfl⟩
 rw [<-hm] at d1 hj;generalize tb.getD i false=v at k2 ⊢;clear hw hm hp;have e1:=ah.tc d1;have e2:=ah.tc d2;clear d0 d1 d2;go_enter Tryz.func93,Tryz.ntmps93
 go_wp2_with fail
 refine ah.aj [] [(0,[]),(1,[]),(2,[]),(3,[]),(4,[]),(5,[]),(6,[]),(7,[]),(8,[]),(9,[]),(10,[]),(11,[]),(12,[]),(13,[]),(14,[]),(15,[]),(16,[]),(17,[]),(18,[])] [] [] (by kernel_rfl) (by kernel_rfl) (by simp) ?_;simp only [ah.pick,ah.aO,ah.dL]
 repeat (refine ah.ak (fun K hK=>?_);go_simp;first|(refine hK _ ?_;clear hK K)|(apply Exists.intro;refine ⟨fun q=>?_,hK _ ?_⟩;(first|(go_at_call 130;exact (cP _ (HR.out.into q.into (by simp) (by simp))).out.mono fun e w' ⟨he,hw⟩=>⟨he,by subst hw;exact Below.refl _ _⟩)|(go_at_call 131;exact (cB _).out.mono fun e w' ⟨he,hw⟩=>⟨he,by subst hw;exact Below.refl _ _⟩));clear hK K))
 refine ah.walk_nil ?_;intro w2 hb2 _;have HB2:=hid hb2;clear hb2;simp only [lC,List.drop_nil,Nat.zero_add,Nat.reduceAdd];go_wp2_with fail
 go_ret
 exact ⟨rfl,HB2.out⟩
end Bt
end Go.Proofs.YtjpjjnalpdpljaaGreatDoor
set_option maxHeartbeats 1000000
namespace Go.Proofs.YtjpjjnalpdpljaaGreatDoor
open Go.RowKit
open Go.Lib (hid)
open ah (dL tc)
namespace Bt
open Mem
theorem wO (g b:Nat) (i:Int) (tb:List Bool) (w:World) (h:dz w g b tb) (h1:¬(0<=i/\i<tb.length)):CB 93 #[g,i] w (.bool false):=by
 have HR:=hid h;have cP:=fun w h=>hid (fD g b tb i w h h1);clear h h1;go_enter Tryz.func93,Tryz.ntmps93
 go_wp2_with fail
 refine ah.aj [] [(0,[]),(1,[]),(2,[]),(3,[]),(4,[]),(5,[]),(6,[]),(7,[]),(8,[]),(9,[]),(10,[]),(11,[]),(12,[]),(13,[]),(14,[]),(15,[]),(16,[]),(17,[]),(18,[])] [] [] (by kernel_rfl) (by kernel_rfl) (by simp) ?_;simp only [ah.pick,ah.aO,dL]
 repeat (refine ah.ak (fun K hK=>?_);go_simp;first|(refine hK _ ?_;clear hK K)|(apply Exists.intro;refine ⟨fun q=>?_,hK _ ?_⟩;(first|(go_at_call 130;exact (cP _ (HR.out.into q.into (by simp) (by simp))).out.mono fun e w' ⟨he,hw⟩=>⟨he,by subst hw;exact Below.refl _ _⟩));clear hK K))
 refine ah.walk_nil ?_;intro w2 hb2 _;have HB2:=hid hb2;clear hb2;simp only [lC,List.drop_nil,Nat.zero_add,Nat.reduceAdd];go_wp2_with fail
 go_ret
 exact ⟨rfl,HB2.out⟩
theorem Ka (g b:Nat) (i:Int) (tb:List Bool) (w:World) (h:dz w g b tb) (h1:¬(0<=i/\i<tb.length)):CW 110 #[g,i] w (.int .i64 4):=by
 have HR:=hid h;have cP:=fun w h=>hid (fD g b tb i w h h1);clear h h1;go_enter Tryz.func110,Tryz.ntmps110
 go_wp2_with (go_at_call 130;refine (cP _ HR.out).out.mono ?_;rintro e w' ⟨rfl,rfl⟩)
 go_ret
 exact ⟨rfl,rfl⟩
theorem Dr (g b i:Nat) (tb:List Bool) (w:World) (h:dz w g b tb) (h1:i<tb.length) (h2:tb.getD i false=true):CB 110 #[g,(i:Int)] w (.int .i64 10):=by
 have HR:=hid h;have cP:=fun w h=>hid (dI g b tb i w h (by omega) (by omega));have cH:=fun w h=>hid (kX g b i tb w h h1);rw [h2] at cH;clear h h1 h2;go_enter Tryz.func110,Tryz.ntmps110
 go_wp2_with (first|(go_at_call 130;refine (cP _ HR.out).out.mono ?_;rintro e w' ⟨rfl,rfl⟩)|(go_at_call 93;refine (cH _ HR.out).out.mono ?_;rintro e w' ⟨rfl,hb⟩;have HB:=hid hb;clear hb))
 go_ret
 exact ⟨rfl,HB.out⟩
theorem Mq (g b i:Nat) (tb:List Bool) (w:World) (h:dz w g b tb) (h1:i<tb.length) (h2:tb.getD i false=false):Calls Tryz.prog 110 #[g,(i:Int)] w fun e w'=>e=.returned (0:Int)/\dz w' g b (tb.set i true)/\Flow.Into [b] w w':=by
 have HR:=hid h;have hi:=h.lt;have cP:=fun w h=>hid (dI g b tb i w h (by omega) (by omega));have cH:=fun w h=>hid (kX g b i tb w h h1);have cB:=fun w=>hid (wH i w (by omega));rw [h2] at cH;clear h2;have HL:=hid h1;clear h h1;go_enter Tryz.func110,Tryz.ntmps110
 go_wp2_with (first|(go_at_call 130;refine (cP _ HR.out).out.mono ?_;rintro e w' ⟨rfl,rfl⟩)|(go_at_call 93;refine (cH _ HR.out).out.mono ?_;rintro e w1 ⟨rfl,hb⟩;have HB:=hid hb;clear hb))
 have HR1:=HR.out.kept HB.out;obtain ⟨c,ws,hw⟩:=HR1;obtain ⟨j,x,p,hj,hq,hwj,d2,hp,-,-,k3,-,k5,-⟩:=hw.look HL.out;rw [<-hp] at cB;obtain ⟨d0,d1⟩:=hw.cells;obtain ⟨m,hm⟩:∃m,m=ws.length:=⟨_,rfl⟩
 rw [<-hm] at d1 hj;have HW:=hid hw;have HK:=hid k5;clear hw hm hp k5 cP cH;have e1:=tc d1;have e2:=tc d2;clear d0 d1;have D2:=hid d2;clear d2;refine ah.aj [] [(0,[]),(1,[]),(2,[]),(3,[]),(4,[]),(5,[]),(6,[]),(7,[]),(8,[]),(9,[]),(10,[])] [] [] (by kernel_rfl) (by kernel_rfl) (by simp) ?_;simp only [ah.pick,ah.aO,dL]
 repeat (refine ah.ak (fun K hK=>?_);go_simp;first|(refine hK _ ?_;clear hK K)|(apply Exists.intro;refine ⟨fun q=>?_,hK _ ?_⟩;(first|(go_at_call 131;exact (cB _).out.mono fun e w' ⟨he,hw⟩=>⟨he,by subst hw;exact Below.refl _ _⟩));clear hK K))
 refine ah.walk_nil ?_;intro w2 hb2 _;have HB2:=hid hb2;have hf:=(HW.out.kept hb2).free j;have hc2:=(Below.cell hb2 (p:=⟨b,j,none⟩) HW.out.ow.lt).trans D2.out;have HS:=hid ((HW.out.kept hb2).store HK.out (by simp));clear hb2;simp only [lC,Nat.zero_add,Nat.reduceAdd];go_wp2_with fail
 go_ret
 exact ⟨rfl,HS.out.1,(Flow.Into.of_below HB.out).trans ((Flow.Into.of_below HB2.out).trans HS.out.2)⟩
theorem Dt (g b:Nat) (i:Int) (tb:List Bool) (w:World) (h:dz w g b tb) (h1:¬(0<=i/\i<tb.length)):CW 115 #[g,i] w (.int .i64 4):=by
 have HR:=hid h;have cP:=fun w h=>hid (fD g b tb i w h h1);clear h h1;go_enter Tryz.func115,Tryz.ntmps115
 go_wp2_with (go_at_call 130;refine (cP _ HR.out).out.mono ?_;rintro e w' ⟨rfl,rfl⟩)
 go_ret
 exact ⟨rfl,rfl⟩
theorem wX (g b i:Nat) (tb:List Bool) (w:World) (h:dz w g b tb) (h1:i<tb.length) (h2:tb.getD i false=false):CB 115 #[g,(i:Int)] w (.int .i64 9):=by
 have HR:=hid h;have cP:=fun w h=>hid (dI g b tb i w h (by omega) (by omega));have cH:=fun w h=>hid (kX g b i tb w h h1);rw [h2] at cH;clear h h1 h2;go_enter Tryz.func115,Tryz.ntmps115
 go_wp2_with (first|(go_at_call 130;refine (cP _ HR.out).out.mono ?_;rintro e w' ⟨rfl,rfl⟩)|(go_at_call 93;refine (cH _ HR.out).out.mono ?_;rintro e w' ⟨rfl,hb⟩;have HB:=hid hb;clear hb))
 go_ret
 exact ⟨rfl,HB.out⟩
theorem GK (g b i:Nat) (tb:List Bool) (w:World) (h:dz w g b tb) (h1:i<tb.length) (h2:tb.getD i false=true):Calls Tryz.prog 115 #[g,(i:Int)] w fun e w'=>e=.returned (0:Int)/\dz w' g b (tb.set i false)/\Flow.Into [b] w w':=by
 have HR:=hid h;have hi:=h.lt;have cP:=fun w h=>hid (dI g b tb i w h (by omega) (by omega));have cH:=fun w h=>hid (kX g b i tb w h h1);have cB:=fun w=>hid (wH i w (by omega));rw [h2] at cH;clear h2;have HL:=hid h1;clear h h1;go_enter Tryz.func115,Tryz.ntmps115
 go_wp2_with (first|(go_at_call 130;refine (cP _ HR.out).out.mono ?_;rintro e w' ⟨rfl,rfl⟩)|(go_at_call 93;refine (cH _ HR.out).out.mono ?_;rintro e w1 ⟨rfl,hb⟩;have HB:=hid hb;clear hb))
 have HR1:=HR.out.kept HB.out;obtain ⟨c,ws,hw⟩:=HR1;obtain ⟨j,x,p,hj,hq,hwj,d2,hp,-,-,-,k3,-,k5⟩:=hw.look HL.out;rw [<-hp] at cB;obtain ⟨d0,d1⟩:=hw.cells;obtain ⟨m,hm⟩:∃m,m=ws.length:=⟨_,rfl⟩
 rw [<-hm] at d1 hj;have HW:=hid hw;have HK:=hid k5;clear hw hm hp k5 cP cH;have e1:=tc d1;have e2:=tc d2;clear d0 d1;have D2:=hid d2;clear d2;refine ah.aj [] [(0,[]),(1,[]),(2,[]),(3,[]),(4,[]),(5,[]),(6,[]),(7,[]),(8,[]),(9,[]),(10,[])] [] [] (by kernel_rfl) (by kernel_rfl) (by simp) ?_;simp only [ah.pick,ah.aO,dL]
 repeat (refine ah.ak (fun K hK=>?_);go_simp;first|(refine hK _ ?_;clear hK K)|(apply Exists.intro;refine ⟨fun q=>?_,hK _ ?_⟩;(first|(go_at_call 131;exact (cB _).out.mono fun e w' ⟨he,hw⟩=>⟨he,by subst hw;exact Below.refl _ _⟩));clear hK K))
 refine ah.walk_nil ?_;intro w2 hb2 _;have HB2:=hid hb2;have hf:=(HW.out.kept hb2).free j;have hc2:=(Below.cell hb2 (p:=⟨b,j,none⟩) HW.out.ow.lt).trans D2.out;have HS:=hid ((HW.out.kept hb2).store HK.out (by simp));clear hb2;simp only [lC,Nat.zero_add,Nat.reduceAdd];go_wp2_with fail
 go_ret
 exact ⟨rfl,HS.out.1,(Flow.Into.of_below HB.out).trans ((Flow.Into.of_below HB2.out).trans HS.out.2)⟩
theorem sI (g b:Nat) (i:Int) (tb:List Bool) (w:World) (h:dz w g b tb):CB 93 #[g,i] w (.bool (hasB tb i)):=by
 cases hi:inB tb i with
 |true=>
  obtain ⟨k,rfl,hk⟩:=Ci hi;rw [gX];exact kX g b k tb w h hk
 |false=>
  rw [JH hi];exact wO g b i tb w h (yI hi)
theorem wY (g b:Nat) (i:Int) (tb:List Bool) (w:World) (h:dz w g b tb):Calls Tryz.prog 110 #[g,i] w fun e w'=>e=.returned (mZ tb i:Int)/\dz w' g b (jQ tb i)/\Flow.Into [b] w w':=by
 cases hi:inB tb i with
 |true=>
  obtain ⟨k,rfl,hk⟩:=Ci hi;cases hv:tb.getD k false with
  |true=>
   have e1:mZ tb k=10:=(by unfold mZ;rw [hi,gX,hv];rfl);have e2:jQ tb k=tb:=(by unfold jQ;rw [hi];exact iD hk hv);rw [e1,e2];exact (Dr g b k tb w h hk hv).mono fun e w' ⟨he,hb⟩=>⟨he,h.kept hb,Flow.Into.of_below hb⟩
  |false=>
   have e1:mZ tb k=0:=(by unfold mZ;rw [hi,gX,hv];rfl);have e2:jQ tb k=tb.set k true:=(by unfold jQ;rw [hi];rfl);rw [e1,e2];exact Mq g b k tb w h hk hv
 |false=>
  have e1:mZ tb i=4:=by unfold mZ;rw [hi];rfl
  have e2:jQ tb i=tb:=by unfold jQ;rw [hi];rfl
  rw [e1,e2];exact (Ka g b i tb w h (yI hi)).mono fun e w' ⟨he,hb⟩=>⟨he,hb▸h,hb▸Flow.Into.refl _ _⟩
theorem Du (g b:Nat) (i:Int) (tb:List Bool) (w:World) (h:dz w g b tb):Calls Tryz.prog 115 #[g,i] w fun e w'=>e=.returned (wm tb i:Int)/\dz w' g b (ru tb i)/\Flow.Into [b] w w':=by
 cases hi:inB tb i with
 |true=>
  obtain ⟨k,rfl,hk⟩:=Ci hi;cases hv:tb.getD k false with
  |false=>
   have e1:wm tb k=9:=(by unfold wm;rw [hi,gX,hv];rfl);have e2:ru tb k=tb:=(by unfold ru;rw [hi];exact iD hk hv);rw [e1,e2];exact (wX g b k tb w h hk hv).mono fun e w' ⟨he,hb⟩=>⟨he,h.kept hb,Flow.Into.of_below hb⟩
  |true=>
   have e1:wm tb k=0:=(by unfold wm;rw [hi,gX,hv];rfl);have e2:ru tb k=tb.set k false:=(by unfold ru;rw [hi];rfl);rw [e1,e2];exact GK g b k tb w h hk hv
 |false=>
  have e1:wm tb i=4:=by unfold wm;rw [hi];rfl
  have e2:ru tb i=tb:=by unfold ru;rw [hi];rfl
  rw [e1,e2];exact (Dt g b i tb w h (yI hi)).mono fun e w' ⟨he,hb⟩=>⟨he,hb▸h,hb▸Flow.Into.refl _ _⟩
end Bt
end Go.Proofs.YtjpjjnalpdpljaaGreatDoor
set_option maxHeartbeats 1000000
namespace Go.Proofs.YtjpjjnalpdpljaaGreatDoor
open Go.RowKit
open Go.Lib (hid)
namespace Bt
open Mem
theorem Dw (g b:Nat) (tb:List Bool) (w:World) (h:dz w g b tb):CW 128 #[g] w (.int .i64 (cnt tb:Int)):=by
 obtain ⟨c,ws,hw⟩:=h;obtain ⟨d0,d1⟩:=hw.cells;have hlen:=hw.rep.len;have hhi:=hw.hi;have hlt:=hw.rep.lt;have HC:Hid (pc (bt ws) (64*ws.length)=cnt tb):=hw.rep.cnt;have HP:Hid (∀j (h:j<ws.length),pc (bt ws) (64*(j+1))=pc (bt ws) (64*j)+ones ws[j]):=fun j h=>JG h;have HD:Hid (∀j (h:j<ws.length),w.cell? ⟨b,j,none⟩=some (.int .u64 (ws[j]:Int))):=fun j h=>hw.word h;have HX:Hid (∀j (h:j<ws.length),ws[j]<18446744073709551616):=fun j h=>hw.rep.uo h;have cO:=fun x w hx=>hid (ou x w hx);obtain ⟨m,hm⟩:∃m,m=ws.length:=⟨_,rfl⟩
 have HM:=hid hm;rw [<-hm] at d1 hlen HC;have hm2:m<=1024:=by omega
 clear hw hm hlen hhi hlt d0;go_enter Tryz.func128,Tryz.ntmps128
 go_wp2
 go_loopw [3,13] (fun x i wr=>∃k v:Nat,k<=m/\i= .int .i64 k/\x= .int .i64 (v:Int)/\v<=64*k/\Hid (v=pc (bt ws) (64*k))/\w=wr) (fun _ i _=>m-(intOf i).toNat)
 case atStart=>exact ⟨0,0,Nat.zero_le _,rfl,rfl,by omega,by unfold Hid;rfl,rfl⟩
 case round=>
  obtain ⟨k,v,hk,rfl,rfl,hv,HV,rfl⟩:=hrel;by_cases hlt:k<m
  . have hkl:k<ws.length:=by rw [<-HM.out];exact hlt
    have hc:=HD.out k hkl;have hx:=HX.out k hkl;have HP1:=hid (HP.out k hkl);have ho:=JF ws[k];obtain ⟨x,hxx⟩:∃x,x=ws[k]:=⟨_,rfl⟩
    rw [<-hxx] at hc hx HP1 ho;obtain ⟨u,hu⟩:∃u,u=ones x:=⟨_,rfl⟩
    have cO1:=cO x w hx;rw [<-hu] at HP1 ho cO1;clear hxx hkl hu cO hx;go_wp2_with (go_at_call 162;refine cO1.out.mono ?_;rintro e w1 ⟨rfl,rfl⟩)
    exact ⟨⟨k+1,v+u,hlt,by go_num,by go_num,by omega,by unfold Hid;rw [HP1.out,HV.out],trivial⟩,by simp [intOf];omega⟩
  . obtain rfl:k=m:=by omega
    clear cO
    go_wp2
    go_ret
    exact ⟨wM (by rw [HV.out,HC.out]),rfl⟩
def I5 (tb:List Bool) (v:Bool) (a k:Nat):Prop:=∀j,a<=j->j<k->j<tb.length->tb.getD j false≠v
theorem I5.none {tb:List Bool} {v:Bool} {f:Int} {k:Nat} (h:I5 tb v f.toNat k) (hk:tb.length<=k):bI tb f v=none:=by
 cases ho:bI tb f v with
 |none=>rfl
 |some r=>
  obtain ⟨h1,h2,h3,_⟩:=jd ho;exact absurd h3 (h r (by omega) (by omega) h2)
theorem I5.some {tb:List Bool} {v:Bool} {f:Int} {k:Nat} (h:I5 tb v f.toNat k) (h0:f.toNat<=k) (hk:k<tb.length) (hv:tb.getD k false=v):bI tb f v=some k:=by
 cases ho:bI tb f v with
 |none=>exact absurd hv (ko ho k (by omega) hk)
 |some r=>
  obtain ⟨h1,h2,h3,h4⟩:=jd ho;rcases Nat.lt_trichotomy r k with hlt|rfl|hlt
  . exact absurd h3 (h r (by omega) hlt h2)
  . rfl
  . exact absurd hv (h4 k (by omega) hlt)
theorem I5.more {tb:List Bool} {v:Bool} {a k l:Nat} (h:I5 tb v a k) (hl:∀j,k<=j->j<l->tb.getD j false≠v):I5 tb v a l:=fun j h1 h2 h3=>by
 by_cases hj:j<k
 . exact h j h1 hj h3
 . exact hl j (by omega) h2
theorem uO (g b:Nat) (f:Int) (turn:Bool) (tb:List Bool) (w:World) (h:dz w g b tb) (hT:Tab w) (hf:f<=9223372036854775807):
 CW 129 #[g,f,.int .u64 (wt turn:Nat)] w (.tuple #[(foI (bI tb f (!turn)):Int),.bool (foB (bI tb f (!turn)))]):=by
 have HR:=hid h;have HT:=hid hT;have cL:=fun w h=>hid (kE g b tb w h);obtain ⟨c,ws,hw⟩:=h;have HW:=hid hw;obtain ⟨d0,d1⟩:=hw.cells;have hhi:=hw.hi;have hlo:=hw.lo;obtain ⟨n,hn⟩:∃n,n=tb.length:=⟨_,rfl⟩
 have HN:=hid hn;obtain ⟨m,hm⟩:∃m,m=ws.length:=⟨_,rfl⟩
 have HM:=hid hm;obtain ⟨T,hTT⟩:∃T,T=wt turn:=⟨_,rfl⟩
 have HTT:=hid hTT;obtain ⟨v,hv⟩:∃v,v= !turn:=⟨_,rfl⟩
 have HV:=hid hv;rw [<-hv,<-hTT];rw [<-hn] at d0 cL hhi hlo;rw [<-hm] at d1;obtain ⟨a,ha⟩:∃a,a=f.toNat:=⟨_,rfl⟩
 have HA:=hid ha;have ha1:a<=9223372036854775807:=by omega
 have Ro:Hid (max f 0=(a:Int)):=by unfold Hid;omega
 have hmax:(if (0:Int)>f then (0:Int) else f)=(a:Int):=by split<;>omega
 clear hw hn hm hT hTT hv;go_enter Tryz.func129,Tryz.ntmps129
 go_wp2
 go_loopw [8] (fun i wr=>∃k:Nat,a<=k/\k<=9223372036854775807/\i= .int .i64 k/\Hid (I5 tb v a k)/\w=wr) (fun i _=>n-(intOf i).toNat)
 case atStart=>exact ⟨a,Nat.le_refl _,ha1,by rw [Ro.out],fun j h1 h2=>by omega,rfl⟩
 case round=>
  obtain ⟨k,hak,Sc,rfl,HK,rfl⟩:=hrel;by_cases hlt:k<n
  . have hkt:k<tb.length:=by rw [<-HN.out];exact hlt
    have hj:=HW.out.rep.word hkt;have hx:=HW.out.rep.uo hj;have d2:=HW.out.word hj;have O4:=JI HW.out.rep turn hkt;have HS:=fun h0=>hid (JK HW.out.rep turn hkt h0);have HZ:=fun h0=>hid (fun j h1 h2=>JJ HW.out.rep turn (i:=k) h0 j h1 h2);have hxe:ws.getD (k / 64) 0=ws[k / 64]:=(by simp [List.getD,hj]);have hwd:(ws[k / 64] ^^^ T) / 2 ^ (k % 64)=wd ws turn k:=(by unfold wd;rw [hxe,HTT.out]);obtain ⟨x,hxx⟩:∃x,x=ws[k / 64]:=⟨_,rfl⟩
    rw [<-hxx] at d2 hx hwd;obtain ⟨d,hdd⟩:∃d,d=wd ws turn k:=⟨_,rfl⟩
    rw [<-hdd] at hwd O4 HS HZ;rw [<-HV.out] at HS HZ;rw [<-HM.out] at hj;have kx:bits .xor .u64 (x:Int) (T:Int)=((x ^^^ T:Nat):Int):=u64_xor_nat x T hx (by rw [HTT.out];cases turn<;>simp [wt]);obtain ⟨X,hX⟩:∃X,X=x ^^^ T:=⟨_,rfl⟩
    rw [<-hX] at kx hwd;have ks:(X:Int) / 2 ^ (k % 64)=(d:Int):=(by rw [<-hwd];simp);have hq:(k:Int) / 64=((k / 64:Nat):Int):=(by omega);obtain ⟨j,hjj⟩:∃j,j=k / 64:=⟨_,rfl⟩
    rw [<-hjj] at d2 hj hq;have hwj:IntKind.i64.wrap (j:Int)=(j:Int):=(by rw [IntKind.wrap_i64];omega);have hd:decide ((k:Int)<(n:Int))=true:=(by simp;omega);have hr0:0<=(k:Int) % 64:=(by omega);clear hxx hxe hX hwd hjj hkt hx;by_cases h0:d=0
    . have HZ1:=HZ h0
      subst h0;clear HS HZ hdd;go_wp2_with (go_at_call 90;refine (cL _ HR.out).out.mono ?_;rintro e w' ⟨rfl,rfl⟩)
      exact ⟨⟨k+(64-k % 64),by omega,by omega,by congr 1;omega,HK.out.more HZ1.out,trivial⟩,by simp [intOf];omega⟩
    . have HS1:=HS h0
      have cT:=fun w hT=>hid (kr d w h0 O4 hT);obtain ⟨q,hq1⟩:∃q,q=Lib.ctz 64 d:=⟨_,rfl⟩
      rw [<-hq1] at HS1 cT;have hq2:q<64:=(by have:=HS1.out;omega);have hdz:((d:Int)==0)=false:=(by simp;omega);have hwa:IntKind.i64.wrap ((k:Int)+(q:Int))=(k:Int)+(q:Int):=(by rw [IntKind.wrap_i64];omega);clear HS HZ hdd hq1 O4 h0;by_cases ha2:k+q<n
      . have HO:Hid (bI tb f v=some (k+q)):=by
         have h1:=HS1.out;have h2:=HK.out.more (l:=k+q) h1.2.2;rw [HA.out] at h2;exact h2.some (by rw [<-HA.out];omega) (by rw [<-HN.out];exact ha2) h1.2.1
        have hd2:((n:Int)<=(k:Int)+(q:Int))=False:=(by simp;omega);clear HS1;go_wp2_with (first|(go_at_call 90;refine (cL _ HR.out).out.mono ?_;rintro e w' ⟨rfl,rfl⟩)|(go_at_call 163;refine (cT _ HT.out).out.mono ?_;rintro e w' ⟨rfl,rfl⟩))
        exact bodyPost_ret (v:= .tuple #[((k:Int)+(q:Int):Int),.bool true]) (by simp [results,Tryz.results129,go_sem]) rfl ⟨by rw [HO.out];simp [foI,foB],rfl⟩
      . have HO:Hid (bI tb f v=none):=by
         have h1:=HS1.out;have h2:=HK.out.more (l:=k+q) h1.2.2;rw [HA.out] at h2;exact h2.none (by rw [<-HN.out];omega)
        have hd2:(n:Int)<=(k:Int)+(q:Int):=(by omega);clear HS1;go_wp2_with (first|(go_at_call 90;refine (cL _ HR.out).out.mono ?_;rintro e w' ⟨rfl,rfl⟩)|(go_at_call 163;refine (cT _ HT.out).out.mono ?_;rintro e w' ⟨rfl,rfl⟩))
        exact bodyPost_ret (v:= .tuple #[(0:Int),.bool false]) (by simp [results,Tryz.results129,go_sem]) rfl ⟨by rw [HO.out];rfl,rfl⟩
  . have HO:Hid (bI tb f v=none):=by have:=HK.out;rw [HA.out] at this;exact this.none (by rw [<-HN.out];omega)
    have hd:decide ((k:Int)<(n:Int))=false:=(by simp;omega);go_wp2_with (go_at_call 90;refine (cL _ HR.out).out.mono ?_;rintro e w' ⟨rfl,rfl⟩)
    refine bodyPost_ret (v:= .tuple #[(0:Int),.bool false]) (by simp [results,Tryz.results129,go_sem]) rfl ⟨by rw [HO.out];rfl,rfl⟩
theorem lu (g b:Nat) (f:Int) (tb:List Bool) (w:World) (h:dz w g b tb) (hT:Tab w) (hf:f<=9223372036854775807):
 CW 157 #[g,f] w (.tuple #[(foI (bI tb f false):Int),.bool (foB (bI tb f false))]):=by
 have cF:∀w,dz w g b tb->Tab w->Hid (CW 129 #[g,f,.int .u64 18446744073709551615] w (.tuple #[(foI (bI tb f false):Int),.bool (foB (bI tb f false))])):=fun w h hT=>uO g b f true tb w h hT hf
 have HR:=hid h;have HT:=hid hT;generalize foI (bI tb f false)=x at*;generalize foB (bI tb f false)=y at*;clear h hT;go_enter Tryz.func157,Tryz.ntmps157
 go_wp2_with (go_at_call 129;refine (cF _ HR.out HT.out).out.mono ?_;rintro e w' ⟨rfl,rfl⟩)
 exact bodyPost_ret (v:= .tuple #[x,.bool y]) (by simp [results,Tryz.results157,go_sem]) rfl ⟨rfl,rfl⟩
theorem sH (g b:Nat) (f:Int) (tb:List Bool) (w:World) (h:dz w g b tb) (hT:Tab w) (hf:f<=9223372036854775807):
 CW 92 #[g,f] w (.tuple #[(foI (bI tb f true):Int),.bool (foB (bI tb f true))]):=by
 have cF:∀w,dz w g b tb->Tab w->Hid (CW 129 #[g,f,.int .u64 0] w (.tuple #[(foI (bI tb f true):Int),.bool (foB (bI tb f true))])):=fun w h hT=>uO g b f false tb w h hT hf
 have HR:=hid h;have HT:=hid hT;generalize foI (bI tb f true)=x at*;generalize foB (bI tb f true)=y at*;clear h hT;go_enter Tryz.func92,Tryz.ntmps92
 go_wp2_with (go_at_call 129;refine (cF _ HR.out HT.out).out.mono ?_;rintro e w' ⟨rfl,rfl⟩)
 exact bodyPost_ret (v:= .tuple #[x,.bool y]) (by simp [results,Tryz.results92,go_sem]) rfl ⟨rfl,rfl⟩
end Bt
end Go.Proofs.YtjpjjnalpdpljaaGreatDoor
set_option maxHeartbeats 1000000
namespace Go.Proofs.YtjpjjnalpdpljaaGreatDoor
open Go.RowKit
namespace Bt
open Mem
theorem Kc:(Tryz.prog.info? 62).map (fun i=>(i.zero,i.size,i.bytes))=some (some (.int .u64 0),1,8):=by kernel_rfl
theorem yX:(Tryz.prog.info? 4).map (fun i=>(i.zero,i.size,i.bytes))=some (some (.bool false),1,1):=by kernel_rfl
theorem lg (n:Nat) (w:World) (h0:1<=n) (h1:n<=65536):Calls Tryz.prog 109 #[(n:Int)] w fun e w'=>(∃g b,e=.returned (.tuple #[(g:Nat),(0:Int)])/\dz w' g b (List.replicate n false)/\w.heap.size<=g/\w.heap.size<=b)/\Bw w w':=by
 have HRP:=Lib.hid (Ga n);obtain ⟨m,hm⟩:∃m,m=(n+63) / 64:=⟨_,rfl⟩
 rw [<-hm] at HRP;have hmk:=fun w=>eH (P:=Tryz.prog) Tryz.underlying168 Kc rfl (by omega) m (by omega) w;have hq:((n:Int)+64-1) / 64=(m:Int):=by omega
 have hwm:IntKind.i64.wrap (m:Int)=(m:Int):=by rw [IntKind.wrap_i64];omega
 have HM:Hid (m<=1048576):=by unfold Hid;omega
 clear hm;go_enter Tryz.func109,Tryz.ntmps109
 go_wp2
 have hw0:Ow 62 (w.alloc (.cells (Array.replicate m (.int .u64 0)) 62)) w.heap.size m ((List.replicate m 0).map GJ):=by
  have:=qZ 62 w (.int .u64 0) m HM.out;simpa [GJ] using this
 have hb1:Bw w (w.alloc (.cells (Array.replicate m (.int .u64 0)) 62)):=bAx;have hs1:(w.alloc (.cells (Array.replicate m (.int .u64 0)) 62)).heap.size=w.heap.size+1:=by simp
 generalize w.alloc (.cells (Array.replicate m (.int .u64 0)) 62)=w1 at*;refine bodyPost_ret (v:= .tuple #[.pointer (some ⟨w.heap.size+1,0,none⟩),(0:Int)]) (by simp [results,Tryz.results109,go_sem]) rfl ⟨⟨w.heap.size+1,w.heap.size,rfl,⟨m,List.replicate m 0,?_,?_,HRP.out,by simpa using h0,by simpa using h1⟩,by omega,Nat.le_refl _⟩,hb1.alloc hb1.size _⟩
 . rw [<-hs1,heap_alloc_new];simp
 . exact hw0.kept (bAx)
structure Rw (W w:World) (g b:Nat) (tb:List Bool):Prop where
 row:dz w g b tb
 tab:Tab w
 bel:Bw W w
 hg:W.heap.size<=g
 hb:W.heap.size<=b
theorem Tab.below {W w:World} (h:Tab W) (hb:Bw W w):Tab w:=h.keep (hb.block _ h.lt)
theorem mG {B:Nat} {W w w':World} {S:List Nat} (h:Below B W w) (hi:Flow.Into S w w') (hS:∀k,k∈S->B<=k) (hB:B<=w.heap.size):Below B W w':=
 h.trans ⟨hi.os,hi.tape,hi.output,hi.size,fun k hk=>hi.block k (Nat.lt_of_lt_of_le hk hB) fun hh=>absurd hk (Nat.not_lt.2 (hS k hh))⟩
section
variable {W w w':World} {g b:Nat} {tb tb':List Bool}
theorem Rw.kept (h:Rw W w g b tb) (hT:Tab W) (hb:Bw w w'):Rw W w' g b tb:=by
 have h1:=h.bel.trans (hb.mono h.bel.size);exact ⟨h.row.kept hb,hT.below h1,h1,h.hg,h.hb⟩
theorem Rw.into (h:Rw W w g b tb) (hT:Tab W) (hi:Flow.Into [b] w w') (hr:dz w' g b tb'):Rw W w' g b tb':=by
 have h1:=mG h.bel hi (by simpa using h.hb) h.bel.size;exact ⟨hr,hT.below h1,h1,h.hg,h.hb⟩
theorem Rw.Set (h:Rw W w g b tb) (hT:Tab W) (i:Int):Calls Tryz.prog 110 #[g,i] w fun e w'=>e=.returned (mZ tb i:Int)/\Rw W w' g b (jQ tb i)/\Flow.Into [b] w w':=
 (wY g b i tb w h.row).mono fun _ _ ⟨he,hr,hi⟩=>⟨he,h.into hT hi hr,hi⟩
theorem Rw.Has (h:Rw W w g b tb) (hT:Tab W) (i:Int):Calls Tryz.prog 93 #[g,i] w fun e w'=>e=.returned (.bool (hasB tb i))/\Rw W w' g b tb/\Bw w w':=
 (sI g b i tb w h.row).mono fun _ _ ⟨he,hb⟩=>⟨he,h.kept hT hb,hb⟩
theorem Rw.Free (h:Rw W w g b tb) (f:Int) (hf:f<=9223372036854775807):CW 157 #[g,f] w (.tuple #[(foI (bI tb f false):Int),.bool (foB (bI tb f false))]):=
 lu g b f tb w h.row h.tab hf
theorem Rw.Next (h:Rw W w g b tb) (f:Int) (hf:f<=9223372036854775807):CW 92 #[g,f] w (.tuple #[(foI (bI tb f true):Int),.bool (foB (bI tb f true))]):=
 sH g b f tb w h.row h.tab hf
end
theorem Mr (W w:World) (hT:Tab W) (hb:Bw W w) (n:Nat) (h0:1<=n) (h1:n<=65536):Calls Tryz.prog 109 #[(n:Int)] w fun e w'=>∃g b,e=.returned (.tuple #[(g:Nat),(0:Int)])/\Rw W w' g b (List.replicate n false)/\Bw w w':=
 (lg n w h0 h1).mono fun _ _ ⟨⟨g,b,he,hr,hg,hbb⟩,hbl⟩=>by
   have h2:=hb.trans (hbl.mono hb.size);exact ⟨g,b,he,⟨hr,hT.below h2,h2,Nat.le_trans hb.size hg,Nat.le_trans hb.size hbb⟩,hbl⟩
structure bE (w:World) (h c n:Nat) (tb:List Bool):Prop where
 ow:Ow 4 w h c (tb.map Value.bool)
 len:tb.length=n
section
variable {w w':World} {h c n:Nat} {tb:List Bool}
theorem bE.cell (H:bE w h c n tb) {k:Nat} (hk:k<n):w.cell? ⟨h,k,none⟩=some (.bool (tb.getD k false)):=by
 have hk':k<tb.length:=by rw [H.len];exact hk
 rw [H.ow.cell (by simpa using hk')];simp [List.getD,hk']
theorem bE.kept (H:bE w h c n tb) (hb:Bw w w'):bE w' h c n tb:=⟨H.ow.kept hb,H.len⟩
theorem bE.into {S:List Nat} (H:bE w h c n tb) (hb:Flow.Into S w w') (hn:h∉S):bE w' h c n tb:=⟨H.ow.into hb hn,H.len⟩
end
theorem Dx (tb:List Bool):∀u∈tb.map Value.bool,u.oneCell'=true:=by
 intro u hu;obtain ⟨x,_,rfl⟩:=List.mem_map.1 hu;rfl
end Bt
end Go.Proofs.YtjpjjnalpdpljaaGreatDoor
