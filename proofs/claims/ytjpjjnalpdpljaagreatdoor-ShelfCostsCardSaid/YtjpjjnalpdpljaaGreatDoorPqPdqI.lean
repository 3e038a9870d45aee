import Derived.Test.YtjpjjnalpdpljaaGreatDoorPkAI
set_option maxHeartbeats 4000000
set_option maxRecDepth 100000
namespace Go.Proofs.YtjpjjnalpdpljaaGreatDoor
open Go.RowKit
namespace Pq
open Mem Hp
theorem Adj.swap_out {l:List Nat} {a i p q:Nat} (h:Adj l a i) (hp:i<=p) (hq:i<=q) (hpl:p<l.length) (hql:q<l.length):Adj (swp l p q) a i:=fun k h1 h2=>by
 have G:=gt_swp (l:=l) hpl hql
 rw [G,G,if_neg (by omega),if_neg (by omega),if_neg (by omega),if_neg (by omega)]
 exact h k h1 h2
theorem Adj.less {l:List Nat} {a i j:Nat} (h:Adj l a i) (hj:j<=i):Adj l a j:=fun k h1 h2=>h k h1 (by omega)
theorem partial_any {w:World} {g c n a b:Nat} {l:List Nat} (h:Ow 25 w g c (l.map nV)) (hl:l.length=n) (hab:a+12<b) (hbn:b<=n) (hn:n<=1000) (hblw:Blw l a b):Calls Tryz.prog 191 #[.slice (some ⟨g,0,none⟩) n c, .int .i64 (a:Int), .int .i64 (b:Int)] w fun e w'=>∃(t:Bool) (L:List Nat),e= .returned (.bool t)/\US w w' g c n l L a b/\(t=true->Adj L a b):=by
 have H0:Hid (US w w g c n l l a b/\Adj l a (a+1)):=⟨US.start h hl a b,fun k h1 h2=>by omega⟩
 have HBL:Hid (∀L,Mvd l L a b->Blw L a b):=fun L hm=>hblw.moved hm (by rw [hl];exact hbn)
 have hw0:IntKind.i64.wrap ((a:Int)+1)=((a+1:Nat):Int):=by rw [IntKind.wrap_i64];omega
 obtain ⟨m0,hm0⟩:∃m,m=b-a:=⟨_,rfl⟩
 have hwm:IntKind.i64.wrap ((b:Int)-(a:Int))=(m0:Int):=by rw [IntKind.wrap_i64];omega
 clear h hl hblw hm0
 go_enter Tryz.func191,Tryz.ntmps191
 go_upto_block 0 with fail
 clear hw0
 go_wp2_with fail
 go_loopg [7,8] 5 (fun gk iv jv wr=>∃(i s:Nat) (L:List Nat),gk=5-s/\iv= .int .i64 (i:Int)/\jv= .int .i64 (s:Int)/\s<=5/\a+1<=i/\i<=b/\Hid (US w wr g c n l L a b)/\Hid (Adj L a i))
 case atStart=>exact ⟨a+1,0,l,rfl,by go_num,rfl,by omega,by omega,by omega,H0.out.1,H0.out.2⟩
 case round=>
  obtain ⟨i,s,L,rfl,rfl,rfl,hs5,hi1,hib,HS,HA⟩:=hrel
  clear H0
  by_cases hs:s<5
  case neg=>
   have hs':5<=s:=by omega
   go_wp2_with fail
   go_ret
   exact ⟨false,L,rfl,HS.out,fun e=>by cases e⟩
  have HSS:=Lib.hid hs
  go_upto_block 2 with fail
  go_cut [7] (fun iv wx=>∃i:Nat,iv= .int .i64 (i:Int)/\a+1<=i/\i<=b/\Hid (US w wx g c n l L a b)/\Hid (Adj L a i)/\Hid (i<b->gt L i<gt L (i-1)))
  case first=>
   have HS0:=HS
   have HA0:=HA
   clear HS HA
   go_wp2_with fail
   go_loopg [7] (b-i) (fun gk iv wr=>∃i:Nat,gk=b-i/\iv= .int .i64 (i:Int)/\a+1<=i/\i<=b/\Hid (US w wr g c n l L a b)/\Hid (Adj L a i))
   case atStart=>exact ⟨i,rfl,rfl,hi1,hib,HS0,HA0⟩
   case round=>
    obtain ⟨i2,rfl,rfl,hj1,hjb,HS,HA⟩:=hrel
    clear HS0 HA0 hi1 hib
    obtain ⟨i,rfl⟩:∃i,i=i2:=⟨_,rfl⟩
    by_cases hlt:i<b
    . obtain ⟨i1,hi1'⟩:∃i1,i=i1+1:=⟨i-1,by omega⟩
      have hw1:IntKind.i64.wrap ((i:Int)-1)=(i1:Int):=by rw [IntKind.wrap_i64];omega
      have hw2:IntKind.i64.wrap ((i:Int)+1)=((i+1:Nat):Int):=by rw [IntKind.wrap_i64];omega
      have hin:i<n:=by omega
      have hi1n:i1<n:=by omega
      have d1:=HS.out.cell hin
      have d2:=HS.out.cell hi1n
      have HI:=Lib.hid hi1'
      clear hi1'
      by_cases hxy:gt L i<gt L i1
      . have cL:=fun w=>Lib.hid (Less_is (t:=true) (x:=gt L i) (y:=gt L i1) (by simpa using hxy) w)
        have HX:Hid (i<b->gt L i<gt L (i-1)):=fun _=>by rw [HI.out,Nat.add_sub_cancel,<-HI.out];exact hxy
        clear hxy
        go_upto_region 5 with fail
        go_quiet ((go_at_call 192;exact Calls.quiet_of_same ((cL _).out.mono fun e w' ⟨he,hw⟩=>⟨he,hw.symm⟩)))
        have HSq:=Lib.hid (HS.out.drew nq)
        clear HS d1 d2
        go_wp2_with fail
        go_meet
        exact ⟨i,rfl,hj1,hjb,HSq,HA,HX⟩
      . have cL:=fun w=>Lib.hid (Less_is (t:=false) (x:=gt L i) (y:=gt L i1) (by simpa using hxy) w)
        have HA2:Hid (Adj L a (i+1)):=fun k h1 h2=>by
         by_cases e:k=i
         . rw [e,show i-1=i1 by have:=HI.out;omega]
           omega
         . exact HA.out k h1 (by omega)
        clear hxy HA
        go_upto_region 5 with fail
        go_quiet ((go_at_call 192;exact Calls.quiet_of_same ((cL _).out.mono fun e w' ⟨he,hw⟩=>⟨he,hw.symm⟩)))
        have HSq:=Lib.hid (HS.out.drew nq)
        clear HS d1 d2
        go_wp2_with fail
        go_roundg (b-(i+1))
        case measure=>omega
        case rel=>exact ⟨i+1,rfl,by go_num,by omega,by omega,HSq,HA2⟩
    . have HX:Hid (i<b->gt L i<gt L (i-1)):=fun h=>absurd h hlt
      have hge:b<=i:=by omega
      go_upto_region 5 with fail
      go_quiet (fail)
      have HSq:=Lib.hid (HS.out.drew nq)
      clear HS
      go_wp2_with fail
      go_meet
      exact ⟨i,rfl,hj1,hjb,HSq,HA,HX⟩
  case rest=>
  clear HS HA hi1 hib
  obtain ⟨i2,rfl,hi1,hib,HS2,HA2,HX⟩:=hcut
  obtain ⟨i,rfl⟩:∃i,i=i2:=⟨_,rfl⟩
  have HS:=HS2
  have HA:=HA2
  clear HS2 HA2
  by_cases hie:i=b
  . subst hie
    clear HX
    go_wp2_with fail
    go_ret
    exact ⟨true,L,rfl,HS.out,fun _=>HA.out⟩
  have hlt:i<b:=by omega
  have hd:((i:Int)==(b:Int))=false:=by simp;omega
  by_cases h50:m0<50
  . clear HX
    go_wp2_with fail
    go_ret
    exact ⟨false,L,rfl,HS.out,fun e=>by cases e⟩
  have h50':50<=m0:=by omega
  obtain ⟨i1,hi1'⟩:∃i1,i=i1+1:=⟨i-1,by omega⟩
  have hw1:IntKind.i64.wrap ((i:Int)-1)=(i1:Int):=by rw [IntKind.wrap_i64];omega
  have hpn:i<n:=by omega
  have hqn:i1<n:=by omega
  have hpa:a<=i:=by omega
  have hpb:=hlt
  have hqa:a<=i1:=by omega
  have hqb:i1<b:=by omega
  have hne:i≠i1:=by omega
  have hne':i1≠i:=by omega
  have HI:=Lib.hid hi1'
  have HA3:Hid (Adj (swp L i i1) a i1):=(HA.out.less (by omega)).swap_out (by omega) (Nat.le_refl _) (by rw [HS.out.len];exact hpn) (by rw [HS.out.len];exact hqn)
  clear hi1' HX HA hie
  go_upto_region 11 with fail
  go_upto_region 11 with fail
  have x0:=fun t:Drift.Tide [] wc []=>Drift.Tide.cell (HS.out.cell hpn) (by simp) t
  have x1:=fun t:Drift.Tide [] wc []=>Drift.Tide.cell (HS.out.cell hqn) (by simp) t
  refine Drift.wp_region_drift_late [] [(0,[]),(1,[]),(2,[]),(3,[]),(4,[]),(5,[]),(6,[]),(7,[]),(8,[]),(9,[]),(10,[]),(11,[]),(12,[]),(13,[]),(14,[])] [] [] [2,3,4] (by kernel_rfl) (by kernel_rfl) (by simp) ?_
  simp only [Drift.pick,Drift.opsAt,List.getElem?_toArray,List.getElem?_cons_zero,List.getElem?_cons_succ,List.cons_append,List.nil_append,List.filterMap_nil]
  repeat (refine Drift.walk_step (fun K hK=>?_);go_simp;(refine hK _ ?_;clear hK K))
  refine Drift.walk_clear rfl (.slice (some ⟨g,0,none⟩) n c) (fun W=>by go_simp) ?_
  refine Drift.walk_clear rfl (.int .i64 (i:Int)) (fun W=>by go_simp) ?_
  refine Drift.walk_clear rfl (.int .i64 (i1:Int)) (fun W=>by go_simp) ?_
  repeat (refine Drift.walk_step (fun K hK=>?_);go_simp;(refine hK _ ?_;clear hK K))
  refine Drift.walk_nil ?_
  intro w6 hb6 _
  clear x0 x1
  have h6:=HS.out.kept hb6
  have f:=h6.free
  have e1:=h6.cell hpn
  have e2:=h6.cell hqn
  have H7:=Lib.hid (h6.swap hbn hpa hpb hqa hqb)
  clear h6 hb6 HS
  simp only [List.length_cons,List.length_nil,List.drop_succ_cons,List.drop_zero,Nat.zero_add,Nat.reduceAdd]
  go_wp2_with fail
  (try rw [Flow.Nrm_normal])
  clear e1 e2 f
  generalize (w6.setCell ⟨g,i,none⟩ (.int .u32 ((gt L i1:Nat):Int))).setCell ⟨g,i1,none⟩ (.int .u32 ((gt L i:Nat):Int))=w7 at*
  clear hpn hqn hpa hpb hqa hqb hne hne' hd h50 h50'
  generalize swp L i i1=L1 at*
  obtain ⟨d2,hd2⟩:∃d,d=i-a:=⟨_,rfl⟩
  have hwd:IntKind.i64.wrap ((i:Int)-(a:Int))=(d2:Int):=by rw [IntKind.wrap_i64];omega
  have HD2:=Lib.hid hd2
  clear hd2
  go_upto_region 12 with fail
  go_cut [61] (fun tv wx=>∃t:Bool,tv= .bool t/\Hid (t=true↔2<=d2)/\Hid (US w wx g c n l L1 a b))
  case first=>
   go_wp2_with fail
   go_meet
   exact ⟨_,rfl,(by unfold Hid;simp;omega),H7⟩
  case rest=>
  obtain ⟨t12,rfl,HT12,H7'⟩:=hcut
  clear H7 hwd
  have H7:=H7'
  clear H7'
  go_upto_if 61 with fail
  go_cut [7] (fun iv wx=>iv= .int .i64 (i:Int)/\(∃L,Hid (US w wx g c n l L a b)/\Hid (Adj L a i)))
  case first=>
   cases t12 with
   |false=>
    have HAE:Hid (Adj L1 a i):=fun k h1 h2=>by
     have:=HD2.out
     have h3:¬2<=d2:=fun h=>by have:=HT12.out.2 h;cases this
     omega
    clear HT12
    go_wp2_with fail
    go_meet
    exact ⟨rfl,L1,H7,HAE⟩
   |true=>
   have hd3:=HT12.out.1 rfl
   clear HT12
   have HIN:Hid (Ins L1 a i1 i1):=Ins.start HA3.out
   have hia:a<=i1:=by have:=HI.out;omega
   have hi1b:i1<b:=by have:=HI.out;omega
   have hd3':=hd3
   clear hd3 hd3'
   go_upto_block 4 with fail
   clear hw1 HA3
   go_wp2_with fail
   go_loopg [9] i1 (fun gk jv wr=>∃(j:Nat) (L:List Nat),gk=j/\jv= .int .i64 (j:Int)/\a<=j/\j<=i1/\Hid (US w wr g c n l L a b)/\Hid (Ins L a i1 j))
   case atStart=>exact ⟨i1,L1,rfl,rfl,hia,Nat.le_refl _,H7,HIN⟩
   case round=>
    obtain ⟨j,L,hgk,rfl,hja,hji,HS,HIN2⟩:=hrel
    replace hgk:=hgk.symm
    subst hgk
    clear H7 HIN
    obtain ⟨wx,rfl⟩:∃wx:World,wx=wr:=⟨_,rfl⟩
    have HFIN:Hid (j<=a\/gt L (j-1)<=gt L j->Adj L a i):=fun h=>by
     have:=HIN2.out.stop h
     rwa [<-HI.out] at this
    rcases Nat.eq_zero_or_pos j with h0|h0
    . have HAE:=Lib.hid (HFIN.out (.inl (by omega)))
      subst h0
      clear HFIN HIN2
      go_wp2_with fail
      go_meet
      exact ⟨rfl,L,HS,HAE⟩
    obtain ⟨j1,hj1⟩:∃j1,j=j1+1:=⟨j-1,by omega⟩
    have hwj:IntKind.i64.wrap ((j:Int)-1)=(j1:Int):=by rw [IntKind.wrap_i64];omega
    have hpn:j<n:=by omega
    have hqn:j1<n:=by omega
    have d1:=HS.out.cell hpn
    have d2':=HS.out.cell hqn
    have hj0:1<=j:=h0
    by_cases hxy:gt L j<gt L j1
    . have hja2:a<j:=by
       rcases Nat.lt_or_ge a j with h1|h1
       . exact h1
       . exfalso
         have e:j=a:=by omega
         have:=HBL.out L HS.out.mv (by omega) a (Nat.le_refl _) (by omega)
         rw [show a-1=j1 by omega,<-e] at this
         omega
      have HJ:=Lib.hid hj1
      have HIN3:Hid (Ins (swp L j j1) a i1 j1):=by
       have:=HIN2.out
       rw [hj1] at this hxy ⊢
       exact this.step (by omega) (by omega) (by rw [HS.out.len];omega) hxy
      have cL:=fun w=>Lib.hid (Less_is (t:=true) (x:=gt L j) (y:=gt L j1) (by simpa using hxy) w)
      have hpa:a<=j:=by omega
      have hpb:j<b:=by omega
      have hqa:a<=j1:=by omega
      have hqb:j1<b:=by omega
      have hne:j≠j1:=by omega
      have hne':j1≠j:=by omega
      clear hxy HIN2 HFIN hj1
      go_upto_region 16 with fail
      go_quiet ((go_at_call 192;exact Calls.quiet_of_same ((cL _).out.mono fun e w' ⟨he,hw⟩=>⟨he,hw.symm⟩)))
      go_upto_region 17 with fail
      have HSq:=Lib.hid (HS.out.drew nq)
      clear HS d1 d2' cL
      generalize wx.drewN nq=wx at*
      have HS:=HSq
      clear HSq
      go_upto_region 17 with fail
      have x0:=fun t:Drift.Tide [] wx []=>Drift.Tide.cell (HS.out.cell hpn) (by simp) t
      have x1:=fun t:Drift.Tide [] wx []=>Drift.Tide.cell (HS.out.cell hqn) (by simp) t
      refine Drift.wp_region_drift_late [] [(0,[]),(1,[]),(2,[]),(3,[]),(4,[]),(5,[]),(6,[]),(7,[]),(8,[]),(9,[]),(10,[]),(11,[]),(12,[]),(13,[]),(14,[])] [] [] [2,3,4] (by kernel_rfl) (by kernel_rfl) (by simp) ?_
      simp only [Drift.pick,Drift.opsAt,List.getElem?_toArray,List.getElem?_cons_zero,List.getElem?_cons_succ,List.cons_append,List.nil_append,List.filterMap_nil]
      repeat (refine Drift.walk_step (fun K hK=>?_);go_simp;(refine hK _ ?_;clear hK K))
      refine Drift.walk_clear rfl (.slice (some ⟨g,0,none⟩) n c) (fun W=>by go_simp) ?_
      refine Drift.walk_clear rfl (.int .i64 (j:Int)) (fun W=>by go_simp) ?_
      refine Drift.walk_clear rfl (.int .i64 (j1:Int)) (fun W=>by go_simp) ?_
      repeat (refine Drift.walk_step (fun K hK=>?_);go_simp;(refine hK _ ?_;clear hK K))
      refine Drift.walk_nil ?_
      intro w6 hb6 _
      clear x0 x1
      have h6:=HS.out.kept hb6
      have f:=h6.free
      have e1:=h6.cell hpn
      have e2:=h6.cell hqn
      have H7:=Lib.hid (h6.swap hbn hpa hpb hqa hqb)
      clear h6 hb6 HS
      simp only [List.length_cons,List.length_nil,List.drop_succ_cons,List.drop_zero,Nat.zero_add,Nat.reduceAdd]
      go_wp2_with fail
      (try rw [Flow.Nrm_normal])
      clear e1 e2 f
      generalize (w6.setCell ⟨g,j,none⟩ (.int .u32 ((gt L j1:Nat):Int))).setCell ⟨g,j1,none⟩ (.int .u32 ((gt L j:Nat):Int))=w7 at*
      (try go_wp2_with fail)
      go_roundg j1
      case measure=>have:=HJ.out;omega
      case rel=>exact ⟨j1,_,rfl,rfl,by have:=HJ.out;omega,by have:=HJ.out;omega,H7,HIN3⟩
    . have cL:=fun w=>Lib.hid (Less_is (t:=false) (x:=gt L j) (y:=gt L j1) (by simpa using hxy) w)
      have HAE:=Lib.hid (HFIN.out (.inr (by rw [show j-1=j1 by omega];omega)))
      clear hxy HIN2 HFIN hj1
      go_upto_region 16 with fail
      go_quiet ((go_at_call 192;exact Calls.quiet_of_same ((cL _).out.mono fun e w' ⟨he,hw⟩=>⟨he,hw.symm⟩)))
      have HSq:=Lib.hid (HS.out.drew nq)
      clear HS d1 d2'
      go_wp2_with fail
      go_meet
      exact ⟨rfl,L,HSq,HAE⟩
  case rest=>
  clear H7 HA3 HD2 hw1
  obtain ⟨rfl,L,HS,HA⟩:=hcut
  obtain ⟨d3,hd3⟩:∃d,d=b-i:=⟨_,rfl⟩
  have hwd:IntKind.i64.wrap ((b:Int)-(i:Int))=(d3:Int):=by rw [IntKind.wrap_i64];omega
  have hwi:IntKind.i64.wrap ((i:Int)+1)=((i+1:Nat):Int):=by rw [IntKind.wrap_i64];omega
  have HD3:=Lib.hid hd3
  clear hd3
  go_upto_region 18 with fail
  go_cut [98] (fun tv wx=>∃t:Bool,tv= .bool t/\Hid (t=true↔2<=d3)/\Hid (US w wx g c n l L a b))
  case first=>
   go_wp2_with fail
   go_meet
   exact ⟨_,rfl,(by unfold Hid;simp;omega),HS⟩
  case rest=>
  obtain ⟨t18,rfl,HT18,HS'⟩:=hcut
  clear HS hwd
  have HS:=HS'
  clear HS'
  go_upto_if 98 with fail
  cases t18 with
  |false=>
   clear HT18
   have hs:=HSS.out
   have hws:IntKind.i64.wrap ((s:Int)+1)=((s+1:Nat):Int):=by rw [IntKind.wrap_i64];omega
   go_wp2_with fail
   go_roundg (5-(s+1))
   case measure=>omega
   case rel=>exact ⟨i,s+1,L,rfl,rfl,by go_num,by omega,hi1,by omega,HS,HA⟩
  |true=>
  have hi2b:i+1<=b:=by have:=HT18.out.1 rfl;have:=HD3.out;omega
  clear HT18
  go_upto_block 6 with fail
  clear hwi
  have HS0:=HS
  have HA0:=HA
  clear HS HA
  go_wp2_with fail
  go_loopg [10] (b-(i+1)) (fun gk jv wr=>∃(j:Nat) (L:List Nat),gk=b-j/\jv= .int .i64 (j:Int)/\i+1<=j/\j<=b/\Hid (US w wr g c n l L a b)/\Hid (Adj L a i))
  case atStart=>exact ⟨i+1,L,rfl,by go_num,Nat.le_refl _,hi2b,HS0,HA0⟩
  case round=>
   obtain ⟨j,L,rfl,rfl,hij,hjb,HS,HA⟩:=hrel
   clear HS0 HA0
   obtain ⟨wx,rfl⟩:∃wx:World,wx=wr:=⟨_,rfl⟩
   by_cases hjl:j<b
   case neg=>
    have hjl':b<=j:=by omega
    have hs:=HSS.out
    have hws:IntKind.i64.wrap ((s:Int)+1)=((s+1:Nat):Int):=by rw [IntKind.wrap_i64];omega
    go_wp2_with fail
    go_roundg (5-(s+1))
    case measure=>omega
    case rel=>exact ⟨i,s+1,L,rfl,rfl,by go_num,by omega,hi1,by omega,HS,HA⟩
   obtain ⟨j1,hj1⟩:∃j1,j=j1+1:=⟨j-1,by omega⟩
   have hwj:IntKind.i64.wrap ((j:Int)-1)=(j1:Int):=by rw [IntKind.wrap_i64];omega
   have hwj2:IntKind.i64.wrap ((j:Int)+1)=((j+1:Nat):Int):=by rw [IntKind.wrap_i64];omega
   have hpn:j<n:=by omega
   have hqn:j1<n:=by omega
   have d1:=HS.out.cell hpn
   have d2':=HS.out.cell hqn
   have HJ:=Lib.hid hj1
   by_cases hxy:gt L j<gt L j1
   . have HAN:Hid (Adj (swp L j j1) a i):=HA.out.swap_out (by omega) (by omega) (by rw [HS.out.len];exact hpn) (by rw [HS.out.len];exact hqn)
     have cL:=fun w=>Lib.hid (Less_is (t:=true) (x:=gt L j) (y:=gt L j1) (by simpa using hxy) w)
     have hpa:a<=j:=by omega
     have hpb:j<b:=by omega
     have hqa:a<=j1:=by omega
     have hqb:j1<b:=by omega
     have hne:j≠j1:=by omega
     have hne':j1≠j:=by omega
     clear hxy HA hj1
     go_upto_region 22 with fail
     go_quiet ((go_at_call 192;exact Calls.quiet_of_same ((cL _).out.mono fun e w' ⟨he,hw⟩=>⟨he,hw.symm⟩)))
     go_upto_region 23 with fail
     have HSq:=Lib.hid (HS.out.drew nq)
     clear HS d1 d2' cL
     generalize wx.drewN nq=wx at*
     have HS:=HSq
     clear HSq
     go_upto_region 23 with fail
     have x0:=fun t:Drift.Tide [] wx []=>Drift.Tide.cell (HS.out.cell hpn) (by simp) t
     have x1:=fun t:Drift.Tide [] wx []=>Drift.Tide.cell (HS.out.cell hqn) (by simp) t
     refine Drift.wp_region_drift_late [] [(0,[]),(1,[]),(2,[]),(3,[]),(4,[]),(5,[]),(6,[]),(7,[]),(8,[]),(9,[]),(10,[]),(11,[]),(12,[]),(13,[]),(14,[])] [] [] [2,3,4] (by kernel_rfl) (by kernel_rfl) (by simp) ?_
     simp only [Drift.pick,Drift.opsAt,List.getElem?_toArray,List.getElem?_cons_zero,List.getElem?_cons_succ,List.cons_append,List.nil_append,List.filterMap_nil]
     repeat (refine Drift.walk_step (fun K hK=>?_);go_simp;(refine hK _ ?_;clear hK K))
     refine Drift.walk_clear rfl (.slice (some ⟨g,0,none⟩) n c) (fun W=>by go_simp) ?_
     refine Drift.walk_clear rfl (.int .i64 (j:Int)) (fun W=>by go_simp) ?_
     refine Drift.walk_clear rfl (.int .i64 (j1:Int)) (fun W=>by go_simp) ?_
     repeat (refine Drift.walk_step (fun K hK=>?_);go_simp;(refine hK _ ?_;clear hK K))
     refine Drift.walk_nil ?_
     intro w6 hb6 _
     clear x0 x1
     have h6:=HS.out.kept hb6
     have f:=h6.free
     have e1:=h6.cell hpn
     have e2:=h6.cell hqn
     have H7:=Lib.hid (h6.swap hbn hpa hpb hqa hqb)
     clear h6 hb6 HS
     simp only [List.length_cons,List.length_nil,List.drop_succ_cons,List.drop_zero,Nat.zero_add,Nat.reduceAdd]
     go_wp2_with fail
     (try rw [Flow.Nrm_normal])
     clear e1 e2 f
     generalize (w6.setCell ⟨g,j,none⟩ (.int .u32 ((gt L j1:Nat):Int))).setCell ⟨g,j1,none⟩ (.int .u32 ((gt L j:Nat):Int))=w7 at*
     (try go_wp2_with fail)
     go_roundg (b-(j+1))
     case measure=>omega
     case rel=>exact ⟨j+1,_,rfl,by go_num,by omega,by omega,H7,HAN⟩
   . have cL:=fun w=>Lib.hid (Less_is (t:=false) (x:=gt L j) (y:=gt L j1) (by simpa using hxy) w)
     clear hxy hj1
     go_upto_region 22 with fail
     go_quiet ((go_at_call 192;exact Calls.quiet_of_same ((cL _).out.mono fun e w' ⟨he,hw⟩=>⟨he,hw.symm⟩)))
     have HSq:=Lib.hid (HS.out.drew nq)
     clear HS d1 d2'
     have hs:=HSS.out
     have hws:IntKind.i64.wrap ((s:Int)+1)=((s+1:Nat):Int):=by rw [IntKind.wrap_i64];omega
     go_wp2_with fail
     go_roundg (5-(s+1))
     case measure=>omega
     case rel=>exact ⟨i,s+1,L,rfl,rfl,by go_num,by omega,hi1,by omega,HSq,HA⟩
end Pq
end Go.Proofs.YtjpjjnalpdpljaaGreatDoor
