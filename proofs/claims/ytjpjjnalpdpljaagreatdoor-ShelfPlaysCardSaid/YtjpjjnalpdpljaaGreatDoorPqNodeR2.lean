import Derived.Test.YtjpjjnalpdpljaaGreatDoorPkAV
set_option maxHeartbeats 16000000
set_option maxRecDepth 100000
namespace Go.Proofs.YtjpjjnalpdpljaaGreatDoor
open Go.RowKit
open Go.Lib (hid)
open ah (dL tc)
open IntKind (wrap_i64)
open List (drop_nil mem_of_getElem?)
namespace No
open Mem Lx Bu Lf Fa
theorem isEmpty_eq (a:ByteArray):a.toList.isEmpty=decide (a=⟨#[]⟩):=by
 rw [<-fG,show (⟨#[]⟩:ByteArray).toList=[] by rw [Lib.toList_data]];cases a.toList<;>rfl
theorem EY {W:World} (c:Cfg) (lo hi:ByteArray) (top:Bool) {n:Nd} {a:At} (h:gK W n a) (hf:Sz n) (jr:∀k,k∈n.kids->k<4294967296) (hlo:lo.size<=maxLen):Calls Tryz.prog 160 #[.agg (aZ c),fu lo hi top,.agg (bL n a)] W fun e w'=>(∃v:Bool,e=.returned (.bool v)/\(v=true↔nG c lo hi top n))/\Bw W w':=by
 obtain ⟨P,hP⟩:∃P:Prop,P=nG c lo hi top n:=⟨_,rfl⟩
 have HP:Hid (P->nG c lo hi top n):=fun h=>by rw [hP] at h;exact h
 have HQ:Hid (nG c lo hi top n->P):=fun h=>by rw [hP];exact h
 rw [<-hP];clear hP;have cK:=fun (k:ByteArray) (w:World)=>hid (zw c k w);obtain ⟨lv,K,L,B,Q⟩:=n;obtain ⟨kA,kc,pA,pc,bA,bc,qA,qc⟩:=a;have l1:=hf.kl;have l2:=hf.pl;have l3:=hf.bl;have l4:=hf.ql;have HKI:Hid (KL W kA K):=h.kids.1;have HPI:Hid (SL W pA L):=h.piv.1;have HBU:Hid (RdK MgK W bA B):=h.buf.1;have HPR:Hid (PL W qA Q):=h.prs.1;have HSK:Hid (∀p,p∈L->p.size<=maxLen):=hf.piv;have HSB:Hid (∀m,m∈B->m.1.size<=maxLen):=hf.buf;have HSQ:Hid (∀m,m∈Q->m.1.size<=maxLen):=hf.prs;have cI:=fun (k:ByteArray) (w:World) (hk:k.size<=maxLen)=>hid (xD lo hi top k w hlo hk);have HKD:Hid (∀k,k∈K->k<4294967296):=jr;have cR:=fun (w:World) (hb:Bw W w)=>hid (Fa.gN (c:=pc) (HPI.out.kept hb) lo hi top hlo HSK.out (Nat.le_trans l2 (by decide)));have cM:=fun (w:World) (hb:Bw W w)=>hid (Bu.gN (c:=bc) (HBU.out.kept hb) HSB.out (Nat.le_trans l3 (by decide)));clear jr;obtain ⟨cB,cY,cF,cN,cU,cL,cKy,cV⟩:=c;unfold bL aZ;unfold aZ at cK;simp only at*;generalize hkn:K.length=kn at*;generalize hpn:L.length=pn at*;generalize hbn:B.length=bn at*;generalize hqn:Q.length=qn at*;have HKN:=hid hkn;have HPN:=hid hpn;have HBN:=hid hbn;have HQN:=hid hqn;clear h hf hkn hpn hbn hqn hlo;go_enter Tryz.func160,Tryz.ntmps160
 go_upto_region 1 with fail
 have HB0:=hid (B3.new W (.cells #[cB,cY,cF,cN,cU,cL,cKy,cV] 23) (.cells #[.string lo,.string hi,.bool top] 152) (.cells #[lv,.slice kA kn kc,.slice pA pn pc,.slice bA bn bc,.slice qA qn qc] 43));generalize ((W.alloc (.cells #[cB,cY,cF,cN,cU,cL,cKy,cV] 23)).alloc (.cells #[.string lo,.string hi,.bool top] 152)).alloc (.cells #[lv,.slice kA kn kc,.slice pA pn pc,.slice bA bn bc,.slice qA qn qc] 43)=w1 at*;obtain ⟨g,hg⟩:∃g,g=W.heap.size:=⟨_,rfl⟩
 rw [<-hg] at HB0;simp only [<-hg];clear hg;go_upto_block 0 with fail
 go_cut [] (fun wx=>Hid (qL ⟨cB,cY,cF,cN,cU,cL,cKy,cV⟩ K)/\Hid (B3 W g (.cells #[cB,cY,cF,cN,cU,cL,cKy,cV] 23) (.cells #[.string lo,.string hi,.bool top] 152) (.cells #[lv,.slice kA kn kc,.slice pA pn pc,.slice bA bn bc,.slice qA qn qc] 43) wx))
 case first=>
  go_wp2_with fail
  go_loopg [7] kn (fun gk iv wx=>∃j:Nat,j<=kn/\gk=kn-j/\iv= .int .i64 (j:Int)/\Hid (∀(i k:Nat),i<j->K[i]? =some k->(k≠0/\(k:Int)<cB)/\∀(i' m:Nat),i'<i->K[i']? =some m->m≠k)/\Hid (B3 W g (.cells #[cB,cY,cF,cN,cU,cL,cKy,cV] 23) (.cells #[.string lo,.string hi,.bool top] 152) (.cells #[lv,.slice kA kn kc,.slice pA pn pc,.slice bA bn bc,.slice qA qn qc] 43) wx))
  case atStart=>exact ⟨0,Nat.zero_le _,rfl,rfl,fun i x hi=>by omega,HB0⟩
  case round=>
   clear HB0;obtain ⟨j,hj,rfl,rfl,HJ,HB⟩:=hrel;obtain ⟨d0,d1,d2,d3,d4⟩:=aG HB.out.z;by_cases hlt:j<kn
   . have hjL:j<K.length:=by rw [HKN.out];exact hlt
     obtain ⟨x,hxx⟩:∃x,x=K[j]:=⟨_,rfl⟩
     have hx':=lI hjL;rw [<-hxx] at hx';have hw3:IntKind.i64.wrap ((j:Int)+1)=((j+1:Nat):Int):=(by rw [wrap_i64];omega);have HXX:=hid hx';have hx32:=HKD.out x (mem_of_getElem? hx');have HNP:Hid (¬((x≠0/\(x:Int)<cB)/\∀(i' m:Nat),i'<j->K[i']? =some m->m≠x)->¬P):=fun hn hp=>hn ((HP.out hp).kids j x HXX.out);clear hxx hx' hjL;go_upto_block 1 with fail
     go_cut [] (fun wx=>Hid ((x≠0/\(x:Int)<cB)/\∀(i' m:Nat),i'<j->K[i']? =some m->m≠x)/\Hid (B3 W g (.cells #[cB,cY,cF,cN,cU,cL,cKy,cV] 23) (.cells #[.string lo,.string hi,.bool top] 152) (.cells #[lv,.slice kA kn kc,.slice pA pn pc,.slice bA bn bc,.slice qA qn qc] 43) wx))
     case first=>
      clear HJ;obtain ⟨b,o,e,-,c0⟩:=RdK.kid (HKI.out.kept HB.out.below) HXX.out;subst e;obtain ⟨g0,g1,g2,g3,g4,g5,g6,g7⟩:=aT HB.out.x;have z0:=tc c0;have z1:=tc d1;have z2:=tc g0;have hwx:IntKind.i64.wrap (x:Int)=(x:Int):=(by rw [wrap_i64];omega);clear c0 d0 d1 d2 d3 d4 g0 g1 g2 g3 g4 g5 g6 g7;go_upto_region 4 with fail
      by_cases hx0:x=0
      . have HNO:Hid (¬P):=HNP.out fun hh=>hh.1.1 hx0
        have ht:((x:Int)==0)=true:=(by simp [hx0]);clear hx0 HNP hx32;refine ah.aj [] [(0,[]),(1,[]),(2,[]),(3,[]),(4,[]),(5,[]),(6,[]),(7,[]),(8,[]),(9,[]),(10,[]),(11,[]),(12,[]),(13,[]),(14,[]),(15,[]),(16,[])] [] [] (by kernel_rfl) (by kernel_rfl) (by simp) ?_;simp only [ah.pick,ah.aO,dL]
        repeat (refine ah.ak (fun K hK=>?_);go_simp;(refine hK _ ?_;clear hK K))
        refine ah.walk_nil ?_;intro w2 hb _;have HB2:=hid (HB.out.kept hb);clear hb;simp only [lC,drop_nil,Nat.zero_add,Nat.reduceAdd];clear z0 z1 z2 HB;go_wp2_with fail
        go_ret
        exact ⟨⟨false,rfl,(fun h=>by cases h),fun h=>absurd h HNO.out⟩,HB2.out.below⟩
      have ht:((x:Int)==0)=false:=(by simp;omega);by_cases hxb:(x:Int)<cB
      case neg=>
       have HNO:Hid (¬P):=HNP.out fun hh=>hxb hh.1.2;have ht2:cB<=(x:Int):=(by omega);clear hx0 hxb HNP hx32;refine ah.aj [] [(0,[]),(1,[]),(2,[]),(3,[]),(4,[]),(5,[]),(6,[]),(7,[]),(8,[]),(9,[]),(10,[]),(11,[]),(12,[]),(13,[]),(14,[]),(15,[]),(16,[])] [] [] (by kernel_rfl) (by kernel_rfl) (by simp) ?_;simp only [ah.pick,ah.aO,dL]
       repeat (refine ah.ak (fun K hK=>?_);go_simp;(refine hK _ ?_;clear hK K))
       refine ah.walk_nil ?_;intro w2 hb _;have HB2:=hid (HB.out.kept hb);clear hb;simp only [lC,drop_nil,Nat.zero_add,Nat.reduceAdd];clear z0 z1 z2 HB;go_wp2_with fail
       go_ret
       exact ⟨⟨false,rfl,(fun h=>by cases h),fun h=>absurd h HNO.out⟩,HB2.out.below⟩
      have HX1:Hid (x≠0/\(x:Int)<cB):=⟨hx0,hxb⟩;have ht2:decide (cB<=(x:Int))=false:=(by simp;omega);clear hx0 hxb hx32;refine ah.aj [] [(0,[]),(1,[]),(2,[]),(3,[]),(4,[]),(5,[]),(6,[]),(7,[]),(8,[]),(9,[]),(10,[]),(11,[]),(12,[]),(13,[]),(14,[]),(15,[]),(16,[])] [] [] (by kernel_rfl) (by kernel_rfl) (by simp) ?_;simp only [ah.pick,ah.aO,dL]
      repeat (refine ah.ak (fun K hK=>?_);go_simp;(refine hK _ ?_;clear hK K))
      refine ah.walk_nil ?_;intro w2 hb _;have HB2:=hid (HB.out.kept hb);clear hb;simp only [lC,drop_nil,Nat.zero_add,Nat.reduceAdd];clear z0 z1 z2 HB ht ht2 hwx;go_upto_block 2 with fail
      go_wp2_with fail
      go_loopg [8] j (fun gk iv wx=>∃i:Nat,i<=j/\gk=j-i/\iv= .int .i64 (i:Int)/\Hid (∀(i' m:Nat),i'<i->K[i']? =some m->m≠x)/\Hid (B3 W g (.cells #[cB,cY,cF,cN,cU,cL,cKy,cV] 23) (.cells #[.string lo,.string hi,.bool top] 152) (.cells #[lv,.slice (some ⟨b,o,none⟩) kn kc,.slice pA pn pc,.slice bA bn bc,.slice qA qn qc] 43) wx))
      case atStart=>exact ⟨0,Nat.zero_le _,rfl,rfl,fun i' m hi=>by omega,HB2⟩
      case round=>
       clear HB2;obtain ⟨i,hi,rfl,rfl,HI,HB⟩:=hrel;by_cases PW:i<j
       . have hiL:i<K.length:=by rw [HKN.out];omega
         obtain ⟨y,hyy⟩:∃y,y=K[i]:=⟨_,rfl⟩
         have hy':=lI hiL;rw [<-hyy] at hy';have HYY:=hid hy';obtain ⟨b2,o2,e,-,c1⟩:=RdK.kid (HKI.out.kept HB.out.below) hy';obtain ⟨rfl,rfl⟩:b=b2/\o=o2:=(by simpa using e);obtain ⟨b3,o3,e3,-,c0⟩:=RdK.kid (HKI.out.kept HB.out.below) HXX.out;obtain ⟨rfl,rfl⟩:b=b3/\o=o3:=(by simpa using e3);obtain ⟨d0,d1,d2,d3,d4⟩:=aG HB.out.z;have hw4:IntKind.i64.wrap ((i:Int)+1)=((i+1:Nat):Int):=(by rw [wrap_i64];omega);have z0:=tc c0;have z1:=tc d1;have z2:=tc c1;have hin:i<kn:=(by omega);clear e e3 hyy hy' hiL c0 c1 d0 d1 d2 d3 d4;go_upto_region 9 with fail
         by_cases hyx:y=x
         . have HNO:Hid (¬P):=HNP.out fun hh=>hh.2 i y PW HYY.out hyx
           have ht:((y:Int)==(x:Int))=true:=(by simp [hyx]);clear hyx HNP;refine ah.aj [] [(0,[]),(1,[]),(2,[]),(3,[]),(4,[]),(5,[]),(6,[]),(7,[]),(8,[]),(9,[]),(10,[])] [] [] (by kernel_rfl) (by kernel_rfl) (by simp) ?_;simp only [ah.pick,ah.aO,dL]
           repeat (refine ah.ak (fun K hK=>?_);go_simp;(refine hK _ ?_;clear hK K))
           refine ah.walk_nil ?_;intro w2 hb _;have HB2:=hid (HB.out.kept hb);clear hb;simp only [lC,drop_nil,Nat.zero_add,Nat.reduceAdd];clear z0 z1 z2 HB;go_wp2_with fail
           go_ret
           exact ⟨⟨false,rfl,(fun h=>by cases h),fun h=>absurd h HNO.out⟩,HB2.out.below⟩
         have ht:((y:Int)==(x:Int))=false:=by simp;omega
         have HI2:Hid (∀(i' m:Nat),i'<i+1->K[i']? =some m->m≠x):=fun i' m hi' hm=>by
          by_cases e:i'=i
          . subst e
            rw [HYY.out] at hm;(cases hm);exact hyx
          . exact HI.out i' m (by omega) hm
         clear hyx;refine ah.aj [] [(0,[]),(1,[]),(2,[]),(3,[]),(4,[]),(5,[]),(6,[]),(7,[]),(8,[]),(9,[]),(10,[])] [] [] (by kernel_rfl) (by kernel_rfl) (by simp) ?_;simp only [ah.pick,ah.aO,dL]
         repeat (refine ah.ak (fun K hK=>?_);go_simp;(refine hK _ ?_;clear hK K))
         refine ah.walk_nil ?_;intro w2 hb _;have HB2:=hid (HB.out.kept hb);clear hb;simp only [lC,drop_nil,Nat.zero_add,Nat.reduceAdd];clear z0 z1 z2 HB;go_wp2_with fail
         go_roundg (j-(i+1))
         case measure=>omega
         case rel=>exact ⟨i+1,PW,rfl,by go_num,HI2,HB2⟩
       . obtain rfl:i=j:=by omega
         have HZ:Hid ((x≠0/\(x:Int)<cB)/\∀(i' m:Nat),i'<i->K[i']? =some m->m≠x):=⟨HX1.out,HI.out⟩;clear PW;go_wp2_with fail
         go_meet
         exact ⟨HZ,HB⟩
     case rest=>
     clear HB d0 d1 d2 d3 d4 HNP;obtain ⟨HZ,HB⟩:=hcut
     have HJ2:Hid (∀(i k:Nat),i<j+1->K[i]? =some k->(k≠0/\(k:Int)<cB)/\∀(i' m:Nat),i'<i->K[i']? =some m->m≠k):=fun i k hi hk=>by
      by_cases e:i=j
      . subst e
        rw [HXX.out] at hk;(cases hk);exact HZ.out
      . exact HJ.out i k (by omega) hk
     go_wp2_with fail
     go_roundg (kn-(j+1))
     case measure=>omega
     case rel=>exact ⟨j+1,hlt,rfl,by go_num,HJ2,HB⟩
   . have HZ:Hid (qL ⟨cB,cY,cF,cN,cU,cL,cKy,cV⟩ K):=fun i k hk=>HJ.out i k (by
      have:=(List.getElem?_eq_some_iff.1 hk).1;rw [HKN.out] at this
      omega) hk
     obtain rfl:j=kn:=(by omega);clear hlt;go_wp2_with fail
     go_meet
     exact ⟨HZ,HB⟩
 case rest=>
 clear HB0;obtain ⟨HZK,HB0⟩:=hcut;go_upto_block 4 with fail
 go_cut [] (fun wx=>Hid (∀p,p∈L->jT ⟨cB,cY,cF,cN,cU,cL,cKy,cV⟩ p=true)/\Hid (B3 W g (.cells #[cB,cY,cF,cN,cU,cL,cKy,cV] 23) (.cells #[.string lo,.string hi,.bool top] 152) (.cells #[lv,.slice kA kn kc,.slice pA pn pc,.slice bA bn bc,.slice qA qn qc] 43) wx))
 case first=>
  go_wp2_with fail
  go_loopg [9] pn (fun gk iv wx=>∃j:Nat,j<=pn/\gk=pn-j/\iv= .int .i64 (j:Int)/\Hid (∀(i:Nat) (y:ByteArray),i<j->L[i]? =some y->jT ⟨cB,cY,cF,cN,cU,cL,cKy,cV⟩ y=true)/\Hid (B3 W g (.cells #[cB,cY,cF,cN,cU,cL,cKy,cV] 23) (.cells #[.string lo,.string hi,.bool top] 152) (.cells #[lv,.slice kA kn kc,.slice pA pn pc,.slice bA bn bc,.slice qA qn qc] 43) wx))
  case atStart=>exact ⟨0,Nat.zero_le _,rfl,rfl,fun i x hi=>by omega,HB0⟩
  case round=>
   clear HB0;obtain ⟨j,hj,rfl,rfl,HJ,HB⟩:=hrel;obtain ⟨d0,d1,d2,d3,d4⟩:=aG HB.out.z;by_cases hlt:j<pn
   . have hjL:j<L.length:=by rw [HPN.out];exact hlt
     obtain ⟨x,hxx⟩:∃x,x=L[j]:=⟨_,rfl⟩
     have hx':=iH hjL;rw [<-hxx] at hx';obtain ⟨b,o,e,-,c0⟩:=RdK.str (HPI.out.kept HB.out.below) hx';subst e;have HXX:=hid hx';have hw3:IntKind.i64.wrap ((j:Int)+1)=((j+1:Nat):Int):=(by rw [wrap_i64];omega);obtain ⟨g0,g1,g2,g3,g4,g5,g6,g7⟩:=aT HB.out.x;have cX:=fun w=>cK x w
     have HNK:Hid (jT ⟨cB,cY,cF,cN,cU,cL,cKy,cV⟩ x=false->¬P):=fun e hp=>by
      have:=(HP.out hp).piv x (mem_of_getElem? HXX.out);rw [e] at this;cases this
     have HYK:Hid (jT ⟨cB,cY,cF,cN,cU,cL,cKy,cV⟩ x=true->∀(i:Nat) (y:ByteArray),i<j+1->L[i]? =some y->jT ⟨cB,cY,cF,cN,cU,cL,cKy,cV⟩ y=true):=fun hk i y hi hy=>by
      by_cases e:i=j
      . subst e
        rw [HXX.out] at hy;(cases hy);exact hk
      . exact HJ.out i y (by omega) hy
     generalize hkb:jT ⟨cB,cY,cF,cN,cU,cL,cKy,cV⟩ x=kb at cX;rw [hkb] at HNK HYK;clear hkb;clear hxx hx' hjL;go_upto_region 14 with fail
     have z0:=tc c0;have z1:=tc d2;have y0:=tc g0;have y1:=tc g1;have y2:=tc g2;have y3:=tc g3;have y4:=tc g4;have y5:=tc g5;have y6:=tc g6;have y7:=tc g7;clear c0 d0 d1 d2 d3 d4 g0 g1 g2 g3 g4 g5 g6 g7;refine ah.aj [] [(0,[]),(1,[]),(2,[]),(3,[]),(4,[]),(5,[]),(6,[]),(7,[])] [] [] (by kernel_rfl) (by kernel_rfl) (by simp) ?_;simp only [ah.pick,ah.aO,dL]
     repeat (refine ah.ak (fun K hK=>?_);go_simp;first|(refine hK _ ?_;clear hK K)|(apply Exists.intro;refine ⟨fun q=>?_,hK _ ?_⟩;(go_at_call 181;exact (cX _).out);clear hK K))
     refine ah.walk_nil ?_;intro w2 hb _;have HB2:=hid (HB.out.kept hb);clear hb;simp only [lC,drop_nil,Nat.zero_add,Nat.reduceAdd];clear z0 z1 y0 y1 y2 y3 y4 y5 y6 y7 HB cX;cases kb with
     |false=>
      have HNO:=hid (HNK.out rfl);clear HNK HYK;go_wp2_with fail
      go_ret
      exact ⟨⟨false,rfl,(fun h=>by cases h),fun h=>absurd h HNO.out⟩,HB2.out.below⟩
     |true=>
      have HJ2:=hid (HYK.out rfl);clear HNK HYK;go_wp2_with fail
      go_roundg (pn-(j+1))
      case measure=>omega
      case rel=>exact ⟨j+1,hlt,rfl,by go_num,HJ2,HB2⟩
   . have HZ:Hid (∀p,p∈L->jT ⟨cB,cY,cF,cN,cU,cL,cKy,cV⟩ p=true):=fun x hx=>by
      obtain ⟨i,hi⟩:=List.getElem?_of_mem hx;have:=(List.getElem?_eq_some_iff.1 hi).1;rw [HPN.out] at this;exact HJ.out i x (by omega) hi
     obtain rfl:j=pn:=(by omega);clear hlt;go_wp2_with fail
     go_meet
     exact ⟨HZ,HB⟩
 case rest=>
 clear HB0;obtain ⟨HZP,HB0⟩:=hcut;go_upto_block 6 with fail
 go_cut [] (fun wx=>Hid (∀m,m∈B->Jd ⟨cB,cY,cF,cN,cU,cL,cKy,cV⟩ lo hi top m)/\Hid (B3 W g (.cells #[cB,cY,cF,cN,cU,cL,cKy,cV] 23) (.cells #[.string lo,.string hi,.bool top] 152) (.cells #[lv,.slice kA kn kc,.slice pA pn pc,.slice bA bn bc,.slice qA qn qc] 43) wx))
 case first=>
  go_wp2_with fail
  go_loopg [10] bn (fun gk iv wx=>∃j:Nat,j<=bn/\gk=bn-j/\iv= .int .i64 (j:Int)/\Hid (∀(i:Nat) (y:Mg),i<j->B[i]? =some y->Jd ⟨cB,cY,cF,cN,cU,cL,cKy,cV⟩ lo hi top y)/\Hid (B3 W g (.cells #[cB,cY,cF,cN,cU,cL,cKy,cV] 23) (.cells #[.string lo,.string hi,.bool top] 152) (.cells #[lv,.slice kA kn kc,.slice pA pn pc,.slice bA bn bc,.slice qA qn qc] 43) wx))
  case atStart=>exact ⟨0,Nat.zero_le _,rfl,rfl,fun i x hi=>by omega,HB0⟩
  case round=>
   clear HB0;obtain ⟨j,hj,rfl,rfl,HJ,HB⟩:=hrel;obtain ⟨d0,d1,d2,d3,d4⟩:=aG HB.out.z;by_cases hlt:j<bn
   . have hjL:j<B.length:=by rw [HBN.out];exact hlt
     obtain ⟨x,hxx⟩:∃x,x=B[j]:=⟨_,rfl⟩
     have hx':=dB hjL;rw [<-hxx] at hx';obtain ⟨b,o,e,-,c0,c1,c2⟩:=RdK.msg (HBU.out.kept HB.out.below) hx';subst e;have HXX:=hid hx';have hsz:=HSB.out x (mem_of_getElem? hx');have hw3:IntKind.i64.wrap ((j:Int)+1)=((j+1:Nat):Int):=(by rw [wrap_i64];omega);clear hxx hx' hjL;go_upto_region 20 with fail
     have hba:Bw wr (wr.alloc (.cells #[.string x.1,.bool x.2.1,.string x.2.2] 91)):=bAx;have hnew:=heap_alloc_new wr (.cells #[.string x.1,.bool x.2.1,.string x.2.2] 91);have HB2:=hid (HB.out.kept hba);generalize wr.alloc (.cells #[.string x.1,.bool x.2.1,.string x.2.2] 91)=w3 at*;generalize wr.heap.size=u at*;have HU:=hid hnew;clear hba hnew HB d0 d1 d2 d3 d4 c0 c1 c2;obtain ⟨f0,f1,f2⟩:=bR HU.out;obtain ⟨e0,e1,e2⟩:=bR HB2.out.y;obtain ⟨g0,g1,g2,g3,g4,g5,g6,g7⟩:=aT HB2.out.x
     have HOK:Hid (jT ⟨cB,cY,cF,cN,cU,cL,cKy,cV⟩ x.1=true->inB lo hi top x.1=true->(x.2.2.size:Int)<=cV->¬(x.2.1=true/\x.2.2≠⟨#[]⟩)->∀(i:Nat) (y:Mg),i<j+1->B[i]? =some y->Jd ⟨cB,cY,cF,cN,cU,cL,cKy,cV⟩ lo hi top y):=fun h1 h2 h3 h4 i y hi hy=>by
      by_cases e:i=j
      . subst e
        rw [HXX.out] at hy;(cases hy);exact ⟨h1,h2,h3,h4⟩
      . exact HJ.out i y (by omega) hy
     have HNK:Hid (jT ⟨cB,cY,cF,cN,cU,cL,cKy,cV⟩ x.1=false->¬P):=fun e hp=>by
      have:=((HP.out hp).buf x (mem_of_getElem? HXX.out)).1;rw [e] at this;cases this
     have HNI:Hid (inB lo hi top x.1=false->¬P):=fun e hp=>by
      have:=((HP.out hp).buf x (mem_of_getElem? HXX.out)).2.1;rw [e] at this;cases this
     have HNV:Hid (¬(x.2.2.size:Int)<=cV->¬P):=fun e hp=>e ((HP.out hp).buf x (mem_of_getElem? HXX.out)).2.2.1;have HND:Hid (x.2.1=true/\x.2.2≠⟨#[]⟩->¬P):=fun e hp=>((HP.out hp).buf x (mem_of_getElem? HXX.out)).2.2.2 e;have cX:=fun w=>cK x.1 w;have cY':=fun w=>cI x.1 w hsz;generalize hkb:jT ⟨cB,cY,cF,cN,cU,cL,cKy,cV⟩ x.1=kb at cX HOK HNK;generalize hib:inB lo hi top x.1=ib at cY' HOK HNI;obtain ⟨xk,xd,xv⟩:=x;simp only at*;clear hsz hkb hib HXX HJ;go_upto_region 20 with fail
     cases kb with
     |false=>
      have HNO:=hid (HNK.out rfl);clear HNK HNI HNV HND HOK;go_wp2_with (first|(go_at_call 181;refine (cX _).out.mono ?_;rintro e w3 ⟨rfl,hb⟩;replace HU:=hid (aC HU.out hb);replace HB2:=hid (HB2.out.kept hb);clear hb f0 f1 f2 e0 e1 e2 g0 g1 g2 g3 g4 g5 g6 g7;obtain ⟨f0,f1,f2⟩:=bR HU.out;obtain ⟨e0,e1,e2⟩:=bR HB2.out.y;obtain ⟨g0,g1,g2,g3,g4,g5,g6,g7⟩:=aT HB2.out.x)|(go_at_call 182;refine (cY' _).out.mono ?_;rintro e w3 ⟨rfl,hb⟩;replace HU:=hid (aC HU.out hb);replace HB2:=hid (HB2.out.kept hb);clear hb f0 f1 f2 e0 e1 e2 g0 g1 g2 g3 g4 g5 g6 g7;obtain ⟨f0,f1,f2⟩:=bR HU.out;obtain ⟨e0,e1,e2⟩:=bR HB2.out.y;obtain ⟨g0,g1,g2,g3,g4,g5,g6,g7⟩:=aT HB2.out.x))
      go_ret
      exact ⟨⟨false,rfl,(fun h=>by cases h),fun h=>absurd h HNO.out⟩,HB2.out.below⟩
     |true=>
      cases ib with
      |false=>
       have HNO:=hid (HNI.out rfl);clear HNK HNI HNV HND HOK;go_wp2_with (first|(go_at_call 181;refine (cX _).out.mono ?_;rintro e w3 ⟨rfl,hb⟩;replace HU:=hid (aC HU.out hb);replace HB2:=hid (HB2.out.kept hb);clear hb f0 f1 f2 e0 e1 e2 g0 g1 g2 g3 g4 g5 g6 g7;obtain ⟨f0,f1,f2⟩:=bR HU.out;obtain ⟨e0,e1,e2⟩:=bR HB2.out.y;obtain ⟨g0,g1,g2,g3,g4,g5,g6,g7⟩:=aT HB2.out.x)|(go_at_call 182;refine (cY' _).out.mono ?_;rintro e w3 ⟨rfl,hb⟩;replace HU:=hid (aC HU.out hb);replace HB2:=hid (HB2.out.kept hb);clear hb f0 f1 f2 e0 e1 e2 g0 g1 g2 g3 g4 g5 g6 g7;obtain ⟨f0,f1,f2⟩:=bR HU.out;obtain ⟨e0,e1,e2⟩:=bR HB2.out.y;obtain ⟨g0,g1,g2,g3,g4,g5,g6,g7⟩:=aT HB2.out.x))
       go_ret
       exact ⟨⟨false,rfl,(fun h=>by cases h),fun h=>absurd h HNO.out⟩,HB2.out.below⟩
      |true=>
       by_cases hv:(xv.size:Int)<=cV
       case neg=>
        have hd:cV<(xv.size:Int):=(by omega);have HNO:=hid (HNV.out hv);clear HNK HNI HNV HND HOK;go_wp2_with (first|(go_at_call 181;refine (cX _).out.mono ?_;rintro e w3 ⟨rfl,hb⟩;replace HU:=hid (aC HU.out hb);replace HB2:=hid (HB2.out.kept hb);clear hb f0 f1 f2 e0 e1 e2 g0 g1 g2 g3 g4 g5 g6 g7;obtain ⟨f0,f1,f2⟩:=bR HU.out;obtain ⟨e0,e1,e2⟩:=bR HB2.out.y;obtain ⟨g0,g1,g2,g3,g4,g5,g6,g7⟩:=aT HB2.out.x)|(go_at_call 182;refine (cY' _).out.mono ?_;rintro e w3 ⟨rfl,hb⟩;replace HU:=hid (aC HU.out hb);replace HB2:=hid (HB2.out.kept hb);clear hb f0 f1 f2 e0 e1 e2 g0 g1 g2 g3 g4 g5 g6 g7;obtain ⟨f0,f1,f2⟩:=bR HU.out;obtain ⟨e0,e1,e2⟩:=bR HB2.out.y;obtain ⟨g0,g1,g2,g3,g4,g5,g6,g7⟩:=aT HB2.out.x))
        go_ret
        exact ⟨⟨false,rfl,(fun h=>by cases h),fun h=>absurd h HNO.out⟩,HB2.out.below⟩
       have hd:decide (cV<(xv.size:Int))=false:=(by simp;omega);cases xd with
       |false=>
        have HJ2:=hid (HOK.out rfl rfl hv (fun h=>by simp at h));clear hv HNK HNI HNV HND HOK;go_wp2_with (first|(go_at_call 181;refine (cX _).out.mono ?_;rintro e w3 ⟨rfl,hb⟩;replace HU:=hid (aC HU.out hb);replace HB2:=hid (HB2.out.kept hb);clear hb f0 f1 f2 e0 e1 e2 g0 g1 g2 g3 g4 g5 g6 g7;obtain ⟨f0,f1,f2⟩:=bR HU.out;obtain ⟨e0,e1,e2⟩:=bR HB2.out.y;obtain ⟨g0,g1,g2,g3,g4,g5,g6,g7⟩:=aT HB2.out.x)|(go_at_call 182;refine (cY' _).out.mono ?_;rintro e w3 ⟨rfl,hb⟩;replace HU:=hid (aC HU.out hb);replace HB2:=hid (HB2.out.kept hb);clear hb f0 f1 f2 e0 e1 e2 g0 g1 g2 g3 g4 g5 g6 g7;obtain ⟨f0,f1,f2⟩:=bR HU.out;obtain ⟨e0,e1,e2⟩:=bR HB2.out.y;obtain ⟨g0,g1,g2,g3,g4,g5,g6,g7⟩:=aT HB2.out.x))
        go_roundg (bn-(j+1))
        case measure=>omega
        case rel=>exact ⟨j+1,hlt,rfl,by go_num,HJ2,HB2⟩
       |true=>
        by_cases hem:xv=⟨#[]⟩
        . have HJ2:=hid (HOK.out rfl rfl hv (fun h=>h.2 hem))
          have hne:xv.toList.isEmpty=true:=(by rw [isEmpty_eq];simpa using hem);clear hem hv HNK HNI HNV HND HOK;go_wp2_with (first|(go_at_call 181;refine (cX _).out.mono ?_;rintro e w3 ⟨rfl,hb⟩;replace HU:=hid (aC HU.out hb);replace HB2:=hid (HB2.out.kept hb);clear hb f0 f1 f2 e0 e1 e2 g0 g1 g2 g3 g4 g5 g6 g7;obtain ⟨f0,f1,f2⟩:=bR HU.out;obtain ⟨e0,e1,e2⟩:=bR HB2.out.y;obtain ⟨g0,g1,g2,g3,g4,g5,g6,g7⟩:=aT HB2.out.x)|(go_at_call 182;refine (cY' _).out.mono ?_;rintro e w3 ⟨rfl,hb⟩;replace HU:=hid (aC HU.out hb);replace HB2:=hid (HB2.out.kept hb);clear hb f0 f1 f2 e0 e1 e2 g0 g1 g2 g3 g4 g5 g6 g7;obtain ⟨f0,f1,f2⟩:=bR HU.out;obtain ⟨e0,e1,e2⟩:=bR HB2.out.y;obtain ⟨g0,g1,g2,g3,g4,g5,g6,g7⟩:=aT HB2.out.x))
          go_roundg (bn-(j+1))
          case measure=>omega
          case rel=>exact ⟨j+1,hlt,rfl,by go_num,HJ2,HB2⟩
        . have HNO:=hid (HND.out ⟨rfl,hem⟩)
          have hne:xv.toList.isEmpty=false:=(by rw [isEmpty_eq];simpa using hem);clear hv hem HNK HNI HNV HND HOK;go_wp2_with (first|(go_at_call 181;refine (cX _).out.mono ?_;rintro e w3 ⟨rfl,hb⟩;replace HU:=hid (aC HU.out hb);replace HB2:=hid (HB2.out.kept hb);clear hb f0 f1 f2 e0 e1 e2 g0 g1 g2 g3 g4 g5 g6 g7;obtain ⟨f0,f1,f2⟩:=bR HU.out;obtain ⟨e0,e1,e2⟩:=bR HB2.out.y;obtain ⟨g0,g1,g2,g3,g4,g5,g6,g7⟩:=aT HB2.out.x)|(go_at_call 182;refine (cY' _).out.mono ?_;rintro e w3 ⟨rfl,hb⟩;replace HU:=hid (aC HU.out hb);replace HB2:=hid (HB2.out.kept hb);clear hb f0 f1 f2 e0 e1 e2 g0 g1 g2 g3 g4 g5 g6 g7;obtain ⟨f0,f1,f2⟩:=bR HU.out;obtain ⟨e0,e1,e2⟩:=bR HB2.out.y;obtain ⟨g0,g1,g2,g3,g4,g5,g6,g7⟩:=aT HB2.out.x))
          go_ret
          exact ⟨⟨false,rfl,(fun h=>by cases h),fun h=>absurd h HNO.out⟩,HB2.out.below⟩
   . have HZ:Hid (∀m,m∈B->Jd ⟨cB,cY,cF,cN,cU,cL,cKy,cV⟩ lo hi top m):=fun x hx=>by
      obtain ⟨i,hi⟩:=List.getElem?_of_mem hx;have:=(List.getElem?_eq_some_iff.1 hi).1;rw [HBN.out] at this;exact HJ.out i x (by omega) hi
     obtain rfl:j=bn:=(by omega);clear hlt;go_wp2_with fail
     go_meet
     exact ⟨HZ,HB⟩
 case rest=>
 clear HB0;obtain ⟨HZB,HB⟩:=hcut;obtain ⟨d0,d1,d2,d3,d4⟩:=aG HB.out.z;obtain ⟨g0,g1,g2,g3,g4,g5,g6,g7⟩:=aT HB.out.x;by_cases t1:lv<=40
 case neg=>
  have HNO:Hid (¬P):=fun h=>t1 ((HP.out h).lv);have hd:(40:Int)<lv:=by omega
  clear t1;go_wp2_with fail
  go_ret
  exact ⟨⟨false,rfl,(fun h=>by cases h),fun h=>absurd h HNO.out⟩,HB.out.below⟩
 have h1:decide ((40:Int)<lv)=false:=by simp;omega
 by_cases t2:qn=0
 case neg=>
  have HNO:Hid (¬P):=fun h=>t2 (by rw [<-HQN.out];exact (HP.out h).prs);have hd:(0:Int)<(qn:Int):=by omega
  clear t2;go_wp2_with fail
  go_ret
  exact ⟨⟨false,rfl,(fun h=>by cases h),fun h=>absurd h HNO.out⟩,HB.out.below⟩
 subst t2;by_cases t3:1<=kn
 case neg=>
  have HNO:Hid (¬P):=fun h=>t3 (by rw [<-HKN.out];exact (HP.out h).one);have hd:(kn:Int)<1:=by omega
  clear t3;go_wp2_with fail
  go_ret
  exact ⟨⟨false,rfl,(fun h=>by cases h),fun h=>absurd h HNO.out⟩,HB.out.below⟩
 have h3:decide ((kn:Int)<1)=false:=by simp;omega
 by_cases t4:(kn:Int)<=cN
 case neg=>
  have HNO:Hid (¬P):=fun h=>t4 (by rw [<-HKN.out];exact (HP.out h).fan);have hd:cN<(kn:Int):=by omega
  clear t4;go_wp2_with fail
  go_ret
  exact ⟨⟨false,rfl,(fun h=>by cases h),fun h=>absurd h HNO.out⟩,HB.out.below⟩
 have h4:decide (cN<(kn:Int))=false:=by simp;omega
 have hwp:IntKind.i64.wrap ((pn:Int)+1)=((pn+1:Nat):Int):=by rw [wrap_i64];omega
 by_cases t5:pn+1=kn
 case neg=>
  have HNO:Hid (¬P):=fun h=>t5 (by rw [<-HKN.out,<-HPN.out];exact (HP.out h).fewer);have hd:(((pn+1:Nat):Int)==(kn:Int))=false:=by simp;omega
  clear t5;go_wp2_with fail
  go_ret
  exact ⟨⟨false,rfl,(fun h=>by cases h),fun h=>absurd h HNO.out⟩,HB.out.below⟩
 have HC:Hid (lv<=40/\1<=kn/\(kn:Int)<=cN/\pn+1=kn):=⟨t1,t3,t4,t5⟩;have h5:(((pn+1:Nat):Int)==(kn:Int))=true:=by simp [t5]
 clear t1 t3 t4 t5;go_upto_region 24 with fail
 clear h1 h3 h4 h5 hwp;obtain ⟨r,hr⟩:=bU (iI L lo hi top);have HRR:=hid hr;clear hr;have cR2:Hid (CB 184 #[.slice pA pn pc,fu lo hi top] wc (.bool r)):=(cR _ HB.out.below).out.mono fun e w' ⟨⟨v,he,hv⟩,hb⟩=>⟨by rw [he,dA hv HRR.out],hb⟩;obtain ⟨s,hs⟩:=bU (Bu.AO B);have HSS:=hid hs;clear hs;have cM2:∀w,Bw W w->Hid (CB 185 #[.slice bA bn bc] w (.bool s)):=fun w hb=>(cM _ hb).out.mono fun e w' ⟨⟨v,he,hv⟩,hb⟩=>⟨by rw [he,dA hv HSS.out],hb⟩
 clear cR cM;have HF:Hid (r=true->(bn:Int)<=cU->(s=true↔P)):=fun h1 h2=>⟨fun h=>HQ.out ⟨HZK.out,HZP.out,HZB.out,HC.out.1,HQN.out,by rw [HKN.out];exact HC.out.2.1,by rw [HKN.out];exact HC.out.2.2.1,by rw [HKN.out,HPN.out];exact HC.out.2.2.2,HRR.out.1 h1,by rw [HBN.out];exact h2,HSS.out.1 h⟩,fun h=>HSS.out.2 (HP.out h).rise⟩;obtain ⟨e0,e1,e2⟩:=bR HB.out.y;cases r with
 |false=>
  have HNO:Hid (¬P):=fun h=>by
   have:=HRR.out.2 (HP.out h).right;cases this
  clear HF cM2;go_wp2_with (go_at_call 184;refine cR2.out.mono ?_;rintro e w3 ⟨rfl,hb⟩;replace HB:=hid (HB.out.kept hb);clear hb d0 d1 d2 d3 d4 g0 g1 g2 g3 g4 g5 g6 g7)
  go_ret
  exact ⟨⟨false,rfl,(fun h=>by cases h),fun h=>absurd h HNO.out⟩,HB.out.below⟩
 |true=>
  by_cases t6:(bn:Int)<=cU
  case neg=>
   have HNO:Hid (¬P):=fun h=>t6 (by rw [<-HBN.out];exact (HP.out h).few);have hd:decide ((bn:Int)<=cU)=false:=(by simpa using t6);clear HF cM2 t6;go_wp2_with (go_at_call 184;refine cR2.out.mono ?_;rintro e w3 ⟨rfl,hb⟩;replace HB:=hid (HB.out.kept hb);clear hb d0 d1 d2 d3 d4 g0 g1 g2 g3 g4 g5 g6 g7;obtain ⟨d0,d1,d2,d3,d4⟩:=aG HB.out.z;obtain ⟨g0,g1,g2,g3,g4,g5,g6,g7⟩:=aT HB.out.x)
   go_ret
   exact ⟨⟨false,rfl,(fun h=>by cases h),fun h=>absurd h HNO.out⟩,HB.out.below⟩
  have hd:decide ((bn:Int)<=cU)=true:=by simpa using t6
  have HF2:=hid (HF.out rfl t6);clear HF t6;go_wp2_with (first|(go_at_call 184;refine cR2.out.mono ?_;rintro e w3 ⟨rfl,hb⟩;clear cR2;replace HB:=hid (HB.out.kept hb);clear hb d0 d1 d2 d3 d4 g0 g1 g2 g3 g4 g5 g6 g7;obtain ⟨d0,d1,d2,d3,d4⟩:=aG HB.out.z;obtain ⟨g0,g1,g2,g3,g4,g5,g6,g7⟩:=aT HB.out.x)|(go_at_call 185;refine (cM2 _ HB.out.below).out.mono ?_;rintro e w3 ⟨rfl,hb⟩;replace HB:=hid (HB.out.kept hb);clear hb d0 d1 d2 d3 d4 g0 g1 g2 g3 g4 g5 g6 g7))
  go_ret
  exact ⟨⟨s,rfl,HF2.out⟩,HB.out.below⟩
end No
end Go.Proofs.YtjpjjnalpdpljaaGreatDoor
