import Derived.Test.YtmcbidhpkpmalaaGreatDoorPqNodeRr
import Derived.Test.YtmcbidhpkpmalaaGreatDoorPkAU
import Derived.RangeFuncBox
import Derived.OwnWalkIn
import Derived.TacticsInMore
import Derived.LoopNIn
import Derived.LoopIn
import Derived.Shelf.Abstract
import Derived.Sort.EveryDepth
set_option maxHeartbeats 4000000
set_option maxRecDepth 100000
namespace Go.Proofs.YtmcbidhpkpmalaaGreatDoor
open Go.RowKit
open Go.Lib (hid)
namespace No
open Mem Lx Bu Lf Fa Hp Pq
def IU(L:List Nat)(i:Nat):Nat:=if i=0 then 0 else gt L (i-1)
def PN(c:Cfg)(L:List Nat)(i:Nat):Prop:=IU L i<gt L i/\((gt L i:Nat):Int)<c.blocks
theorem Bv{c:Cfg}{K:List Nat}:zx c K↔K.Nodup/\∀k,k∈K->k≠0/\(k:Int)<c.blocks:=by constructor;(. intro h;refine⟨?_,fun k hk=>?_⟩;(. rw[List.nodup_iff_pairwise_ne,List.pairwise_iff_getElem];intro i j hi hj hij;exact(h j K[j] (List.getElem?_eq_getElem hj)).2 i K[i] hij (List.getElem?_eq_getElem hi));. obtain⟨i,hi⟩:=List.mem_iff_getElem?.1 hk;exact(h i k hi).1);. rintro⟨h1,h2⟩ i k hk;refine⟨h2 k (List.mem_of_getElem? hk),fun j m hj hm e=>?_⟩;rw[List.nodup_iff_pairwise_ne,List.pairwise_iff_getElem]at h1;obtain⟨hi,ei⟩:=List.getElem?_eq_some_iff.1 hk;obtain⟨hj2,ej⟩:=List.getElem?_eq_some_iff.1 hm;exact h1 j i hj2 hi hj (by rw[ei,ej,e])
theorem yG{c:Cfg}{K L:List Nat}{n:Nat}(hp:L.Perm K)(hn:L.length=n)(ho:y9 L 0 n):zx c K↔∀i,i<n->PN c L i:=by (have hg:∀i,i<n->gt L i∈L:=fun i hi=>by rw[jG (by omega)];exact List.getElem_mem _);rw[Bv];constructor;(. rintro⟨h1,h2⟩ i hi;have hl:=hp.nodup_iff.2 h1;have hm:=h2 _ (hp.mem_iff.1 (hg i hi));refine⟨?_,hm.2⟩;unfold IU;by_cases e:i=0;(. rw[if_pos e];omega);. rw[if_neg e];have h3:=ho (i-1) i (Nat.zero_le _) (by omega) hi;rw[List.nodup_iff_pairwise_ne,List.pairwise_iff_getElem]at hl;have h4:=hl (i-1) i (by omega) (by omega) (by omega);rw[jG (show i-1<L.length by omega),jG (show i<L.length by omega)]at h3 ⊢;omega);. intro h;(have hs:∀j,j<n->∀i,i<j->gt L i<gt L j:=fun j=>by induction j with|zero=>intro _ i hi;omega|succ j ih=>intro hj i hi;have h1:=(h (j+1) hj).1;unfold IU at h1;rw[if_neg (by omega),Nat.add_sub_cancel]at h1;by_cases e:i=j;(. rw[e];exact h1);. exact Nat.lt_trans (ih (by omega) i (by omega)) h1);refine⟨hp.nodup_iff.1 ?_,fun k hk=>?_⟩;(. rw[List.nodup_iff_pairwise_ne,List.pairwise_iff_getElem];intro i j hi hj hij;have:=hs j (by omega) i hij;rw[jG hi,jG hj]at this;omega);. obtain⟨i,hi,rfl⟩:=List.mem_iff_getElem.1 (hp.mem_iff.2 hk);have h1:=h i (by omega);rw[<-jG hi];exact⟨by have:=h1.1;omega,h1.2⟩
structure PO(w:World)(A:Option Addr)(K L:List Nat)(n:Nat):Prop where
 rd:KL w A L
 perm:L.Perm K
 len:L.length=n
 ord:y9 L 0 n
theorem wK{W:World}(c:Cfg){A:Option Addr}{cc:Nat}{K:List Nat}(hl:K.length<=80)(oo:∀k,k∈K->k<4294967296)
 (QD:1<=K.length->∀W1,Bw W W1->Calls Tryz.prog 178 #[.slice A K.length cc] W1 fun e w1=>∃sv,e=.returned sv/\Bw W1 w1/\Calls Tryz.prog 177 #[sv] w1 fun e w2=>∃A2 c2 L,e=.returned (.slice A2 K.length c2)/\PO w2 A2 K L K.length/\Bw w1 w2):
 Calls Tryz.prog 155 #[.agg (bC c),.slice A K.length cc] W fun e w'=>(∃v:Bool,e=.returned (.bool v)/\(v=true↔Fe c K))/\Bw W w':=by
 obtain⟨P,hP⟩:=eX (Fe c K:Prop);rw[<-hP];obtain⟨n,hn⟩:=eX K.length
 have HN1:Hid (¬(1<=n/\(n:Int)<=c.fan)->¬P):=fun h hp=>by
  rw[hP]at hp;exact h ⟨by rw[hn];exact hp.1,by rw[hn];exact hp.2.1⟩
 have HSR:Hid (1<=n->(n:Int)<=c.fan->∀(w:World) (A2:Option Addr) (L:List Nat),PO w A2 K L n->(P↔∀i,i<n->PN c L i)/\∀i,i<n->gt L i<4294967296):=fun h1 h2 w A2 L hs=>by
  refine⟨?_,fun i hi=>?_⟩
  . rw[hP,<-yG hs.perm hs.len hs.ord]
    exact⟨fun h=>h.2.2,fun h=>⟨by rw[<-hn];exact h1,by rw[<-hn];exact h2,h⟩⟩
  . rw[jG (by rw[hs.len];exact hi)]
    exact oo _ (hs.perm.mem_iff.1 (List.getElem_mem _))
 rw[<-hn]at QD hl ⊢;have CS:=hid QD;have HKA:Hid (∀L i,PN c L i↔IU L i<gt L i/\((gt L i:Nat):Int)<c.blocks):=fun L i=>Iff.rfl;generalize hKd:PN c=Kd at*;clear hP hn oo QD hKd;unfold bC;obtain⟨cB,cY,cF,cN,cU,cL,cKy,cV⟩:=c;simp only at*;go_enter Tryz.func155,Tryz.ntmps155
 go_upto_region 1 with fail
 have hx:=heap_alloc_new W (.cells #[cB,cY,cF,cN,cU,cL,cKy,cV] 23);have hb0:Bw W (W.alloc (.cells #[cB,cY,cF,cN,cU,cL,cKy,cV] 23)):=bAx;generalize W.alloc (.cells #[cB,cY,cF,cN,cU,cL,cKy,cV] 23)=w1 at*;obtain⟨g,hg⟩:=eX W.heap.size;rw[<-hg]at hx;simp only[<-hg];have HX:=hid hx;have HB:=hid hb0;obtain⟨d0,d1,d2,d3,d4,d5,d6,d7⟩:=aU hx;clear hx hb0 hg;by_cases h1:1<=n
 case neg=>
  have HNP:=hid (HN1.out (fun h=>h1 h.1));have h1':n<1:=by omega
  have HF:Hid (false=true↔P):=⟨(fun h=>by cases h),fun h=>absurd h HNP.out⟩;obtain rfl:n=0:=by omega
  clear h1';go_wp2_with fail
  go_ret
  first
   |exact⟨⟨false,rfl,HF.out⟩,HB.out⟩
   |exact⟨.inl ⟨rfl,HNP.out⟩,HB.out⟩
 by_cases h2:(n:Int)<=cN
 case neg=>
  have HNP:=hid (HN1.out (fun h=>h2 h.2));have HF:Hid (false=true↔P):=⟨(fun h=>by cases h),fun h=>absurd h HNP.out⟩;have h2':cN<(n:Int):=by omega
  have h1':¬(n<1):=by omega
  go_wp2_with fail
  go_ret
  first
   |exact⟨⟨false,rfl,HF.out⟩,HB.out⟩
   |exact⟨.inl ⟨rfl,HNP.out⟩,HB.out⟩
 have h2':¬(cN<(n:Int)):=by omega
 have h1':¬(n<1):=by omega
 have cV':=hid (CS.out h1 w1 HB.out);have RL:=hid (HSR.out h1 h2);go_upto_region 4 with fail
 clear h2' h1' HN1 HSR CS d0 d1 d2 d3 d4 d5 d6 d7
 go_wp2_with (first
  |(go_at_call 178;refine cV'.mono ?_;rintro e w2 ⟨sv,rfl,hb2,hs⟩
    have HB2:=hid (Cb HB.out hb2);have HX2:=hid (bT HX.out hb2);have cS:=hid hs
    clear hb2 hs)
  |(go_at_call 177;refine cS.mono ?_;rintro e w3 ⟨A2,c2,L,rfl,hsk,hb3⟩))
 have HB3:=hid (Cb HB2.out hb3);have HX3:=hid (bT HX2.out hb3);have HSP:=hid (RL.out w3 A2 L hsk);have HSK:=hid hsk;obtain⟨d0,d1,d2,d3,d4,d5,d6,d7⟩:=aU HX3.out;clear hsk hb3 HX HB HX2 HB2 cV' cS RL
 go_loopg[5,22] n (fun gk av iv wr=>∃k:Nat,k<=n/\gk=n-k/\av= .int .u32 ((IU L k:Nat):Int)/\iv= .int .i64 (k:Int)/\Hid (∀i,i<k->Kd L i)/\w3=wr)
 case atStart=>exact⟨0,Nat.zero_le _,rfl,rfl,rfl,hid (fun i hi=>absurd hi (Nat.not_lt_zero _)),rfl⟩
 case round=>
  obtain⟨k,hk,rfl,rfl,rfl,HL,rfl⟩:=hrel;by_cases hlt:k<n
  . have hkL:k<L.length:=by rw[HSK.len];exact hlt
    have hx':=tY hkL;rw[<-jG hkL]at hx';obtain⟨b,o,e,-,c0⟩:=RdK.kid HSK.rd hx';subst e;have hK:=hid (HKA.out L k);have hA2:IU L (k+1)=gt L k:=(by simp[IU]);have hxb:=HSP.2 k hlt;have hNo:Hid (¬Kd L k->¬P):=fun h hp=>h (HSP.1.1 hp k hlt)
    have hGo:Hid (Kd L k->∀i,i<k+1->Kd L i):=fun h i hi=>by
     by_cases e:i=k
     . rw[e];exact h
     . exact HL.out i (by omega)
    have hw3:IntKind.i64.wrap ((k:Int)+1)=((k+1:Nat):Int):=(by rw[IntKind.wrap_i64];omega);have HA3:∀m:Nat,m=gt L k->((IU L (k+1):Nat):Int)=(m:Int):=fun m e=>by rw[hA2,e]
    obtain⟨a2,ha2⟩:=eX (gt L k);have HA4:=hid (HA3 a2 ha2);rw[<-ha2]at c0 hK hxb;generalize IU L k=a at*;clear HA3 hA2;have hw4:IntKind.i64.wrap (a2:Int)=(a2:Int):=(by rw[IntKind.wrap_i64];omega);clear hx' hkL HSP HL HSK HX3 ha2;by_cases t1:(a2:Int)<=(a:Int)
    . have HF:Hid (false=true↔P):=⟨(fun h=>by cases h),fun h=>absurd h (hNo.out (fun hk=>by have:=(hK.1 hk).1;omega))⟩
      clear hK hNo hGo hxb hk;go_wp2_with fail
      go_ret
      exact⟨⟨false,rfl,HF.out⟩,HB3.out⟩
    . by_cases t2:cB<=(a2:Int)
      . have HF:Hid (false=true↔P):=⟨(fun h=>by cases h),fun h=>absurd h (hNo.out (fun hk=>by have:=(hK.1 hk).2;omega))⟩
        clear hK hNo hGo hxb hk;go_wp2_with fail
        go_ret
        exact⟨.inl ⟨rfl,fun hp=>by cases HF.2 hp⟩,HB3.out⟩
      . have HL2:=hid (hGo.out (hK.2 ⟨by omega,by omega⟩))
        clear hK hNo hGo hxb;go_wp2_with fail
        go_roundg (n-(k+1))
        case measure=>omega
        case rel=>exact⟨k+1,hlt,rfl,by rw[HA4.out],by go_num,HL2,rfl⟩
  . obtain rfl:k=n:=by omega
    have HT:Hid P:=hid (HSP.1.2 HL.out);clear HL HSP HSK HKA HX3 hlt hk;go_wp2_with fail
    go_ret
    exact⟨⟨true,rfl,fun _=>HT.out,fun _=>rfl⟩,HB3.out⟩
end No
namespace No
open Mem Lx Bu Lf Fa Hp Pq
theorem US.Tz{w wr:World}{g c n:Nat}{K L:List Nat}(h:US w wr g c n K L 0 n)(ho:y9 L 0 n):PO wr (some ⟨g,0,none⟩) K L n:=by refine⟨fun _=>⟨g,0,rfl,h.ow.lt,fun i x hx j u hu=>?_⟩,h.mv.perm,h.len,ho⟩;obtain⟨hi,ei⟩:=List.getElem?_eq_some_iff.1 hx;have hc:=h.cell (i:=i) (by rw[<-h.len];exact hi);rw[jG hi,ei]at hc;match j,hu with|0,hu=>(obtain rfl:Value.int .u32 (x:Int)=u:=by simpa[KdK]using hu);simpa[KdK]using hc
theorem Bz{W:World}{sv:Value}{K:List Nat}{n:Nat}(hn:K.length=n)(h1:1<=n)(h80:n<=80)
 (cC:∀W1,Bw W W1->Calls Tryz.prog 188 #[sv] W1 fun e w2=>∃g c,e=.returned (.slice (some (g:Nat)) n c)/\W1.heap.size<=g/\Ow 30 w2 g c (K.map nV)/\Bw W1 w2):
 Calls Tryz.prog 177 #[sv] W fun e w2=>∃A2 c2 L,e=.returned (.slice A2 n c2)/\PO w2 A2 K L n/\Bw W w2:=by
 have cC':=hid (cC W (Below.refl _ _));have cS:=hid (fun(w:World) (g c:Nat) (h:Ow 30 w g c (K.map nV))=>Iy h hn h1 h80);clear cC hn h1 h80;go_enter Tryz.func177,Tryz.ntmps177
 go_wp2_with (first
  |(go_at_call 188;refine cC'.mono ?_;rintro e w2 ⟨g,c,rfl,hg,ho,hb2⟩
    have HB2:=hid hb2;have HG:=hid hg;have cS':=hid (cS.out w2 g c ho)
    clear hb2 hg ho)
  |(go_at_call 189;refine cS'.mono ?_;rintro e w3 ⟨rfl,L,hus,ho⟩))
 go_ret
 have hi:=hus.hi;have hs:=HB2.size;have hg:=HG.out;exact⟨_,_,L,rfl,US.Tz hus ho,HB2.trans ⟨hi.os,hi.tape,hi.output,hi.size,fun k hk=>hi.block k (by omega) (by simp;omega)⟩⟩
end No
end Go.Proofs.YtmcbidhpkpmalaaGreatDoor
namespace Go.Proofs.YtmcbidhpkpmalaaGreatDoor
open Go.RowKit
namespace No
open Mem Lx Bu Lf Fa Hp Pq
attribute [local go_sem] Oper.semAt_some
theorem BA(F:Fence)(n:Nat)(hf:F.fn 190)(hro:F.round=none)(hn:1<=n)(l Bs n₀ b off len cap:Nat)(zs:List Nat)(hlen:zs.length=len)(RN:len<=80)(hb:b<n₀)(J Jx:List Nat->World->Prop)
 (hY:∀pre x W,J pre W->pre.length<len->YieldAt F (n-1) Tryz.prog l #[nV x] W fun e W'=>(e=.returned (.bool true)/\J (pre++[x]) W'/\Below n₀ W W')\/(e=.returned (.bool false)/\Jx (pre++[x]) W'))
 (W:World) (hBs:W.cell? ⟨Bs,0,none⟩=some (.slice (some ⟨b,off,none⟩) len cap)) (hc:∀j,j<len->W.cell? ⟨b,off+j,none⟩=some (nV (gt zs j))) (h0:J [] W):
 CallsIn F n Tryz.prog 190 #[.func (.yield l) #[] #[],Bs] W fun e W'=>(∃v,e=.returned v)/\(J zs W'\/∃pre,Jx pre W'):=by
 have HT:Hid (∀k,k<len->zs.take (k+1)=zs.take k++[gt zs k]):=fun k hk=>by
  rw[jG (by omega),List.take_append_getElem (by omega)]
 have HA:Hid (zs.take len=zs):=by rw[<-hlen];exact Lib.hid (List.take_length)
 have HL:Hid (∀k,k<len->(zs.take k).length<len):=fun k hk=>by rw[List.length_take];omega
 generalize hG:gt zs=z at*;refine callsIn_of_wp Tryz.func190 rfl hf ?_ hro;simp only[Tryz.ntmps190,List.size_toArray,List.length_cons,List.length_nil,Nat.reduceAdd,Nat.reduceSub,Array.replicate_succ,Array.replicate_zero,List.push_toArray,List.append_toArray,List.nil_append,List.cons_append]
 gi_wp2
 gi_loopw [7] (fun i wr=>∃k:Nat,k<=len/\i= .int .i64 k/\Hid (J (zs.take k) wr)/\Hid (Below n₀ W wr))
  (fun i _=>len-(intOf i).toNat)
 case atStart=>exact⟨0,Nat.zero_le _,rfl,h0,Below.refl _ _⟩
 case round=>
  obtain⟨k,hk,rfl,hJs,hnx⟩:=hrel;by_cases hlt:k<len
  . obtain⟨fn,tmps,assign,body,hy,hR⟩:=hY _ (z k) wr hJs.out (HL.out k hlt)
    have hcx:wr.cell? ⟨b,off+k,none⟩=some (nV (z k)):=(hnx.cell (p:=⟨b,off+k,none⟩) hb).trans (hc k hlt);unfold nV at hcx hy
    gi_wp2
    refine hR.mono ?_;rintro e W3 (⟨rfl,hJ3,hk3⟩|⟨rfl,hJx3⟩)
    . gi_wp2
      go_roundw
      case rel=>exact⟨k+1,by omega,by simp,by rw[HT.out k hlt];exact hJ3,hnx.trans hk3⟩
      case measure=>simp[intOf];omega
    . gi_wp2
      refine bodyPost_ret (results_none rfl _ _ _) rfl ?_;exact⟨⟨_,rfl⟩,.inr ⟨_,hJx3⟩⟩
  . obtain rfl:k=len:=by omega
    gi_wp2
    go_end0
    exact⟨⟨_,rfl⟩,.inl (by rw[<-HA.out];exact hJs.out)⟩
theorem BD(a:Option Addr)(len cap:Nat)(w:World):
 Calls Tryz.prog 178 #[.slice a len cap] w fun e w'=>e=.returned (.func (.func 190) #[] #[w.heap.size])/\w'=w.alloc (.cells #[.slice a len cap] 36):=by
 go_enter Tryz.func178,Tryz.ntmps178
 go_wp2
 go_ret
 exact⟨rfl,rfl⟩
theorem wL(F:Fence)(n:Nat)(hf:F.fn 190)(hro:F.round=none)(hn:1<=n)(Bs n₀ b off cap:Nat)(zs:List Nat)(hl:zs.length<=80)(w:World)(hBs:Bs<w.heap.size)(hn₀:n₀<=w.heap.size)(hb:b<n₀)
 (hbx:w.cell? ⟨Bs,0,none⟩=some (.slice (some ⟨b,off,none⟩) zs.length cap)) (hc:∀j,j<zs.length->w.cell? ⟨b,off+j,none⟩=some (nV (gt zs j))):
 SeqStopsK F n Tryz.prog 190 #[Bs] (fun x:Nat=> #[nV x]) (Below n₀) (fun ys=>ys=zs) (fun _=>True) zs.length w:=fun l J Jx W hW _ _ hY h0=>
 (BA F n hf hro hn l Bs n₀ b off zs.length cap zs rfl hl hb J Jx hY W ((hW.cell (p:=⟨Bs,0,none⟩) hBs).trans hbx) (fun j hj=>((hW.cell (p:=⟨b,off+j,none⟩) (Nat.lt_of_lt_of_le hb hn₀))).trans (hc j hj)) h0).mono fun _ _ ⟨h1,h2⟩=>⟨h1,h2.elim (fun h=> .inl ⟨zs,rfl,h⟩) (fun⟨pre,h⟩=> .inr ⟨pre,trivial,h⟩)⟩
end No
namespace No
open Mem Lx Bu Lf Fa Hp Pq
attribute [local go_sem] Oper.semAt_some
theorem IV:(Tryz.prog.info? 30).map (fun i=>(i.zero,i.size,i.bytes))=some (some (.int .u32 0),1,4):=by kernel_rfl
theorem IW:Tryz.prog.underlying 36=some (.slice 30):=by kernel_rfl
theorem wM(F:Fence)(n:Nat)(hf:F.fn 193)(hg:F.fn 190)(hro:F.round=none)(hn:3<=n)(Bs b off cap:Nat)(zs:List Nat)(hl:zs.length<=80)(w:World)(hBs:Bs<w.heap.size)(hb:b<w.heap.size)
 (hbx:w.cell? ⟨Bs,0,none⟩=some (.slice (some ⟨b,off,none⟩) zs.length cap)) (hc:∀j,j<zs.length->w.cell? ⟨b,off+j,none⟩=some (nV (gt zs j))):
 CallsIn F n Tryz.prog 193 #[(),.func (.func 190) #[] #[Bs]] w fun e W'=>∃v,e=.returned v/\W'.ownsRow w.heap.size 30 1 v zs.length (zs.map nV)/\Bw w W':=by
 have h1:1<=n:=by omega
 obtain⟨i0,hi,hz0,hz1,hz2⟩:=info_parts IV;refine callsIn_of_wp_marks Tryz.func193 rfl hf ?_ hro;simp only[Tryz.ntmps193,List.size_toArray,List.length_cons,List.length_nil,Nat.reduceAdd,Nat.reduceSub,Array.replicate_succ,Array.replicate_zero,List.push_toArray,List.append_toArray,List.nil_append,List.cons_append]
 gi_wp2
 have bO:=Boxed.new w 36 (.slice none 0 0);have hB0:Bw w (w.alloc (.cells #[()] 36)):=(Below.refl _ w).alloc (Nat.le_refl _) _
 refine wpIn_rangeFunc_ownG hro h1 (gf:=190) (lb:= #[.pointer (some ⟨Bs,0,none⟩)]) rfl hg (Go.Proofs.enters_of Tryz.func190 (by kernel_rfl) rfl)
  (wL F (n-1) hg hro (by omega) Bs w.heap.size b off cap zs hl w hBs (Nat.le_refl _) hb hbx hc) belowK_t (belowK_b (by simp)) hB0 (fun _=>rfl)
  (fun pre W=>(∃v,Boxed W w.heap.size 36 v/\W.ownsRow w.heap.size 30 1 v pre.length (pre.map nV)/\True)/\Bw w W)
  (fun _ _ _=>False)
  (OwnFrom.and (Own.from (holdsRow_own w.heap.size w.heap.size 36 30 1 (fun pre:List Nat=>pre.length) (fun pre:List Nat=>pre.map nV) (fun _ _=>True)) _) (ownFrom_below (Nat.le_refl _) (by simp)))
  (fun _ _ _ _ _ hs _ _=>hs)
  ⟨⟨_,bO,World.ownsRow_nil _ _ _ _,trivial⟩,hB0⟩
  (fun x=>{ tmps:= #[.slice none 0 0,.func (.func 190) #[] #[Bs],.pointer (some ⟨w.heap.size,0,none⟩),undef,.slice none 0 0,nV x,.func (.func 190) #[] #[Bs],nV x,undef,undef,undef,undef,undef],defers:=[] }) ?assign ?body ?done ?stop
 case assign=>
  intro l x W K hK;unfold nV at hK ⊢
  gi_wp2
  exact hK
 case body=>
  rintro l pre x W ⟨⟨v,hv,hrow,-⟩,hB⟩ hlt;have hc:=hv.cell;unfold nV
  gi_wp2_with (gi_at_builtin;refine wpListIn_append_own _ rfl _ _ 36 rfl w.heap.size 30 i0 (.int .u32 0) 1 4 IW hi hz0 hz1 hz2 rfl (by decide) _ _ _ rfl (hrow.alloc _) ⟨W.heap.size,0,none⟩ 1 1 [.int .u32 x] rfl rfl (cell_one_new _ _ _) (by simp[Value.oneCell']) (by unfold maxLen;omega) (by omega) (by have:=hB.size;simp;omega) ?_;intro v' w1 hown' hgrow _;obtain⟨g',cap',rfl⟩:=ownsRow_succ hown';obtain⟨hv1,hv2,hr2,hk2,hb2⟩:=hv.appended (by decide) hrow hB.size (Nat.le_refl _) hown' hgrow;have hc1:=hv1.cell;have hf1:=hv1.frozen)
  exact⟨hk2.from _,hb2,⟨_,hv2,by rw[List.length_append,List.map_append];exact hr2,trivial⟩,hB.trans hb2⟩
 case done=>
  rintro D ys W hD rfl ⟨⟨v,hv,hrow,-⟩,hB⟩ hK;have hc:=hv.cell
  gi_wp2
  refine⟨by simp,.inl ⟨_,_,rfl,run_takeDeferred hK,?_⟩⟩;exact⟨_,results_tmp rfl _ _ _,v,rfl,ownsRow_putObj hrow _ hK rfl,hB.trans (belowK_b (w:=w) (Nat.le_refl _) W D _ _ (by simp at hD;omega) hK rfl rfl)⟩
 case stop=>
  rintro D c pre W _ _ h _;exact h.elim
theorem yH(Bs b off cap:Nat)(zs:List Nat)(h1:1<=zs.length)(hl:zs.length<=80)(w:World)(hBs:Bs<w.heap.size)(hb:b<w.heap.size)
 (hbx:w.cell? ⟨Bs,0,none⟩=some (.slice (some ⟨b,off,none⟩) zs.length cap)) (hc:∀j,j<zs.length->w.cell? ⟨b,off+j,none⟩=some (nV (gt zs j))):
 Calls Tryz.prog 188 #[.func (.func 190) #[] #[Bs]] w fun e W'=>∃g c,e=.returned (.slice (some (g:Nat)) zs.length c)/\w.heap.size<=g/\Ow 30 W' g c (zs.map nV)/\Bw w W':=by
 refine calls_of_every_depth (L:=[188,193,190]) (n:=4) fun D=>?_;refine callsIn_of_wp Tryz.func188 rfl (by simp) ?_ rfl;simp only[Tryz.ntmps188,List.size_toArray,List.length_cons,List.length_nil,Nat.reduceAdd,Nat.reduceSub,Array.replicate_succ,Array.replicate_zero,List.push_toArray,List.append_toArray,List.nil_append,List.cons_append]
 gi_wp2_with (gi_at_call 193;refine(wM _ _ (by simp) (by simp) rfl (by omega) Bs b off cap zs hl _ hBs hb hbx hc).mono ?_;rintro e w' ⟨v,rfl,hrow,hbl⟩)
 go_ret
 obtain⟨m,hm⟩:∃m,zs.length=m+1:=⟨zs.length-1,by omega⟩
 have hrow':=hrow;rw[hm]at hrow';obtain⟨g,c,rfl⟩:=ownsRow_succ hrow';rw[<-hm]at hrow ⊢;obtain⟨ho,hg,-⟩:=MX hrow;exact⟨g,c,rfl,hg,ho,hbl⟩
end No
namespace No
open Mem Lx Bu Lf Fa Hp Pq
theorem yI{W:World}(c:Cfg){A:Option Addr}{cc:Nat}{K:List Nat}(h:KL W A K)(hl:K.length<=80)(oo:∀k,k∈K->k<4294967296):
 Calls Tryz.prog 155 #[.agg (bC c),.slice A K.length cc] W fun e w'=>(∃v:Bool,e=.returned (.bool v)/\(v=true↔Fe c K))/\Bw W w':=by
 refine wK c hl oo fun h1 W1 hb1=>?_;obtain⟨b,o,rfl,hbl,hcs⟩:=h (by omega)
 have hcell:∀(W2:World),Bw W W2->∀j,j<K.length->W2.cell? ⟨b,o+j,none⟩=some (nV (gt K j)):=fun W2 hb2 j hj=>by
  refine(hb2.cell (p:=⟨b,o+j,none⟩) hbl).trans ?_;rw[jG hj];have:=hcs j K[j] (List.getElem?_eq_getElem hj) 0 (nV K[j]) (by simp[KdK,nV]);simpa[KdK]using this
 refine(BD (some ⟨b,o,none⟩) K.length cc W1).mono ?_;rintro e w1 ⟨rfl,rfl⟩;have hB:=(Below.refl W1.heap.size W1).alloc (Nat.le_refl _) (.cells #[.slice (some ⟨b,o,none⟩) K.length cc] 36);refine⟨_,rfl,hB,?_⟩;have hx:=heap_alloc_new W1 (.cells #[.slice (some ⟨b,o,none⟩) K.length cc] 36);have hsz:W1.heap.size<(W1.alloc (.cells #[.slice (some ⟨b,o,none⟩) K.length cc] 36)).heap.size:=by simp
 have hBW:=Cb hb1 hB;generalize W1.alloc (.cells #[.slice (some ⟨b,o,none⟩) K.length cc] 36)=w1 at*;have hs1:=hBW.size;have hbx:w1.cell? ⟨W1.heap.size,0,none⟩=some (.slice (some ⟨b,o,none⟩) K.length cc):=by simp[World.cell?,hx]
 exact Bz rfl h1 hl fun W2 hb2=>yH W1.heap.size b o cc K h1 hl W2 (Nat.lt_of_lt_of_le hsz hb2.size) (Nat.lt_of_lt_of_le hbl (Nat.le_trans hs1 hb2.size)) ((hb2.cell (p:=⟨W1.heap.size,0,none⟩) hsz).trans hbx) (hcell W2 (Cb hBW hb2))
theorem IX{W:World}(c:Cfg)(lo hi:ByteArray)(top:Bool){n:Nd}{a:At}(h:vw W n a)(hf:Sz n)(hk8:n.kids.length<=80)(oo:∀k,k∈n.kids->k<4294967296):Calls Tryz.prog 121 #[.agg (bC c),bG lo hi top,.agg (dO n a)] W fun e w'=>(∃v:Bool,e=.returned (.bool v)/\(v=true↔jR c lo hi top n))/\Bw W w':=
 BF c lo hi top h hf hk8 fun _ hb=>yI c (h.kept hb).kids.1 hk8 oo
end No
end Go.Proofs.YtmcbidhpkpmalaaGreatDoor
