import Derived.Test.YtjpjjnalpdpljaaGreatDoorPkAD
import Derived.Test.YtjpjjnalpdpljaaGreatDoorPkBA
import Derived.SliceStrings
import Derived.Test.YtjpjjnalpdpljaaGreatDoorPqDrift
import Derived.Test.YtjpjjnalpdpljaaGreatDoorPkAK
import Derived.Lib.MinMaxS
import Derived.Deep.RegionHeld3
set_option maxHeartbeats 4000000
set_option maxRecDepth 100000
namespace Go.Proofs.YtjpjjnalpdpljaaGreatDoor
open Go.RowKit Go.WideShapes Go.ChangeShapes
namespace Lf
open Mem Bu
theorem open_prs_t {H:Type} {enc:TypeId × Value->H} {W:World} {v:Value} {d:DataW H} {p:List MemPlace} {fuel:Nat} (h:DataW.trod enc Tryz.prog W 0 (fun _=>true) true fuel 41 [v]=some (d,p)):
 ∃(A:Option Addr) (L:List Pr) (c:Nat),v= .slice A L.length c/\PC W A c L/\L.length<=c/\c<=maxLen/\∀m,m∈L->m.1.size∈d.weights Tryz.prog 41/\m.2.size∈d.weights Tryz.prog 41:=by
 obtain ⟨A,len,c,rfl,hl,hm,hc⟩:=Args.open_structs_t Tryz.underlying41 Tryz.underlying93 (by kernel_rfl) (by kernel_rfl) (by decide) h
 by_cases h0:0<len
 . obtain ⟨b,o,rfl,hcell⟩:=hc h0
   have each:∀i,i<len->∃m:Pr,W.cell? ⟨b,o+(i*2+0),none⟩=some (.string m.1)/\W.cell? ⟨b,o+(i*2+1),none⟩=some (.string m.2)/\m.1.size∈d.weights Tryz.prog 41/\m.2.size∈d.weights Tryz.prog 41:=by
    intro i hi
    obtain ⟨u0,y0,n0,h0,k0,z0⟩:=hcell i hi 0 _ rfl
    obtain ⟨u1,y1,n1,h1,k1,z1⟩:=hcell i hi 1 _ rfl
    obtain ⟨s0,e0,rfl,_⟩:=DataW.trod_string Tryz.underlying9 k0
    obtain ⟨s1,e1,rfl,_⟩:=DataW.trod_string Tryz.underlying9 k1
    obtain rfl:u0=_:=by simpa using e0
    obtain rfl:u1=_:=by simpa using e1
    exact ⟨(s0,s1),h0,h1,z0 _ (by simp [DataW.weights]),z1 _ (by simp [DataW.weights])⟩
   have each':∀i,∃m:Pr,i<len->W.cell? ⟨b,o+(i*2+0),none⟩=some (.string m.1)/\W.cell? ⟨b,o+(i*2+1),none⟩=some (.string m.2)/\m.1.size∈d.weights Tryz.prog 41/\m.2.size∈d.weights Tryz.prog 41:=fun i=>by
    by_cases hi:i<len
    . obtain ⟨m,hm⟩:=each i hi
      exact ⟨m,fun _=>hm⟩
    . exact ⟨(⟨#[]⟩,⟨#[]⟩),fun h=>absurd h hi⟩
   let F:=fun i=>Classical.choose (each' i)
   have hF:∀i,i<len->W.cell? ⟨b,o+(i*2+0),none⟩=some (.string (F i).1)/\W.cell? ⟨b,o+(i*2+1),none⟩=some (.string (F i).2)/\(F i).1.size∈d.weights Tryz.prog 41/\(F i).2.size∈d.weights Tryz.prog 41:=fun i=>Classical.choose_spec (each' i)
   have hb:b<W.heap.size:=by
    have:=(hF 0 h0).1
    rcases Nat.lt_or_ge b W.heap.size with h'|h'
    . exact h'
    . simp [World.cell?,Array.getElem?_eq_none h'] at this
   refine ⟨some ⟨b,o,none⟩,(List.range len).map F,c,by simp,⟨fun _=>⟨b,o,rfl,hb,fun i x hx j u hu=>?_⟩,by simpa using hl⟩,by simpa using hl,hm,fun m hmm=>?_⟩
   rotate_left
   . obtain ⟨i,hi,rfl⟩:=List.mem_map.1 hmm
     exact (hF i (by simpa using hi)).2.2
   obtain ⟨hi,hx⟩:=List.getElem?_eq_some_iff.1 hx
   have hi':i<len:=by simpa using hi
   obtain rfl:F i=x:=by simpa using hx
   obtain ⟨e0,e1,-⟩:=hF i hi'
   match j,hu with
   |0,hu=>
    obtain rfl:Value.string (F i).1=u:=by simpa [PrK] using hu
    exact e0
   |1,hu=>
    obtain rfl:Value.string (F i).2=u:=by simpa [PrK] using hu
    exact e1
   |j+2,hu=>simp [PrK] at hu
 . obtain rfl:len=0:=by omega
   exact ⟨A,[],c,rfl,⟨fun h=>absurd h (by simp),Nat.zero_le _⟩,Nat.zero_le _,hm,fun m hmm=>by cases hmm⟩
end Lf
end Go.Proofs.YtjpjjnalpdpljaaGreatDoor
namespace Go.Proofs.YtjpjjnalpdpljaaGreatDoor
open Go.RowKit Go.WideShapes Go.ChangeShapes
namespace Fa
open Mem
theorem open_strs_t {H:Type} {enc:TypeId × Value->H} {W:World} {v:Value} {d:DataW H} {p:List MemPlace} {fuel:Nat} (hf:DataW.trod enc Tryz.prog W 0 (fun _=>true) true fuel 39 [v]=some (d,p)):
 ∃(A:Option Addr) (L:List ByteArray) (c:Nat),v= .slice A L.length c/\SC W A c L/\L.length<=c/\c<=maxLen:=by
 rcases open_strings Tryz.underlying39 Tryz.underlying9 (by kernel_rfl) hf with ⟨hcs,_⟩|⟨a,len,cap,ss,hcs,_,hl,hm,hz,_,hcell⟩
 . obtain rfl:v=_:=by simpa using hcs
   exact ⟨none,[],0,rfl,RC.nil _ _ _,Nat.le_refl _,Nat.zero_le _⟩
 . obtain rfl:v=_:=by simpa using hcs
   simp only [if_true] at hz
   have htl:(ss.take len).length=len:=by simp;omega
   refine ⟨some a,ss.take len,cap,by rw [htl],⟨fun hpos=>?_,by rw [htl];exact hl⟩,by rw [htl];exact hl,hm⟩
   rw [htl] at hpos
   obtain ⟨b,o,sp⟩:=a
   have h0:=hcell.1 0 (by omega)
   obtain rfl:sp=none:=by simpa [Addr.add] using World.cell?_spot h0
   have hb:b<W.heap.size:=by
    rcases Nat.lt_or_ge b W.heap.size with h'|h'
    . exact h'
    . simp [Addr.add,World.cell?,Array.getElem?_eq_none h'] at h0
   refine ⟨b,o,rfl,hb,fun i x hx j u hu=>?_⟩
   obtain ⟨hi,hx⟩:=List.getElem?_eq_some_iff.1 hx
   rw [htl] at hi
   have h1:=hcell.1 i (by omega)
   have e:(⟨b,o,none⟩:Addr).add i=⟨b,o+i,none⟩:=by unfold Addr.add;split<;>simp_all
   rw [e] at h1
   have hj:j=0:=by
    have:=(List.getElem?_eq_some_iff.1 hu).1
    simp only [StK,List.length_cons,List.length_nil] at this
    omega
   subst hj
   obtain rfl:Value.string x=u:=by simpa [StK] using hu
   have hk:StK.k=1:=rfl
   rw [hk,Nat.mul_one,Nat.add_zero,h1,<-hx]
   simp [List.getD,show i<ss.length by omega]
end Fa
end Go.Proofs.YtjpjjnalpdpljaaGreatDoor
namespace Go.Proofs.YtjpjjnalpdpljaaGreatDoor
open Go.RowKit Go.WideShapes Go.ChangeShapes Go.Deep
namespace No
open Mem
theorem open_kids_t {H:Type} {enc:TypeId × Value->H} {W:World} {v:Value} {d:DataW H} {p:List MemPlace} {fuel:Nat} (hf:DataW.trod enc Tryz.prog W 0 (fun _=>true) true fuel 38 [v]=some (d,p)):
 ∃(A:Option Addr) (L:List Nat) (c:Nat),v= .slice A L.length c/\KC W A c L/\L.length<=c/\c<=maxLen/\∀n,n∈L->n<4294967296:=by
 rcases open_ints Tryz.underlying38 Tryz.underlying25 (by kernel_rfl) hf with ⟨hcs,_⟩|⟨a,len,cap,zs,hcs,_,hl,hm,hz,_,hcell,hwz⟩
 . obtain rfl:v=_:=by simpa using hcs
   exact ⟨none,[],0,rfl,RC.nil _ _ _,Nat.le_refl _,Nat.zero_le _,fun n hn=>by cases hn⟩
 . obtain rfl:v=_:=by simpa using hcs
   simp only [if_true] at hz
   have htl:(zs.take len).length=len:=by simp;omega
   have hnat:∀z,z∈zs->∃n:Nat,z=(n:Int)/\n<4294967296:=fun z hz'=>Args.nat_of_u32 (hwz z hz')
   refine ⟨some a,(zs.take len).map Int.toNat,cap,by rw [List.length_map,htl],⟨fun hpos=>?_,by rw [List.length_map,htl];exact hl⟩,by rw [List.length_map,htl];exact hl,hm,fun n hn=>?_⟩
   . rw [List.length_map,htl] at hpos
     obtain ⟨b,o,sp⟩:=a
     have h0:=hcell 0 (by omega)
     obtain rfl:sp=none:=by simpa [Addr.add] using World.cell?_spot h0
     have hb:b<W.heap.size:=by
      rcases Nat.lt_or_ge b W.heap.size with h'|h'
      . exact h'
      . simp [Addr.add,World.cell?,Array.getElem?_eq_none h'] at h0
     refine ⟨b,o,rfl,hb,fun i x hx j u hu=>?_⟩
     rw [List.getElem?_map,Option.map_eq_some_iff] at hx
     obtain ⟨z,hx,rfl⟩:=hx
     obtain ⟨hi,hx⟩:=List.getElem?_eq_some_iff.1 hx
     rw [htl] at hi
     have h1:=hcell i (by omega)
     have e:(⟨b,o,none⟩:Addr).add i=⟨b,o+i,none⟩:=by unfold Addr.add;split<;>simp_all
     rw [e] at h1
     have hj:j=0:=by
      have:=(List.getElem?_eq_some_iff.1 hu).1
      simp only [KdK,List.length_cons,List.length_nil] at this
      omega
     subst hj
     rw [List.getElem_take] at hx
     obtain ⟨n,hn,-⟩:=hnat z (by rw [<-hx];exact List.getElem_mem _)
     obtain rfl:Value.int .u32 (z.toNat:Int)=u:=by simpa [KdK] using hu
     have hk:KdK.k=1:=rfl
     rw [hk,Nat.mul_one,Nat.add_zero,h1]
     have e2:zs.getD i 0=z:=by simp [List.getD,show i<zs.length by omega,hx]
     first|rw [e2,hn];rfl|(simp [List.getD,show i<zs.length by omega,hx,hn])
   . obtain ⟨z,hz',rfl⟩:=List.mem_map.1 hn
     obtain ⟨n,rfl,hlt⟩:=hnat z (List.mem_of_mem_take hz')
     simpa using hlt
structure NdOk (n:Nd):Prop where
 lv: -9223372036854775808<=n.lv/\n.lv<=9223372036854775807
 kids:n.kids.length<=maxLen
 piv:n.piv.length<=maxLen
 buf:n.buf.length<=maxLen
 prs:n.prs.length<=maxLen
 kid:∀k,k∈n.kids->k<4294967296
 val:∀m,m∈n.prs->m.2.size<=reachBytes
theorem array5 {α:Type} {cs:Array α} (h:cs.size=5):∃c0 c1 c2 c3 c4,cs= #[c0,c1,c2,c3,c4]:=by
 obtain ⟨l⟩:=cs
 match l,h with
 |[c0,c1,c2,c3,c4],_=>exact ⟨c0,c1,c2,c3,c4,rfl⟩
theorem node_one:oneCellFields Tryz.prog (Tryz.prog.fieldsOf 43)=true:=by kernel_rfl
theorem open_node {H:Type} {enc:TypeId × Value->H} {W:World} {v:Value} {d:DataW H} {p:List MemPlace} {r:Reach} {b0:Nat} (hv:Value.okWide Tryz.prog W r b0 43 v) (h:DataW.Trod enc Tryz.prog W 0 (fun _=>true) true 43 v d p) (hw:∀n∈d.weights Tryz.prog 43,n<=reachBytes):
 ∃(n:Nd) (a:At),v= .agg (ndCs n a)/\NdIn W n a/\NdOk n:=by
 have hu:Tryz.prog.underlying 43=some (.struct (Tryz.prog.fieldsOf 43)):=by kernel_rfl
 obtain ⟨cs,rfl,hsz⟩:=okWide_struct hu hv
 have h5:Tryz.prog.cellsOf 43=5:=by kernel_rfl
 rw [h5] at hsz
 obtain ⟨fuel,hf⟩:=h
 obtain ⟨ys,n',_,hD,hlen,hyl,hfl⟩:=DataW.trod_struct hu hf
 have hsz2:(Tryz.prog.fieldsOf 43).size=5:=by kernel_rfl
 have each:∀(j:Nat) (u:Value) (T:TypeId),cs[j]? =some u->((Tryz.prog.fieldsOf 43)[j]?.map fun f=>f.type)=some T->∃y:DataW H × List MemPlace,DataW.trod enc Tryz.prog W 0 (fun _=>true) true n' T [u]=some y/\∀k∈y.1.weights Tryz.prog T,k<=reachBytes:=fun j u T hj hT=>by
  rw [Option.map_eq_some_iff] at hT
  obtain ⟨f,hfj,rfl⟩:=hT
  obtain ⟨ho,hk⟩:=hone_of node_one j f hfj
  have h1:=hfl j f hfj
  rw [ho,hk] at h1
  have hu1:((Value.agg cs).cells.toList.drop j).take 1=[u]:=by
   simp only [Value.cells]
   have hl:cs.toList[j]? =some u:=by simpa using hj
   rw [List.getElem?_eq_some_iff] at hl
   obtain ⟨h2,h3⟩:=hl
   rw [List.drop_eq_getElem_cons h2,h3]
   rfl
  rw [hu1] at h1
  have hj':j<ys.length:=by
   rw [hyl]
   exact (Array.getElem?_eq_some_iff.1 hfj).1
  rw [List.getElem?_eq_getElem hj'] at h1
  refine ⟨_,h1,fun k hk=>hw k ?_⟩
  simp only [Prod.mk.injEq] at hD
  rw [hD.1]
  simp only [DataW.weights,hu]
  refine Args.w_each (j:=j) (t:=f.type) (d:=(ys[j]'hj').1) ?_ ?_ k hk
  . rw [List.getElem?_map,Array.getElem?_toList,hfj];rfl
  . rw [List.getElem?_map,List.getElem?_eq_getElem hj'];rfl
 obtain ⟨c0,c1,c2,c3,c4,rfl⟩:=array5 hsz
 obtain ⟨⟨y0,q0⟩,k0,-⟩:=each 0 c0 3 rfl (by decide+kernel)
 obtain ⟨⟨y1,q1⟩,k1,-⟩:=each 1 c1 38 rfl (by decide+kernel)
 obtain ⟨⟨y2,q2⟩,k2,-⟩:=each 2 c2 39 rfl (by decide+kernel)
 obtain ⟨⟨y3,q3⟩,k3,-⟩:=each 3 c3 40 rfl (by decide+kernel)
 obtain ⟨⟨y4,q4⟩,k4,w4⟩:=each 4 c4 41 rfl (by decide+kernel)
 obtain ⟨z,hz,-,hwf⟩:=DataW.trod_int Tryz.underlying3 k0
 obtain rfl:c0=_:=by simpa using hz
 obtain ⟨kA,K,kc,rfl,hK,lK,mK,bK⟩:=open_kids_t k1
 obtain ⟨pA,P,pc,rfl,hP,lP,mP⟩:=Fa.open_strs_t k2
 obtain ⟨bA,B,bc,rfl,hB,lB,mB⟩:=Bu.open_msgs_t k3
 obtain ⟨qA,Q,qc,rfl,hQ,lQ,mQ,wQ⟩:=Lf.open_prs_t k4
 exact ⟨⟨z,K,P,B,Q⟩,⟨kA,kc,pA,pc,bA,bc,qA,qc⟩,rfl,⟨hK,hP,hB,hQ⟩,⟨Args.i64_bounds hwf,Nat.le_trans lK mK,Nat.le_trans lP mP,Nat.le_trans lB mB,Nat.le_trans lQ mQ,bK,fun m hm=>w4 _ (wQ m hm).2⟩⟩
end No
end Go.Proofs.YtjpjjnalpdpljaaGreatDoor
namespace Go.Proofs.YtjpjjnalpdpljaaGreatDoor
open Go.RowKit
namespace No
open Mem Lx Bu Lf Fa
structure Fit (n:Nd):Prop where
 kids:n.kids.length<=80
 piv:n.piv.length<=80
 buf:n.buf.length<=150
 prs:n.prs.length<=150
 pk:∀p,p∈n.piv->p.size<=200
 bk:∀m,m∈n.buf->m.1.size<=200
 qk:∀m,m∈n.prs->m.1.size<=200
theorem Great_any {W:World} {n:Nd} {a:At} (h:NdIn W n a) (hok:NdOk n):Calls Tryz.prog 11 #[.agg (ndCs n a)] W fun e w'=>(∃v:Bool,e= .returned (.bool v)/\(v=false↔Fit n))/\Below W.heap.size W w':=by
 obtain ⟨P,hP⟩:∃P:Prop,P=Fit n:=⟨_,rfl⟩
 have HP:Hid (P->Fit n):=fun h=>by rw [hP] at h;exact h
 have HQ:Hid (Fit n->P):=fun h=>by rw [hP];exact h
 rw [<-hP]
 clear hP
 obtain ⟨lv,K,L,B,Q⟩:=n
 obtain ⟨kA,kc,pA,pc,bA,bc,qA,qc⟩:=a
 have h2:=hok.kids
 have h3:=hok.piv
 have h4:=hok.buf
 have h5:=hok.prs
 have HL:Hid (SL W pA L):=h.piv.1
 have HB:Hid (RdK MgK W bA B):=h.buf.1
 have HR:Hid (PL W qA Q):=h.prs.1
 unfold ndCs
 simp only at*
 unfold maxLen at h2 h3 h4 h5
 generalize hkn:K.length=kn at*
 generalize hpn:L.length=pn at*
 generalize hbn:B.length=bn at*
 generalize hqn:Q.length=qn at*
 have HKN:=Lib.hid hkn
 have HPN:=Lib.hid hpn
 have HBN:=Lib.hid hbn
 have HQN:=Lib.hid hqn
 clear h hok hkn hpn hbn hqn
 go_enter Tryz.func11,Tryz.ntmps11
 go_upto_region 1 with fail
 have hx:=heap_alloc_new W (.cells #[.int .i64 lv, .slice kA kn kc, .slice pA pn pc, .slice bA bn bc, .slice qA qn qc] 43)
 have hb0:Below W.heap.size W (W.alloc (.cells #[.int .i64 lv, .slice kA kn kc, .slice pA pn pc, .slice bA bn bc, .slice qA qn qc] 43)):=(Below.refl _ _).alloc (Nat.le_refl _) _
 generalize W.alloc (.cells #[.int .i64 lv, .slice kA kn kc, .slice pA pn pc, .slice bA bn bc, .slice qA qn qc] 43)=w1 at*
 have HW:=Lib.hid hb0
 obtain ⟨g,hg⟩:∃g,g=W.heap.size:=⟨_,rfl⟩
 simp only [<-hg]
 rw [<-hg] at hx
 obtain ⟨d0,d1,d2,d3,d4⟩:=box5 hx
 clear hx hb0 hg d0
 by_cases e0:kn<=80
 case neg=>
  have hd:(80:Int)<(kn:Int):=by omega
  have HNO:Hid (¬P):=fun h=>e0 (by rw [<-HKN.out];exact (HP.out h).kids)
  clear e0
  go_wp2_with fail
  go_ret
  exact ⟨⟨true,rfl,(fun h=>by cases h),fun h=>absurd h HNO.out⟩,HW.out⟩
 have n0:decide ((80:Int)<(kn:Int))=false:=by simp;omega
 by_cases e1:pn<=80
 case neg=>
  have hd:(80:Int)<(pn:Int):=by omega
  have HNO:Hid (¬P):=fun h=>e1 (by rw [<-HPN.out];exact (HP.out h).piv)
  clear e1
  go_wp2_with fail
  go_ret
  exact ⟨⟨true,rfl,(fun h=>by cases h),fun h=>absurd h HNO.out⟩,HW.out⟩
 have n1:decide ((80:Int)<(pn:Int))=false:=by simp;omega
 by_cases e2:bn<=150
 case neg=>
  have hd:(150:Int)<(bn:Int):=by omega
  have HNO:Hid (¬P):=fun h=>e2 (by rw [<-HBN.out];exact (HP.out h).buf)
  clear e2
  go_wp2_with fail
  go_ret
  exact ⟨⟨true,rfl,(fun h=>by cases h),fun h=>absurd h HNO.out⟩,HW.out⟩
 have n2:decide ((150:Int)<(bn:Int))=false:=by simp;omega
 by_cases e3:qn<=150
 case neg=>
  have hd:(150:Int)<(qn:Int):=by omega
  have HNO:Hid (¬P):=fun h=>e3 (by rw [<-HQN.out];exact (HP.out h).prs)
  clear e3
  go_wp2_with fail
  go_ret
  exact ⟨⟨true,rfl,(fun h=>by cases h),fun h=>absurd h HNO.out⟩,HW.out⟩
 have n3:decide ((150:Int)<(qn:Int))=false:=by simp;omega
 have HE:Hid (kn<=80/\pn<=80/\bn<=150/\qn<=150):=⟨e0,e1,e2,e3⟩
 clear e0 e1 e2 e3
 go_upto_block 0 with fail
 clear n0 n1 n2 n3
 go_cut [] (fun wx=>Hid (∀y,y∈L->y.size<=200)/\w1=wx)
 case first=>
  go_wp2_with fail
  go_loopg [3] pn (fun gk iv wx=>∃j:Nat,j<=pn/\gk=pn-j/\iv= .int .i64 (j:Int)/\Hid (∀(i:Nat) (y:ByteArray),i<j->L[i]? =some y->y.size<=200)/\w1=wx)
  case atStart=>exact ⟨0,Nat.zero_le _,rfl,rfl,fun i x hi=>by omega,rfl⟩
  case round=>
   obtain ⟨j,hj,rfl,rfl,HJ,rfl⟩:=hrel
   by_cases hlt2:j<pn
   . have hjL:j<L.length:=by rw [HPN.out];exact hlt2
     obtain ⟨x,hxx⟩:∃x,x=L[j]:=⟨_,rfl⟩
     have hx':=nat_lenS hjL
     rw [<-hxx] at hx'
     obtain ⟨b,o,e,-,c0⟩:=RdK.str (HL.out.kept HW.out) hx'
     subst e
     have HXX:=Lib.hid hx'
     have hw3:IntKind.i64.wrap ((j:Int)+1)=((j+1:Nat):Int):=by rw [IntKind.wrap_i64];omega
     clear hxx hx' hjL
     by_cases hz:x.size<=200
     . have HJ2:Hid (∀(i:Nat) (y:ByteArray),i<j+1->L[i]? =some y->y.size<=200):=fun i y hi hy=>by
        by_cases e:i=j
        . subst e
          rw [HXX.out] at hy
          cases hy
          exact hz
        . exact HJ.out i y (by omega) hy
       have hd:decide (200<(x.size:Int))=false:=by simp;omega
       clear hz
       go_wp2_with fail
       go_roundg (pn-(j+1))
       case measure=>omega
       case rel=>exact ⟨j+1,hlt2,rfl,by go_num,HJ2,rfl⟩
     . have hd:(200:Int)<(x.size:Int):=by omega
       have HNO:Hid (¬P):=fun h=>hz ((HP.out h).pk x (List.mem_of_getElem? HXX.out))
       clear hz
       go_wp2_with fail
       go_ret
       exact ⟨⟨true,rfl,(fun h=>by cases h),fun h=>absurd h HNO.out⟩,HW.out⟩
   . have HZ:Hid (∀y,y∈L->y.size<=200):=fun x hx=>by
      obtain ⟨i,hi⟩:=List.getElem?_of_mem hx
      have:=(List.getElem?_eq_some_iff.1 hi).1
      rw [HPN.out] at this
      exact HJ.out i x (by omega) hi
     obtain rfl:j=pn:=by omega
     clear hlt2
     go_wp2_with fail
     go_meet
     exact ⟨HZ,rfl⟩
 case rest=>
 obtain ⟨Hx0,rfl⟩:=hcut
 go_upto_block 2 with fail
 skip
 go_cut [] (fun wx=>Hid (∀y,y∈B->y.1.size<=200)/\w1=wx)
 case first=>
  go_wp2_with fail
  go_loopg [4] bn (fun gk iv wx=>∃j:Nat,j<=bn/\gk=bn-j/\iv= .int .i64 (j:Int)/\Hid (∀(i:Nat) (y:Mg),i<j->B[i]? =some y->y.1.size<=200)/\w1=wx)
  case atStart=>exact ⟨0,Nat.zero_le _,rfl,rfl,fun i x hi=>by omega,rfl⟩
  case round=>
   obtain ⟨j,hj,rfl,rfl,HJ,rfl⟩:=hrel
   by_cases hlt2:j<bn
   . have hjL:j<B.length:=by rw [HBN.out];exact hlt2
     obtain ⟨x,hxx⟩:∃x,x=B[j]:=⟨_,rfl⟩
     have hx':=nat_len hjL
     rw [<-hxx] at hx'
     obtain ⟨b,o,e,-,c0,-,-⟩:=RdK.msg (HB.out.kept HW.out) hx'
     subst e
     have HXX:=Lib.hid hx'
     have hw3:IntKind.i64.wrap ((j:Int)+1)=((j+1:Nat):Int):=by rw [IntKind.wrap_i64];omega
     clear hxx hx' hjL
     by_cases hz:x.1.size<=200
     . have HJ2:Hid (∀(i:Nat) (y:Mg),i<j+1->B[i]? =some y->y.1.size<=200):=fun i y hi hy=>by
        by_cases e:i=j
        . subst e
          rw [HXX.out] at hy
          cases hy
          exact hz
        . exact HJ.out i y (by omega) hy
       have hd:decide (200<(x.1.size:Int))=false:=by simp;omega
       clear hz
       go_wp2_with fail
       go_roundg (bn-(j+1))
       case measure=>omega
       case rel=>exact ⟨j+1,hlt2,rfl,by go_num,HJ2,rfl⟩
     . have hd:(200:Int)<(x.1.size:Int):=by omega
       have HNO:Hid (¬P):=fun h=>hz ((HP.out h).bk x (List.mem_of_getElem? HXX.out))
       clear hz
       go_wp2_with fail
       go_ret
       exact ⟨⟨true,rfl,(fun h=>by cases h),fun h=>absurd h HNO.out⟩,HW.out⟩
   . have HZ:Hid (∀y,y∈B->y.1.size<=200):=fun x hx=>by
      obtain ⟨i,hi⟩:=List.getElem?_of_mem hx
      have:=(List.getElem?_eq_some_iff.1 hi).1
      rw [HBN.out] at this
      exact HJ.out i x (by omega) hi
     obtain rfl:j=bn:=by omega
     clear hlt2
     go_wp2_with fail
     go_meet
     exact ⟨HZ,rfl⟩
 case rest=>
 obtain ⟨Hx1,rfl⟩:=hcut
 go_upto_block 4 with fail
 skip
 go_cut [] (fun wx=>Hid (∀y,y∈Q->y.1.size<=200)/\w1=wx)
 case first=>
  go_wp2_with fail
  go_loopg [5] qn (fun gk iv wx=>∃j:Nat,j<=qn/\gk=qn-j/\iv= .int .i64 (j:Int)/\Hid (∀(i:Nat) (y:Pr),i<j->Q[i]? =some y->y.1.size<=200)/\w1=wx)
  case atStart=>exact ⟨0,Nat.zero_le _,rfl,rfl,fun i x hi=>by omega,rfl⟩
  case round=>
   obtain ⟨j,hj,rfl,rfl,HJ,rfl⟩:=hrel
   by_cases hlt2:j<qn
   . have hjL:j<Q.length:=by rw [HQN.out];exact hlt2
     obtain ⟨x,hxx⟩:∃x,x=Q[j]:=⟨_,rfl⟩
     have hx':=nat_len hjL
     rw [<-hxx] at hx'
     obtain ⟨b,o,e,-,c0,-⟩:=RdK.pair (HR.out.kept HW.out) hx'
     subst e
     have HXX:=Lib.hid hx'
     have hw3:IntKind.i64.wrap ((j:Int)+1)=((j+1:Nat):Int):=by rw [IntKind.wrap_i64];omega
     clear hxx hx' hjL
     by_cases hz:x.1.size<=200
     . have HJ2:Hid (∀(i:Nat) (y:Pr),i<j+1->Q[i]? =some y->y.1.size<=200):=fun i y hi hy=>by
        by_cases e:i=j
        . subst e
          rw [HXX.out] at hy
          cases hy
          exact hz
        . exact HJ.out i y (by omega) hy
       have hd:decide (200<(x.1.size:Int))=false:=by simp;omega
       clear hz
       go_wp2_with fail
       go_roundg (qn-(j+1))
       case measure=>omega
       case rel=>exact ⟨j+1,hlt2,rfl,by go_num,HJ2,rfl⟩
     . have hd:(200:Int)<(x.1.size:Int):=by omega
       have HNO:Hid (¬P):=fun h=>hz ((HP.out h).qk x (List.mem_of_getElem? HXX.out))
       clear hz
       go_wp2_with fail
       go_ret
       exact ⟨⟨true,rfl,(fun h=>by cases h),fun h=>absurd h HNO.out⟩,HW.out⟩
   . have HZ:Hid (∀y,y∈Q->y.1.size<=200):=fun x hx=>by
      obtain ⟨i,hi⟩:=List.getElem?_of_mem hx
      have:=(List.getElem?_eq_some_iff.1 hi).1
      rw [HQN.out] at this
      exact HJ.out i x (by omega) hi
     obtain rfl:j=qn:=by omega
     clear hlt2
     go_wp2_with fail
     go_meet
     exact ⟨HZ,rfl⟩
 case rest=>
 obtain ⟨Hx2,rfl⟩:=hcut
 have HT:Hid P:=HQ.out ⟨by rw [HKN.out];exact HE.out.1,by rw [HPN.out];exact HE.out.2.1,by rw [HBN.out];exact HE.out.2.2.1,by rw [HQN.out];exact HE.out.2.2.2,Hx0.out,Hx1.out,Hx2.out⟩
 go_wp2_with fail
 go_ret
 exact ⟨⟨false,rfl,(fun _=>HT.out),fun _=>rfl⟩,HW.out⟩
end No
end Go.Proofs.YtjpjjnalpdpljaaGreatDoor
namespace Go.Proofs.YtjpjjnalpdpljaaGreatDoor
open Go.RowKit
namespace No
open Mem Lx Bu Lf Fa
theorem isEmpty_eq (a:ByteArray):a.toList.isEmpty=decide (a=⟨#[]⟩):=by
 rw [<-ba_toList,show (⟨#[]⟩:ByteArray).toList=[] by rw [Lib.toList_data]]
 cases a.toList<;>rfl
end No
end Go.Proofs.YtjpjjnalpdpljaaGreatDoor
namespace Go.Proofs.YtjpjjnalpdpljaaGreatDoor
open Go.RowKit
namespace No
open Mem Lx Bu Lf Fa
theorem rc_into {α:Type} {K:Kind α} {w w':World} {c:Nat} {A:Option Addr} {L:List α} {T:List Nat} (h:RC K w A c L) (hi:Flow.Into T w w') (hb:∀y,0<L.length->A=some y->y.block∉T):RC K w' A c L:=⟨fun h0=>by
 obtain ⟨yb,yo,e,hl,-⟩:=h.1 h0
 refine h.1.keep hi.size (fun a ha=>?_) h0
 have h2:=hb a h0 ha
 rw [ha] at e
 cases e
 exact hi.block _ hl h2,h.2⟩
def IsBox (w:World) (b:Nat):Prop:=∃(v:Int) (A0 A1 A2 A3:Option Addr) (n0 c0 n1 c1 n2 c2 n3 c3:Nat) (U:TypeId),w.heap[b]? =some (.cells #[.int .i64 v, .slice A0 n0 c0, .slice A1 n1 c1, .slice A2 n2 c2, .slice A3 n3 c3] U (0,0))
def Strange {α:Type} (K:Kind α):Prop:=∀x,∃u,(K.cs x)[0]? =some u/\(∀n,u≠ .int .i64 n)/\∀A n c,u≠ .slice A n c
theorem strange_kd:Strange KdK:=fun x=>⟨.int .u32 x,rfl,(fun n h=>by cases h),fun A n c h=>by cases h⟩
theorem strange_st:Strange StK:=fun x=>⟨.string x,rfl,(fun n h=>by cases h),fun A n c h=>by cases h⟩
theorem strange_mg:Strange MgK:=fun x=>⟨.string x.1,rfl,(fun n h=>by cases h),fun A n c h=>by cases h⟩
theorem strange_pr:Strange PrK:=fun x=>⟨.string x.1,rfl,(fun n h=>by cases h),fun A n c h=>by cases h⟩
theorem rc_off {α:Type} {K:Kind α} {w:World} {A:Option Addr} {c g:Nat} {L:List α} (h:RC K w A c L) (hx:IsBox w g) (hs:Strange K):∀y,0<L.length->A=some y->y.block≠g:=fun y h0 hy hg=>by
 obtain ⟨v,A0,A1,A2,A3,n0,c0,n1,c1,n2,c2,n3,c3,U,hx⟩:=hx
 obtain ⟨b,o,e,hl,hc⟩:=h.1 h0
 rw [hy] at e
 cases e
 simp only at hg
 subst hg
 obtain ⟨x,hx0⟩:∃x,L[0]? =some x:=⟨L[0],List.getElem?_eq_getElem h0⟩
 obtain ⟨u,hu,hu1,hu2⟩:=hs x
 have h1:=hc 0 x hx0 0 _ hu
 simp only [World.cell?,hx,Option.isSome_none,Bool.false_eq_true,if_false,Nat.zero_mul,Nat.add_zero] at h1
 match o,h1 with
 |0,h1=>exact hu1 v (by simpa using h1.symm)
 |1,h1=>exact hu2 A0 n0 c0 (by simpa using h1.symm)
 |2,h1=>exact hu2 A1 n1 c1 (by simpa using h1.symm)
 |3,h1=>exact hu2 A2 n2 c2 (by simpa using h1.symm)
 |4,h1=>exact hu2 A3 n3 c3 (by simpa using h1.symm)
 |o+5,h1=>simp at h1
theorem rc_box {α:Type} {K:Kind α} {w w':World} {A:Option Addr} {c:Nat} {L:List α} {T:List Nat} (h:RC K w A c L) (hi:Flow.Into T w w') (hT:∀b∈T,IsBox w b) (hs:Strange K):RC K w' A c L:=rc_into h hi fun y h0 hy hm=>rc_off h (hT _ hm) hs y h0 hy rfl
theorem nd_box {w w':World} {n:Nd} {a:At} {T:List Nat} (h:NdIn w n a) (hi:Flow.Into T w w') (hT:∀b∈T,IsBox w b):NdIn w' n a:=⟨rc_box h.kids hi hT strange_kd,rc_box h.piv hi hT strange_st,rc_box h.buf hi hT strange_mg,rc_box h.prs hi hT strange_pr⟩
theorem IsBox.of {w:World} {b:Nat} {v:Int} {A0 A1 A2 A3:Option Addr} {n0 c0 n1 c1 n2 c2 n3 c3:Nat} {U:TypeId} (h:w.heap[b]? =some (.cells #[.int .i64 v, .slice A0 n0 c0, .slice A1 n1 c1, .slice A2 n2 c2, .slice A3 n3 c3] U (0,0))):IsBox w b:=⟨v,A0,A1,A2,A3,n0,c0,n1,c1,n2,c2,n3,c3,U,h⟩
theorem IsBox.one {w:World} {b:Nat} (h:IsBox w b):∀k∈[b],IsBox w k:=fun k hk=>by
 obtain rfl:k=b:=by simpa using hk
 exact h
theorem IsBox.two {w:World} {b d:Nat} (h:IsBox w b) (h':IsBox w d):∀k∈[b,d],IsBox w k:=fun k hk=>by
 rcases (by simpa using hk:k=b\/k=d) with rfl|rfl
 . exact h
 . exact h'
end No
end Go.Proofs.YtjpjjnalpdpljaaGreatDoor
namespace Go.Proofs.YtjpjjnalpdpljaaGreatDoor
open Go.RowKit
namespace Lx
theorem cmpString_any (a b:ByteArray) (w:World):
 Calls Tryz.prog 214 #[.string a, .string b] w fun e w'=>e= .returned (.int .i64 (cmpB a b))/\w=w':=by
 go_enter Tryz.func214,Tryz.ntmps214
 go_wp2
 rw [run_callFunc_extern Tryz.func215 (by kernel_rfl) (by kernel_rfl) (by kernel_rfl) (e:=Extern.BytealgCompare.compare) (by kernel_rfl),Lib.run_compareString]
 simp only [Result.andThen]
 rw [Oper.upon_value]
 go_wp2
 go_ret
 exact ⟨rfl,rfl⟩
theorem stringsCompare_any (a b:ByteArray) (w:World):
 Calls Tryz.prog 211 #[.string a, .string b] w fun e w'=>e= .returned (.int .i64 (cmpB a b))/\w=w':=by
 go_enter Tryz.func211,Tryz.ntmps211
 go_wp2_with (go_at_call 214;refine (cmpString_any _ _ _).mono ?_;rintro e w' ⟨rfl,rfl⟩)
 go_ret
 exact ⟨rfl,rfl⟩
theorem Compare_any (a b:ByteArray) (w:World):
 Calls Tryz.prog 199 #[.string a, .string b] w fun e w'=>e= .returned (.int .i64 (cmpB a b))/\w=w':=by
 go_enter Tryz.func199,Tryz.ntmps199
 go_wp2_with (go_at_call 211;refine (stringsCompare_any _ _ _).mono ?_;rintro e w' ⟨rfl,rfl⟩)
 go_ret
 exact ⟨rfl,rfl⟩
theorem CCmp (a b:ByteArray) (w:World):Calls Tryz.prog 199 #[.string a, .string b] w fun e w'=>e= .returned (.int .i64 (cmpB a b))/\Below w.heap.size w w':=
 (Compare_any a b w).mono fun e w' ⟨he,hw⟩=>⟨he,by subst hw;exact Below.refl _ _⟩
end Lx
end Go.Proofs.YtjpjjnalpdpljaaGreatDoor
namespace Go.Proofs.YtjpjjnalpdpljaaGreatDoor
open Go.RowKit
namespace Lx
theorem In_any (lo hi:ByteArray) (top:Bool) (key:ByteArray) (w:World):
 Calls Tryz.prog 198 #[spanV lo hi top, .string key] w fun e w'=>e= .returned (.bool (inB lo hi top key))/\Below w.heap.size w w':=by
 by_cases h1:cmpB lo key<=0
 . cases top
   . have HR:Hid (inB lo hi false key=decide (cmpB key hi<0)):=Lib.hid (by simp [inB,h1])
     go_enter Tryz.func198,Tryz.ntmps198
     go_wp2_with (go_at_call 199;refine (Compare_any _ _ _).mono ?_;rintro e w' ⟨rfl,rfl⟩)
     go_ret
     exact ⟨ret_bool (by rw [HR.out]),(Below.refl _ _).alloc (Nat.le_refl _) _⟩
   . have HR:Hid (inB lo hi true key=true):=Lib.hid (by simp [inB,h1])
     go_enter Tryz.func198,Tryz.ntmps198
     go_wp2_with (go_at_call 199;refine (Compare_any _ _ _).mono ?_;rintro e w' ⟨rfl,rfl⟩)
     go_ret
     exact ⟨ret_bool (by rw [HR.out]),(Below.refl _ _).alloc (Nat.le_refl _) _⟩
 . have HR:Hid (inB lo hi top key=false):=Lib.hid (by simp [inB,h1])
   have h1':decide (cmpB lo key<=0)=false:=by simpa using h1
   go_enter Tryz.func198,Tryz.ntmps198
   go_wp2_with (go_at_call 199;refine (Compare_any _ _ _).mono ?_;rintro e w' ⟨rfl,rfl⟩)
   go_ret
   exact ⟨ret_bool (by rw [HR.out]),(Below.refl _ _).alloc (Nat.le_refl _) _⟩
end Lx
end Go.Proofs.YtjpjjnalpdpljaaGreatDoor
namespace Go.Proofs.YtjpjjnalpdpljaaGreatDoor
open Go.RowKit
namespace Fa
open Mem Lx Bu
def ahdS (L:List ByteArray) (lo:ByteArray):Nat->ByteArray
 |0=>lo
 |i+1=>(L[i]?).getD lo
theorem right_iff {L:List ByteArray} {lo hi:ByteArray} {top:Bool}:RightS L lo hi top↔∀(i:Nat) (x:ByteArray),L[i]? =some x->cmpB (ahdS L lo i) x<0/\inB lo hi top x=true:=by
 constructor
 . rintro ⟨h1,h2⟩ i x hx
   have h3:=h1 x (List.mem_of_getElem? hx)
   refine ⟨?_,h3.1⟩
   cases i with
   |zero=>
    show cmpB lo x<0
    have h4:=(inB_iff.1 h3.1).1
    rcases cmpB_tri lo x with h5|h5|h5
    . exact h5
    . exact absurd h5.symm h3.2
    . have:=cmpB_neg lo x
      omega
   |succ i=>
    obtain ⟨y,hy⟩:∃y,L[i]? =some y:=⟨L[i]'(by have:=(List.getElem?_eq_some_iff.1 hx).1;omega),List.getElem?_eq_getElem _⟩
    show cmpB ((L[i]?).getD lo) x<0
    rw [hy]
    exact h2 i y x hy hx
 . intro h
   have hr:SRise L:=fun i a b ha hb=>by
    have this:cmpB ((L[i]?).getD lo) b<0:=(h (i+1) b hb).1
    rw [ha] at this
    exact this
   refine ⟨fun p hp=>?_,hr⟩
   obtain ⟨i,hi⟩:=List.mem_iff_getElem?.1 hp
   refine ⟨(h i p hi).2,?_⟩
   obtain ⟨x0,h0⟩:∃x0,L[0]? =some x0:=⟨L[0]'(by have:=(List.getElem?_eq_some_iff.1 hi).1;omega),List.getElem?_eq_getElem _⟩
   have h1:=(h 0 _ h0).1
   rcases Nat.eq_zero_or_pos i with rfl|h2
   . rw [hi] at h0
     cases h0
     exact (cmpB_ne h1).symm
   . exact (cmpB_ne (cmpB_trans h1 ((srise_iff.1 hr).at_ h0 hi h2))).symm
theorem Right_c {W:World} {A:Option Addr} {c:Nat} {L:List ByteArray} (h:SC W A c L) (lo hi:ByteArray) (top:Bool) (hl:L.length<=1000):Calls Tryz.prog 177 #[.slice A L.length c, .agg #[.string lo, .string hi, .bool top]] W fun e w'=>(∃v:Bool,e= .returned (.bool v)/\(v=true↔RightS L lo hi top))/\Below W.heap.size W w':=by
 have HH:Hid (SL W A L):=h.1
 obtain ⟨P,hP⟩:∃P:Prop,P=RightS L lo hi top:=⟨_,rfl⟩
 have HP:Hid (P↔∀(i:Nat) (x:ByteArray),L[i]? =some x->cmpB (ahdS L lo i) x<0/\inB lo hi top x=true):=by rw [hP];exact right_iff
 rw [<-hP]
 generalize hn:L.length=n at*
 have HN:=Lib.hid hn
 clear h hn hP
 go_enter Tryz.func177,Tryz.ntmps177
 go_upto_region 1 with fail
 have hx:=heap_alloc_new W (.cells #[.string lo, .string hi, .bool top] 152)
 have hb0:Below W.heap.size W (W.alloc (.cells #[.string lo, .string hi, .bool top] 152)):=(Below.refl _ _).alloc (Nat.le_refl _) _
 generalize W.alloc (.cells #[.string lo, .string hi, .bool top] 152)=w1 at*
 obtain ⟨g,hg⟩:∃g,g=W.heap.size:=⟨_,rfl⟩
 rw [<-hg] at hx ⊢
 obtain ⟨d0,d1,d2⟩:=box3 hx
 have HX:=Lib.hid hx
 have HB:=Lib.hid hb0
 clear hx hb0 hg
 go_upto_region 2 with fail
 clear d0 d1 d2
 go_wp2_with fail
 go_loopg [5,12] n (fun gk av iv wr=>∃k:Nat,k<=n/\gk=n-k/\av= .string (ahdS L lo k)/\iv= .int .i64 (k:Int)/\Hid (∀(i:Nat) (x:ByteArray),i<k->L[i]? =some x->cmpB (ahdS L lo i) x<0/\inB lo hi top x=true)/\Hid (Below W.heap.size W wr/\wr.heap[g]? =some (.cells #[.string lo, .string hi, .bool top] 152 (0,0))))
 case atStart=>exact ⟨0,Nat.zero_le _,rfl,rfl,rfl,fun i x hi=>by omega,HB.out,HX.out⟩
 case round=>
  clear HB HX
  obtain ⟨k,hkn,rfl,rfl,rfl,HE,HB⟩:=hrel
  by_cases hlt:k<n
  . have hj:k<L.length:=by rw [HN.out];exact hlt
    obtain ⟨x,hx⟩:∃x,x=L[k]:=⟨_,rfl⟩
    have hx':=nat_lenS hj
    rw [<-hx] at hx'
    obtain ⟨b,o,e,-,c0⟩:=RdK.str (HH.out.kept HB.out.1) hx'
    subst e
    obtain ⟨d0,d1,d2⟩:=box3 HB.out.2
    have HXX:=Lib.hid hx'
    have HA2:Hid (ahdS L lo (k+1)=x):=by
     show (L[k]?).getD lo=x
     rw [hx']
     rfl
    have hw:IntKind.i64.wrap ((k:Int)+1)=((k+1:Nat):Int):=by rw [IntKind.wrap_i64];omega
    obtain ⟨a,ha⟩:∃a,a=ahdS L lo k:=⟨_,rfl⟩
    rw [<-ha]
    have HAA:=Lib.hid ha
    have cC:=fun w=>Lib.hid (Compare_any a x w)
    have cI:=fun w=>Lib.hid (In_any lo hi top x w)
    clear hx hx' hj ha
    by_cases hz:cmpB a x<0
    . have HE2:Hid (inB lo hi top x=true->∀(i:Nat) (y:ByteArray),i<k+1->L[i]? =some y->cmpB (ahdS L lo i) y<0/\inB lo hi top y=true):=fun hin i y hi hy=>by
       by_cases e:i=k
       . subst e
         rw [HXX.out] at hy
         cases hy
         exact ⟨by rw [<-HAA.out];exact hz,hin⟩
       . exact HE.out i y (by omega) hy
      have hd:decide (0<=cmpB a x)=false:=by simpa using hz
      clear hz
      generalize cmpB a x=z at*
      obtain ⟨t,ht⟩:∃t,t=inB lo hi top x:=⟨_,rfl⟩
      rw [<-ht] at cI
      have HT:=Lib.hid ht
      clear ht
      cases t with
      |true=>
       go_wp2_with first|(go_at_call 199;refine (cC _).out.mono ?_;rintro e w' ⟨rfl,rfl⟩)|(go_at_call 198;refine (cI _).out.mono ?_;rintro e w' ⟨rfl,hb⟩)
       have HB2:Hid (Below W.heap.size W w'/\w'.heap[g]? =some (.cells #[.string lo, .string hi, .bool top] 152 (0,0))):=⟨HB.out.1.trans (hb.mono HB.out.1.size),kept3 HB.out.2 hb⟩
       go_roundg (n-(k+1))
       case measure=>omega
       case rel=>exact ⟨k+1,hlt,rfl,by rw [HA2.out],by go_num,HE2.out HT.out.symm,HB2⟩
      |false=>
       have HF:Hid (¬P):=fun hp=>by
        have:=(HP.out.1 hp k x HXX.out).2
        rw [<-HT.out] at this
        cases this
       go_wp2_with first|(go_at_call 199;refine (cC _).out.mono ?_;rintro e w' ⟨rfl,rfl⟩)|(go_at_call 198;refine (cI _).out.mono ?_;rintro e w' ⟨rfl,hb⟩)
       go_ret
       exact ⟨⟨false,rfl,by simpa using HF.out⟩,HB.out.1.trans (hb.mono HB.out.1.size)⟩
    . have HF:Hid (¬P):=fun hp=>by
       have:=(HP.out.1 hp k x HXX.out).1
       rw [<-HAA.out] at this
       exact hz this
      have hd:0<=cmpB a x:=by omega
      clear hz
      generalize cmpB a x=z at*
      go_wp2_with (go_at_call 199;refine (cC _).out.mono ?_;rintro e w' ⟨rfl,rfl⟩)
      go_ret
      exact ⟨⟨false,rfl,by simpa using HF.out⟩,HB.out.1⟩
  . have HT:Hid P:=HP.out.2 fun i x hx=>HE.out i x (by
     have:=(List.getElem?_eq_some_iff.1 hx).1
     rw [HN.out] at this
     omega) hx
    obtain rfl:k=n:=by omega
    clear hlt
    go_wp2_with fail
    go_ret
    exact ⟨⟨true,rfl,by simpa using HT.out⟩,HB.out.1⟩
theorem Right_any {W:World} {A:Option Addr} {c:Nat} {L:List ByteArray} (h:SC W A c L) (lo hi:ByteArray) (top:Bool) (_:lo.size<=1000) (_:hi.size<=1000) (_:∀m,m∈L->m.size<=1000) (hl:L.length<=1000):Calls Tryz.prog 177 #[.slice A L.length c, .agg #[.string lo, .string hi, .bool top]] W fun e w'=>(∃v:Bool,e= .returned (.bool v)/\(v=true↔RightS L lo hi top))/\Below W.heap.size W w':=Right_c h lo hi top hl
end Fa
end Go.Proofs.YtjpjjnalpdpljaaGreatDoor
namespace Go.Proofs.YtjpjjnalpdpljaaGreatDoor
open Go.RowKit
namespace Bu
open Mem Lx
theorem Right_any {W:World} {A:Option Addr} {c:Nat} {L:List Mg} (h:ML W A L) (hk:∀m,m∈L->m.1.size<=maxLen) (hl:L.length<=1048576):Calls Tryz.prog 178 #[.slice A L.length c] W fun e w'=>(∃v:Bool,e= .returned (.bool v)/\(v=true↔Rise L))/\Below W.heap.size W w':=by
 obtain ⟨n,hn⟩:∃n,n=L.length:=⟨_,rfl⟩
 have HN:=Lib.hid hn
 have HH:=Lib.hid h
 have HK:=Lib.hid hk
 rw [<-hn] at hl ⊢
 clear h hk hn
 go_enter Tryz.func178,Tryz.ntmps178
 go_wp2_with fail
 go_loopg [3] (n-1) (fun gk iv wr=>∃k:Nat,1<=k/\(k=1\/k<=n)/\gk=n-k/\iv= .int .i64 (k:Int)/\Hid (∀(i:Nat) (a b:Mg),i+1<k->L[i]? =some a->L[i+1]? =some b->cmpB a.1 b.1<0)/\Hid (Below W.heap.size W wr))
 case atStart=>exact ⟨1,Nat.le_refl _, .inl rfl,rfl,rfl,fun i a b hi=>by omega,Below.refl _ _⟩
 case round=>
  obtain ⟨k,hk1,hkn,rfl,rfl,HE,HB⟩:=hrel
  by_cases hlt:k<n
  . obtain ⟨j,hjk⟩:∃j,k=j+1:=⟨k-1,by omega⟩
    have hj:j<L.length:=by rw [<-HN.out];omega
    have hj1:k<L.length:=by rw [<-HN.out];omega
    obtain ⟨x,hx⟩:∃x,x=L[j]:=⟨_,rfl⟩
    obtain ⟨y,hy⟩:∃y,y=L[k]:=⟨_,rfl⟩
    have hx':=nat_len hj
    have hy':=nat_len hj1
    rw [<-hx] at hx'
    rw [<-hy] at hy'
    obtain ⟨b,o,e,hc⟩:=RdK.place (HH.out.kept HB.out) (Nat.lt_of_le_of_lt (Nat.zero_le _) hj)
    subst e
    obtain ⟨c0,-,-⟩:=hc j x hx'
    obtain ⟨c1,-,-⟩:=hc k y hy'
    have cC:=fun w=>Lib.hid (CCmp x.1 y.1 w)
    have HX:=Lib.hid hx'
    have HY:=Lib.hid hy'
    have z0:=fun q:Drift.Tide [] wr []=>Drift.Tide.cell c0 (by simp) q
    have z1:=fun q:Drift.Tide [] wr []=>Drift.Tide.cell c1 (by simp) q
    have hw1:IntKind.i64.wrap ((k:Int)-1)=(j:Int):=by rw [IntKind.wrap_i64];omega
    have hw2:IntKind.i64.wrap ((k:Int)+1)=((k+1:Nat):Int):=by rw [IntKind.wrap_i64];omega
    have HJ:=Lib.hid hjk
    have hjn:j<n:=by omega
    clear hc c0 c1 hx hy hx' hy' hj hj1 hjk
    go_upto_region 4 with fail
    refine Drift.wp_region_drift [] [(0,[]),(1,[]),(2,[]),(3,[]),(4,[]),(5,[]),(6,[]),(7,[]),(8,[]),(9,[]),(10,[]),(11,[]),(12,[])] [] [] (by kernel_rfl) (by kernel_rfl) (by simp) ?_
    simp only [Drift.pick,Drift.opsAt,List.getElem?_toArray,List.getElem?_cons_zero,List.getElem?_cons_succ,List.cons_append,List.nil_append,List.filterMap_nil]
    repeat (refine Drift.walk_step (fun K hK=>?_);go_simp;first|(refine hK _ ?_;clear hK K)|(apply Exists.intro;refine ⟨fun q=>?_,hK _ ?_⟩;(go_at_call 199;exact (cC _).out);clear hK K))
    refine Drift.walk_nil ?_
    intro w2 hb _
    have HB2:=Lib.hid (HB.out.trans (hb.mono HB.out.size))
    clear z0 z1 hw1 hb HB cC
    simp only [List.length_cons,List.length_nil,List.drop_succ_cons,List.drop_nil,Nat.zero_add,Nat.reduceAdd]
    by_cases hcm:cmpB x.1 y.1<0
    . have hd:decide (0<=cmpB x.1 y.1)=false:=by simpa using hcm
      have HE2:Hid (∀(i:Nat) (a b:Mg),i+1<k+1->L[i]? =some a->L[i+1]? =some b->cmpB a.1 b.1<0):=fun i a b hi ha hb=>by
       by_cases e:i=j
       . subst e
         rw [HX.out] at ha
         rw [<-HJ.out,HY.out] at hb
         cases ha
         cases hb
         exact hcm
       . exact HE.out i a b (by have:=HJ.out;omega) ha hb
      generalize cmpB x.1 y.1=z at*
      clear hd
      go_wp2_with fail
      go_roundg (n-(k+1))
      case measure=>omega
      case rel=>exact ⟨k+1,by omega, .inr hlt,rfl,by go_num,HE2,HB2⟩
    . have HN2:Hid (¬Rise L):=fun hr=>hcm (hr j x y HX.out (by rw [<-HJ.out];exact HY.out))
      have hd:0<=cmpB x.1 y.1:=by omega
      clear hcm
      generalize cmpB x.1 y.1=z at*
      go_wp2_with fail
      go_ret
      exact ⟨⟨false,rfl,by simpa using HN2.out⟩,HB2.out⟩
  . have HR:Hid (Rise L):=fun i a b ha hb=>HE.out i a b (by
     have:=(List.getElem?_eq_some_iff.1 hb).1
     rw [<-HN.out] at this
     omega) ha hb
    have hge:n<=k:=by omega
    have hd:decide ((k:Int)<(n:Int))=false:=by simp;omega
    clear hlt
    go_wp2_with fail
    go_ret
    exact ⟨⟨true,rfl,by simpa using HR.out⟩,HB.out⟩
end Bu
end Go.Proofs.YtjpjjnalpdpljaaGreatDoor
namespace Go.Proofs.YtjpjjnalpdpljaaGreatDoor
open Go.RowKit
namespace Lf
open Mem Lx Bu
theorem Right_any {W:World} {A:Option Addr} {c:Nat} {L:List Pr} (h:PL W A L) (hl:L.length<=1048576):Calls Tryz.prog 173 #[.slice A L.length c] W fun e w'=>(∃v:Bool,e= .returned (.bool v)/\(v=true↔PRise L))/\Below W.heap.size W w':=by
 obtain ⟨n,hn⟩:∃n,n=L.length:=⟨_,rfl⟩
 have HN:=Lib.hid hn
 have HH:=Lib.hid h
 rw [<-hn] at hl ⊢
 clear h hn
 go_enter Tryz.func173,Tryz.ntmps173
 go_wp2_with fail
 go_loopg [3] (n-1) (fun gk iv wr=>∃k:Nat,1<=k/\(k=1\/k<=n)/\gk=n-k/\iv= .int .i64 (k:Int)/\Hid (∀(i:Nat) (a b:Pr),i+1<k->L[i]? =some a->L[i+1]? =some b->cmpB a.1 b.1<0)/\Hid (Below W.heap.size W wr))
 case atStart=>exact ⟨1,Nat.le_refl _, .inl rfl,rfl,rfl,fun i a b hi=>by omega,Below.refl _ _⟩
 case round=>
  obtain ⟨k,hk1,hkn,rfl,rfl,HE,HB⟩:=hrel
  by_cases hlt:k<n
  . obtain ⟨j,hjk⟩:∃j,k=j+1:=⟨k-1,by omega⟩
    have hj:j<L.length:=by rw [<-HN.out];omega
    have hj1:k<L.length:=by rw [<-HN.out];omega
    obtain ⟨x,hx⟩:∃x,x=L[j]:=⟨_,rfl⟩
    obtain ⟨y,hy⟩:∃y,y=L[k]:=⟨_,rfl⟩
    have hx':=nat_len hj
    have hy':=nat_len hj1
    rw [<-hx] at hx'
    rw [<-hy] at hy'
    obtain ⟨b,o,e,hc⟩:=RdK.pplace (HH.out.kept HB.out) (Nat.lt_of_le_of_lt (Nat.zero_le _) hj)
    subst e
    obtain ⟨c0,-⟩:=hc j x hx'
    obtain ⟨c1,-⟩:=hc k y hy'
    have cC:=fun w=>Lib.hid (CCmp x.1 y.1 w)
    have HX:=Lib.hid hx'
    have HY:=Lib.hid hy'
    have z0:=fun q:Drift.Tide [] wr []=>Drift.Tide.cell c0 (by simp) q
    have z1:=fun q:Drift.Tide [] wr []=>Drift.Tide.cell c1 (by simp) q
    have hw1:IntKind.i64.wrap ((k:Int)-1)=(j:Int):=by rw [IntKind.wrap_i64];omega
    have hw2:IntKind.i64.wrap ((k:Int)+1)=((k+1:Nat):Int):=by rw [IntKind.wrap_i64];omega
    have HJ:=Lib.hid hjk
    have hjn:j<n:=by omega
    clear hc c0 c1 hx hy hx' hy' hj hj1 hjk
    go_upto_region 4 with fail
    refine Drift.wp_region_drift [] [(0,[]),(1,[]),(2,[]),(3,[]),(4,[]),(5,[]),(6,[]),(7,[]),(8,[]),(9,[]),(10,[]),(11,[]),(12,[])] [] [] (by kernel_rfl) (by kernel_rfl) (by simp) ?_
    simp only [Drift.pick,Drift.opsAt,List.getElem?_toArray,List.getElem?_cons_zero,List.getElem?_cons_succ,List.cons_append,List.nil_append,List.filterMap_nil]
    repeat (refine Drift.walk_step (fun K hK=>?_);go_simp;first|(refine hK _ ?_;clear hK K)|(apply Exists.intro;refine ⟨fun q=>?_,hK _ ?_⟩;(go_at_call 199;exact (cC _).out);clear hK K))
    refine Drift.walk_nil ?_
    intro w2 hb _
    have HB2:=Lib.hid (HB.out.trans (hb.mono HB.out.size))
    clear z0 z1 hw1 hb HB cC
    simp only [List.length_cons,List.length_nil,List.drop_succ_cons,List.drop_nil,Nat.zero_add,Nat.reduceAdd]
    by_cases hcm:cmpB x.1 y.1<0
    . have hd:decide (0<=cmpB x.1 y.1)=false:=by simpa using hcm
      have HE2:Hid (∀(i:Nat) (a b:Pr),i+1<k+1->L[i]? =some a->L[i+1]? =some b->cmpB a.1 b.1<0):=fun i a b hi ha hb=>by
       by_cases e:i=j
       . subst e
         rw [HX.out] at ha
         rw [<-HJ.out,HY.out] at hb
         cases ha
         cases hb
         exact hcm
       . exact HE.out i a b (by have:=HJ.out;omega) ha hb
      generalize cmpB x.1 y.1=z at*
      clear hd
      go_wp2_with fail
      go_roundg (n-(k+1))
      case measure=>omega
      case rel=>exact ⟨k+1,by omega, .inr hlt,rfl,by go_num,HE2,HB2⟩
    . have HN2:Hid (¬PRise L):=fun hr=>hcm (hr j x y HX.out (by rw [<-HJ.out];exact HY.out))
      have hd:0<=cmpB x.1 y.1:=by omega
      clear hcm
      generalize cmpB x.1 y.1=z at*
      go_wp2_with fail
      go_ret
      exact ⟨⟨false,rfl,by simpa using HN2.out⟩,HB2.out⟩
  . have HR:Hid (PRise L):=fun i a b ha hb=>HE.out i a b (by
     have:=(List.getElem?_eq_some_iff.1 hb).1
     rw [<-HN.out] at this
     omega) ha hb
    have hge:n<=k:=by omega
    have hd:decide ((k:Int)<(n:Int))=false:=by simp;omega
    clear hlt
    go_wp2_with fail
    go_ret
    exact ⟨⟨true,rfl,by simpa using HR.out⟩,HB.out⟩
end Lf
end Go.Proofs.YtjpjjnalpdpljaaGreatDoor
namespace Go.Proofs.YtjpjjnalpdpljaaGreatDoor
open Go.RowKit
namespace Lx
theorem All_any (w:World):
 Calls Tryz.prog 106 #[] w fun e w'=>e= .returned (spanV ⟨#[]⟩ ⟨#[]⟩ true)/\Below w.heap.size w w':=by
 go_enter Tryz.func106,Tryz.ntmps106
 go_wp2
 exact bodyPost_ret (v:=spanV ⟨#[]⟩ ⟨#[]⟩ true) (by simp [results,Tryz.results106,go_sem]) rfl ⟨rfl,(Below.refl _ _).alloc (Nat.le_refl _) _⟩
end Lx
end Go.Proofs.YtjpjjnalpdpljaaGreatDoor
namespace Go.Proofs.YtjpjjnalpdpljaaGreatDoor
open Go.RowKit
namespace No
open Mem Lx Bu Lf Fa
open Wd (be val be_length val_be isW St takeS numS zerosS textS spoilS zeroB take_spoilt take_some take_short take_ok spoil_ok)
def rdPr (c:Cfg) (s:St):St × Pr:=
 ((textS (textS (numS (numS s 1).1 2).1 (numS s 1).2 c.key).1 (numS (numS s 1).1 2).2 c.val).1,
  strOf (textS (numS (numS s 1).1 2).1 (numS s 1).2 c.key).2,strOf (textS (textS (numS (numS s 1).1 2).1 (numS s 1).2 c.key).1 (numS (numS s 1).1 2).2 c.val).2)
def rdK (s:St):St × Nat:=numS s 4
def rdPv (c:Cfg) (s:St):St × ByteArray:=((textS (numS s 1).1 (numS s 1).2 c.key).1,strOf (textS (numS s 1).1 (numS s 1).2 c.key).2)
def rdMs (c:Cfg) (s:St):St × (Nat × Mg):=((rdPr c (numS s 1).1).1,(numS s 1).2,(rdPr c (numS s 1).1).2.1,decide ((numS s 1).2=2),(rdPr c (numS s 1).1).2.2)
def prB (c:Cfg) (x:Pr):List UInt8:=pairL c x.1 x.2
def mkL (c:Cfg) (x:Nat × Mg):List UInt8:=be 1 x.1++pairL c x.2.1 x.2.2.2
section
variable {c:Cfg} {s:St}
theorem rdPr_ok (h:s.ok):(rdPr c s).1.ok:=text_ok (text_ok (num_ok (num_ok h _) _) _ _) _ _
theorem rdK_ok (h:s.ok):(rdK s).1.ok:=num_ok h _
theorem rdPv_ok (h:s.ok):(rdPv c s).1.ok:=text_ok (num_ok h _) _ _
theorem rdMs_ok (h:s.ok):(rdMs c s).1.ok:=rdPr_ok (num_ok h _)
theorem sized {t:List UInt8} {n:Nat} (h:t.length=((n:Nat):Int).toNat):(strOf t).size=n:=by
 rw [strOf_size,h]
 rfl
theorem rdPr_inv (h:s.ok) (he:(rdPr c s).1.e=0):s.e=0/\s.b=prB c (rdPr c s).2++(rdPr c s).1.b:=by
 obtain ⟨h1,h2,h3,h4,h5⟩:=text_inv (text_ok (num_ok (num_ok h _) _) _ _) he
 obtain ⟨k1,k2,k3,k4,k5⟩:=text_inv (num_ok (num_ok h _) _) h1
 obtain ⟨m1,m2,m3⟩:=num_inv (w:=2) (num_ok h _) rfl k1
 obtain ⟨n1,n2,n3⟩:=num_inv (w:=1) h rfl m1
 refine ⟨n1,?_⟩
 unfold prB pairL rdPr
 simp only
 rw [sized k4,sized h4,txt_strOf,txt_strOf]
 simp only [List.append_assoc]
 rw [<-h5,<-k5]
 have e3:s.b=be 1 (numS s 1).2++(numS s 1).1.b:=n2
 have e4:(numS s 1).1.b=be 2 (numS (numS s 1).1 2).2++(numS (numS s 1).1 2).1.b:=m2
 rw [e3,e4]
theorem rdK_inv (h:s.ok) (he:(rdK s).1.e=0):s.e=0/\s.b=be 4 (rdK s).2++(rdK s).1.b:=by
 obtain ⟨h1,h2,-⟩:=num_inv (w:=4) h rfl he
 exact ⟨h1,h2⟩
theorem rdPv_inv (h:s.ok) (he:(rdPv c s).1.e=0):s.e=0/\s.b=pvL c (rdPv c s).2++(rdPv c s).1.b:=by
 obtain ⟨k1,k2,k3,k4,k5⟩:=text_inv (num_ok h _) he
 obtain ⟨n1,n2,n3⟩:=num_inv (w:=1) h rfl k1
 refine ⟨n1,?_⟩
 unfold pvL rdPv
 simp only
 rw [sized k4,txt_strOf,List.append_assoc,<-k5]
 exact n2
theorem rdMs_inv (h:s.ok) (he:(rdMs c s).1.e=0):s.e=0/\s.b=mkL c (rdMs c s).2++(rdMs c s).1.b:=by
 obtain ⟨h1,h2⟩:=rdPr_inv (c:=c) (num_ok h _) he
 obtain ⟨n1,n2,-⟩:=num_inv (w:=1) h rfl h1
 refine ⟨n1,?_⟩
 have h3:s.b=be 1 (numS s 1).2++(numS s 1).1.b:=n2
 rw [h3,h2]
 unfold mkL rdMs prB
 simp
theorem rdPr_fwd {x:Pr} {R:List UInt8} (h1:x.1.size<256) (h2:x.2.size<65536) (h3:(x.1.size:Int)<=c.key) (h4:(x.2.size:Int)<=c.val):rdPr c ⟨prB c x++R,0⟩=(⟨R,0⟩,x):=by
 unfold prB pairL rdPr
 simp only [List.append_assoc]
 have e1:∀R,numS ⟨be 1 x.1.size++R,0⟩ 1=(⟨R,0⟩,x.1.size):=fun R=>num_fwd (w:=1) rfl (by omega)
 have e2:∀R,numS ⟨be 2 x.2.size++R,0⟩ 2=(⟨R,0⟩,x.2.size):=fun R=>num_fwd (w:=2) rfl (by omega)
 have e3:∀R,textS ⟨slotL (txt x.1) c.key++R,0⟩ (x.1.size:Int) c.key=(⟨R,0⟩,txt x.1):=fun R=>text_fwd (by rw [txt_len]) h3
 have e4:∀R,textS ⟨slotL (txt x.2) c.val++R,0⟩ (x.2.size:Int) c.val=(⟨R,0⟩,txt x.2):=fun R=>text_fwd (by rw [txt_len]) h4
 rw [e1]
 simp only
 rw [e2]
 simp only
 rw [e3]
 simp only
 rw [e4]
 rfl
theorem rdK_fwd {x:Nat} {R:List UInt8} (h:x<4294967296):rdK ⟨be 4 x++R,0⟩=(⟨R,0⟩,x):=num_fwd (w:=4) rfl (by omega)
theorem rdPv_fwd {x:ByteArray} {R:List UInt8} (h1:x.size<256) (h3:(x.size:Int)<=c.key):rdPv c ⟨pvL c x++R,0⟩=(⟨R,0⟩,x):=by
 unfold pvL rdPv
 simp only [List.append_assoc]
 have e1:∀R,numS ⟨be 1 x.size++R,0⟩ 1=(⟨R,0⟩,x.size):=fun R=>num_fwd (w:=1) rfl (by omega)
 have e3:∀R,textS ⟨slotL (txt x) c.key++R,0⟩ (x.size:Int) c.key=(⟨R,0⟩,txt x):=fun R=>text_fwd (by rw [txt_len]) h3
 rw [e1]
 simp only
 rw [e3]
 rfl
theorem rdMs_fwd {x:Nat × Mg} {R:List UInt8} (h0:x.1<256) (hd:x.2.2.1=decide (x.1=2)) (h1:x.2.1.size<256) (h2:x.2.2.2.size<65536) (h3:(x.2.1.size:Int)<=c.key) (h4:(x.2.2.2.size:Int)<=c.val):rdMs c ⟨mkL c x++R,0⟩=(⟨R,0⟩,x):=by
 obtain ⟨mk,key,del,v⟩:=x
 simp only at h0 hd h1 h2 h3 h4
 rw [hd]
 have e1:∀R,numS ⟨be 1 mk++R,0⟩ 1=(⟨R,0⟩,mk):=fun R=>num_fwd (w:=1) rfl (by omega)
 have e2:rdPr c ⟨pairL c key v++R,0⟩=(⟨R,0⟩,(key,v)):=rdPr_fwd (x:=(key,v)) h1 h2 h3 h4
 unfold mkL rdMs
 simp only [List.append_assoc]
 rw [e1]
 simp only
 rw [e2]
end
end No
end Go.Proofs.YtjpjjnalpdpljaaGreatDoor
