import Derived.Test.YtjpjjnalpdpljaaGreatDoorPkBB
import Derived.Test.YtjpjjnalpdpljaaGreatDoorPkAD
import Derived.Test.YtjpjjnalpdpljaaGreatDoorPkAE
import Derived.Test.YtjpjjnalpdpljaaGreatDoorPqDrift
import Derived.Test.YtjpjjnalpdpljaaGreatDoorPkAK
import Derived.Test.YtjpjjnalpdpljaaGreatDoorPkBA
import Derived.Test.YtjpjjnalpdpljaaGreatDoorPkAC
import Derived.Test.YtjpjjnalpdpljaaGreatDoorPkAW
set_option maxHeartbeats 4000000
set_option maxRecDepth 100000
namespace Go.Proofs.YtjpjjnalpdpljaaGreatDoor
open Go.RowKit
namespace No
open Mem Lx Bu Lf Fa
open Wd (be val be_length val_be isW St takeS numS zerosS textS spoilS zeroB)
def hMark (s:St):Nat:=(numS s 1).2
def hLv (s:St):Nat:=(numS (numS s 1).1 1).2
def hParts (s:St):Nat:=(numS (numS (numS s 1).1 1).1 2).2
def hMsgs (s:St):Nat:=(numS (numS (numS (numS s 1).1 1).1 2).1 2).2
def hSt (s:St):St:=zerosS (numS (numS (numS (numS s 1).1 1).1 2).1 2).1 2
def Room (c:Cfg) (lv parts msgs:Nat):Prop:=(lv=0/\(parts:Int)<=c.leaf/\msgs=0)\/(lv≠0/\1<=parts/\(parts:Int)<=c.fan/\(msgs:Int)<=c.buffer)
def HeadOk (c:Cfg) (s:St):Prop:=hMark s=(if hLv s=0 then 1 else 2)/\Room c (hLv s) (hParts s) (hMsgs s)
def oQ (c:Cfg) (s:St):St × List Pr:=rdS (rdPr c) (hParts s) (hSt s)
def iK (s:St):St × List Nat:=rdS rdK (hParts s) (hSt s)
def iZ1 (c:Cfg) (s:St):St:=zerosS (iK s).1 (4*(c.fan-hParts s))
def iP (c:Cfg) (s:St):St × List ByteArray:=rdS (rdPv c) (hParts s-1) (iZ1 c s)
def iZ2 (c:Cfg) (s:St):St:=zerosS (iP c s).1 ((1+c.key)*(c.fan-1-((hParts s-1:Nat):Int)))
def iM (c:Cfg) (s:St):St × List (Nat × Mg):=rdS (rdMs c) (hMsgs s) (iZ2 c s)
def NdP (c:Cfg) (s:St) (n:Nd) (s':St):Prop:=HeadOk c s/\
 ((hLv s=0/\n=⟨0,[],[],[],(oQ c s).2⟩/\s'=(oQ c s).1)\/
  (hLv s≠0/\n=⟨hLv s,(iK s).2,(iP c s).2,(iM c s).2.map (·.2),[]⟩/\s'=(iM c s).1/\∀x∈(iM c s).2,x.1=1\/x.1=2))
theorem NdP.one {c:Cfg} {s s1 s2:St} {n m:Nd} (h:NdP c s n s1) (k:NdP c s m s2):n=m/\s1=s2:=by
 obtain ⟨-,h⟩:=h
 obtain ⟨-,k⟩:=k
 rcases h with ⟨h1,h2,h3⟩|⟨h1,h2,h3,-⟩<;>rcases k with ⟨k1,k2,k3⟩|⟨k1,k2,k3,-⟩
 . exact ⟨h2.trans k2.symm,h3.trans k3.symm⟩
 . exact absurd h1 k1
 . exact absurd k1 h1
 . exact ⟨h2.trans k2.symm,h3.trans k3.symm⟩
section
variable {s:St}
theorem hSt_ok (h:s.ok):(hSt s).ok:=zeros_ok (num_ok (num_ok (num_ok (num_ok h _) _) _) _) _
theorem hd_inv (h:s.ok) (he:(hSt s).e=0):s.b=be 1 (hMark s)++(be 1 (hLv s)++(be 2 (hParts s)++(be 2 (hMsgs s)++(zs 2++(hSt s).b)))):=by
 obtain ⟨h1,h2⟩:=zeros_inv (num_ok (num_ok (num_ok (num_ok h _) _) _) _) (by decide) he
 obtain ⟨k1,k2,-⟩:=num_inv (w:=2) (num_ok (num_ok (num_ok h _) _) _) rfl h1
 obtain ⟨m1,m2,-⟩:=num_inv (w:=2) (num_ok (num_ok h _) _) rfl k1
 obtain ⟨n1,n2,-⟩:=num_inv (w:=1) (num_ok h _) rfl m1
 obtain ⟨-,o2,-⟩:=num_inv (w:=1) h rfl n1
 have e1:s.b=be 1 (hMark s)++(numS s 1).1.b:=o2
 have e2:(numS s 1).1.b=be 1 (hLv s)++(numS (numS s 1).1 1).1.b:=n2
 have e3:(numS (numS s 1).1 1).1.b=be 2 (hParts s)++(numS (numS (numS s 1).1 1).1 2).1.b:=m2
 have e4:(numS (numS (numS s 1).1 1).1 2).1.b=be 2 (hMsgs s)++(numS (numS (numS (numS s 1).1 1).1 2).1 2).1.b:=k2
 have e5:(numS (numS (numS (numS s 1).1 1).1 2).1 2).1.b=zs 2++(hSt s).b:=h2
 rw [e1,e2,e3,e4,e5]
theorem hd_fwd {mk lv np nm:Nat} {R:List UInt8} (h1:mk<256) (h2:lv<256) (h3:np<65536) (h4:nm<65536):∀s:St,s=⟨be 1 mk++(be 1 lv++(be 2 np++(be 2 nm++(zs 2++R)))),0⟩->hMark s=mk/\hLv s=lv/\hParts s=np/\hMsgs s=nm/\hSt s=⟨R,0⟩:=by
 rintro s rfl
 have e1:∀v R,v<256->numS ⟨be 1 v++R,0⟩ 1=(⟨R,0⟩,v):=fun v R h=>num_fwd (w:=1) rfl (by omega)
 have e2:∀v R,v<65536->numS ⟨be 2 v++R,0⟩ 2=(⟨R,0⟩,v):=fun v R h=>num_fwd (w:=2) rfl (by omega)
 have e3:zerosS ⟨zs 2++R,0⟩ 2=⟨R,0⟩:=zeros_fwd (by decide)
 unfold hMark hLv hParts hMsgs hSt
 rw [e1 _ _ h1]
 simp only
 rw [e1 _ _ h2]
 simp only
 rw [e2 _ _ h3]
 simp only
 rw [e2 _ _ h4]
 simp only
 exact ⟨trivial,trivial,trivial,trivial,e3⟩
end
theorem slot_of {b x:List UInt8} {k:Nat} {m:Int} (h:b=x++zs k) (hb:b.length=m.toNat) (hm:0<=m):slotL x m=b:=by
 unfold slotL
 rw [h]
 congr 2
 have:=congrArg List.length h
 rw [List.length_append,zs_len] at this
 omega
theorem rest_zs {s:St} (h:s.ok) (he:(zerosS s s.b.length).e=0):s.e=0/\s.b=zs s.b.length:=by
 obtain ⟨h1,h2⟩:=zeros_inv h (by omega) he
 refine ⟨h1,?_⟩
 have h3:=congrArg List.length h2
 rw [List.length_append,zs_len] at h3
 have h4:(zerosS s s.b.length).b=[]:=List.eq_nil_of_length_eq_zero (by omega)
 rw [h4,List.append_nil] at h2
 exact h2
theorem mk_ms (c:Cfg) {x:Nat × Mg} (h:x.1=1\/x.1=2) (hd:x.2.2.1=decide (x.1=2)):mkL c x=msL c x.2:=by
 unfold mkL msL
 rw [hd]
 rcases h with h|h<;>rw [h]<;>rfl
theorem nd_sound {c:Cfg} {F Bf Lf K V:Nat} (hs:SetOk c F Bf Lf K V) {b:List UInt8} {n:Nd} {s':St} (hb:b.length=c.bytes.toNat) (h:NdP c ⟨b,0⟩ n s') (hz:(zerosS s' s'.b.length).e=0):blockL c n=b:=by
 have hok:St.ok ⟨b,0⟩:=fun h=>absurd rfl h
 have hY:=hs.bytes
 obtain ⟨⟨hmk,hroom⟩,h⟩:=h
 rcases h with ⟨h0,rfl,rfl⟩|⟨h0,rfl,rfl,hM⟩
 . rcases hroom with ⟨-,-,hm⟩|⟨hr,-⟩
   . obtain ⟨h1,h2⟩:=rest_zs (rdS_ok (fun s=>rdPr_ok) (hSt_ok hok) _) hz
     obtain ⟨h3,h4,-⟩:=rdS_inv (g:=prB c) (P:=fun _=>True) (fun s=>rdPr_ok) (fun s h he=>⟨(rdPr_inv h he).1,(rdPr_inv h he).2,trivial⟩) (hSt_ok hok) h1
     have h5:=hd_inv hok h3
     rw [if_pos h0] at hmk
     have h4':(hSt ⟨b,0⟩).b=(oQ c ⟨b,0⟩).2.flatMap (prB c)++(oQ c ⟨b,0⟩).1.b:=h4
     have h2':(oQ c ⟨b,0⟩).1.b=zs (oQ c ⟨b,0⟩).1.b.length:=h2
     rw [hmk,h0,hm,h4',h2'] at h5
     have hlen:(oQ c ⟨b,0⟩).2.length=hParts ⟨b,0⟩:=rdS_len _ _
     rw [<-hlen] at h5
     show slotL (bodyL c _) c.bytes=b
     unfold bodyL
     rw [if_pos rfl]
     refine slot_of (k:=(oQ c ⟨b,0⟩).1.b.length) ?_ hb (by omega)
     have h6:b=be 1 1++(be 1 0++(be 2 (oQ c ⟨b,0⟩).2.length++(be 2 0++(zs 2++((oQ c ⟨b,0⟩).2.flatMap (prB c)++zs (oQ c ⟨b,0⟩).1.b.length))))):=h5
     unfold leafL
     have e1:be 1 1=[1]:=by decide
     have e2:be 1 0=[0]:=by decide
     have e3:be 2 0=[0,0]:=by decide
     have e4:zs 2=[0,0]:=by decide
     have e5:zs 4=[0,0,0,0]:=by decide
     rw [e1,e2,e3,e4] at h6
     rw [e5]
     refine h6.trans ?_
     simp only [List.append_assoc,List.cons_append,List.nil_append]
     rfl
   . exact absurd h0 hr
 . rcases hroom with ⟨hr,-⟩|⟨-,hp1,hp2,-⟩
   . exact absurd hr h0
   . have hfan:=hs.fan
     have hkey:=hs.key
     have hFb:=hs.f
     have okK:(iK ⟨b,0⟩).1.ok:=rdS_ok (fun s=>rdK_ok) (hSt_ok hok) _
     have okZ1:(iZ1 c ⟨b,0⟩).ok:=zeros_ok okK _
     have okP:(iP c ⟨b,0⟩).1.ok:=rdS_ok (fun s=>rdPv_ok) okZ1 _
     have okZ2:(iZ2 c ⟨b,0⟩).ok:=zeros_ok okP _
     obtain ⟨h1,h2⟩:=rest_zs (rdS_ok (fun s=>rdMs_ok) okZ2 _) hz
     obtain ⟨m1,m2,m3⟩:=rdS_inv (g:=mkL c) (P:=fun x=>x.2.2.1=decide (x.1=2)) (fun s=>rdMs_ok) (fun s h he=>⟨(rdMs_inv h he).1,(rdMs_inv h he).2,rfl⟩) okZ2 h1
     obtain ⟨z1,z2⟩:=zeros_inv okP (Int.mul_nonneg (by omega) (by omega)) m1
     obtain ⟨p1,p2,-⟩:=rdS_inv (g:=pvL c) (P:=fun _=>True) (fun s=>rdPv_ok) (fun s h he=>⟨(rdPv_inv h he).1,(rdPv_inv h he).2,trivial⟩) okZ1 z1
     obtain ⟨y1,y2⟩:=zeros_inv okK (by omega) p1
     obtain ⟨k1,k2,-⟩:=rdS_inv (g:=be 4) (P:=fun _=>True) (fun s=>rdK_ok) (fun s h he=>⟨(rdK_inv h he).1,(rdK_inv h he).2,trivial⟩) (hSt_ok hok) y1
     have h5:=hd_inv hok k1
     rw [if_neg h0] at hmk
     have k2':(hSt ⟨b,0⟩).b=(iK ⟨b,0⟩).2.flatMap (be 4)++(iK ⟨b,0⟩).1.b:=k2
     have y2':(iK ⟨b,0⟩).1.b=zs (4*(c.fan-hParts ⟨b,0⟩))++(iZ1 c ⟨b,0⟩).b:=y2
     have p2':(iZ1 c ⟨b,0⟩).b=(iP c ⟨b,0⟩).2.flatMap (pvL c)++(iP c ⟨b,0⟩).1.b:=p2
     have z2':(iP c ⟨b,0⟩).1.b=zs ((1+c.key)*(c.fan-1-((hParts ⟨b,0⟩-1:Nat):Int)))++(iZ2 c ⟨b,0⟩).b:=z2
     have m2':(iZ2 c ⟨b,0⟩).b=(iM c ⟨b,0⟩).2.flatMap (mkL c)++(iM c ⟨b,0⟩).1.b:=m2
     have hfm:(iM c ⟨b,0⟩).2.flatMap (mkL c)=((iM c ⟨b,0⟩).2.map (·.2)).flatMap (msL c):=by
      rw [List.flatMap_map]
      have h9:∀L:List (Nat × Mg),(∀x∈L,x.1=1\/x.1=2)->(∀x∈L,x.2.2.1=decide (x.1=2))->L.flatMap (mkL c)=L.flatMap (fun x=>msL c x.2):=by
       intro L
       induction L with
       |nil=>intro _ _;rfl
       |cons x L ih=>
        intro h1 h2
        rw [List.flatMap_cons,List.flatMap_cons,ih (fun y hy=>h1 y (List.mem_cons_of_mem _ hy)) (fun y hy=>h2 y (List.mem_cons_of_mem _ hy)),mk_ms c (h1 x List.mem_cons_self) (h2 x List.mem_cons_self)]
      exact h9 _ hM m3
     have h2':(iM c ⟨b,0⟩).1.b=zs (iM c ⟨b,0⟩).1.b.length:=h2
     rw [hmk,k2',y2',p2',z2',m2',h2',hfm] at h5
     have hlk:(iK ⟨b,0⟩).2.length=hParts ⟨b,0⟩:=rdS_len _ _
     have hlp:(iP c ⟨b,0⟩).2.length=hParts ⟨b,0⟩-1:=rdS_len _ _
     have hlm:((iM c ⟨b,0⟩).2.map (·.2)).length=hMsgs ⟨b,0⟩:=by
      rw [List.length_map]
      exact rdS_len _ _
     rw [<-hlm,<-hlp,<-hlk] at h5
     show slotL (bodyL c _) c.bytes=b
     unfold bodyL
     rw [if_neg (by simp only;omega)]
     refine slot_of (k:=(iM c ⟨b,0⟩).1.b.length) ?_ hb (by omega)
     have e1:be 1 2=[2]:=by decide
     have h6:=h5
     rw [e1] at h6
     unfold innL
     simp only [Int.toNat_natCast]
     refine Eq.trans (show b=_ from h6) ?_
     simp only [List.append_assoc]
theorem nd_complete {c:Cfg} {m:Nd} (hr:RightA c m):∃s',NdP c ⟨blockL c m,0⟩ m s'/\(zerosS s' s'.b.length).e=0:=by
 obtain ⟨F,Bf,Lf,K,V,hs⟩:=set_ok hr.1
 have hY:=hs.bytes
 have hfan:=hs.fan
 have hkey:=hs.key
 have hval:=hs.val
 have hK:=hs.k
 have hV:=hs.v
 have hF:=hs.f
 have hB:=hs.b
 have hL:=hs.l
 have zdone:∀k:Int,(zerosS ⟨zs k,0⟩ ((zs k).length:Int)).e=0:=fun k=>by
  have h9:=zeros_fwd (n:=((zs k).length:Int)) (R:=[]) (by omega)
  have h8:zs (((zs k).length:Nat):Int)=zs k:=by
   rw [zs_len]
   unfold zs
   congr 1
  rw [List.append_nil,h8] at h9
  rw [h9]
 by_cases h0:m.lv=0
 . have hP:=hr.2.1 h0
   obtain ⟨hlen,hq⟩:=leaf_len hs hP
   obtain ⟨lv,Ks,P,Bu,Q⟩:=m
   obtain rfl:lv=0:=h0
   obtain rfl:Ks=[]:=List.eq_nil_of_length_eq_zero hP.kids
   obtain rfl:P=[]:=List.eq_nil_of_length_eq_zero hP.piv
   obtain rfl:Bu=[]:=List.eq_nil_of_length_eq_zero hP.buf
   obtain ⟨Z,hZ⟩:∃Z,Z=c.bytes-(leafL c ⟨0,[],[],[],Q⟩).length:=⟨_,rfl⟩
   have eb:(⟨blockL c ⟨0,[],[],[],Q⟩,0⟩:St)=⟨be 1 1++(be 1 0++(be 2 Q.length++(be 2 0++(zs 2++(Q.flatMap (prB c)++zs Z))))),0⟩:=by
    congr 1
    show slotL (bodyL c _) c.bytes=_
    unfold bodyL
    rw [if_pos rfl]
    unfold slotL
    rw [<-hZ]
    unfold leafL
    have e1:be 1 1=[1]:=by decide
    have e2:be 1 0=[0]:=by decide
    have e3:be 2 0=[0,0]:=by decide
    have e4:zs 2=[0,0]:=by decide
    have e5:zs 4=[0,0,0,0]:=by decide
    rw [e1,e2,e3,e4,e5]
    simp only [List.append_assoc,List.cons_append,List.nil_append]
    rfl
   have hq2:Q.length<=Lf:=hq
   obtain ⟨g1,g2,g3,g4,g5⟩:=hd_fwd (by decide) (by decide) (by omega) (by decide) _ eb
   have hrd:oQ c ⟨blockL c ⟨0,[],[],[],Q⟩,0⟩=(⟨zs Z,0⟩,Q):=by
    unfold oQ
    rw [g3,g5]
    refine rdS_fwd fun x hx R=>?_
    obtain ⟨k1,-,k3⟩:=hP.each x hx
    have k2:=(keyB_le k1).2
    exact rdPr_fwd (by omega) (by omega) k2 k3
   refine ⟨⟨zs Z,0⟩,⟨⟨by rw [g1,g2];rfl, .inl ⟨g2,by rw [g3];exact hP.few,g4⟩⟩, .inl ⟨g2,by rw [hrd],by rw [hrd]⟩⟩,zdone Z⟩
 . obtain ⟨hl0,hP⟩:=hr.2.2 h0
   obtain ⟨lv',hlv⟩:∃l:Nat,m.lv=l:=⟨m.lv.toNat,by omega⟩
   have hlv40:=hP.lv
   have hkf:=hP.fan
   have hkp:=hP.fewer
   have hk1:=hP.one
   have hbf:=hP.few
   have hbu:=hs.buffer
   obtain ⟨lv,Ks,P,Bu,Q⟩:=m
   obtain rfl:Q=[]:=List.eq_nil_of_length_eq_zero hP.prs
   obtain rfl:lv=(lv':Int):=hlv
   simp only at hkf hkp hk1 hbf h0 hl0 hlv40
   obtain ⟨Z,hZ⟩:∃Z,Z=c.bytes-(innL c ⟨(lv':Int),Ks,P,Bu,[]⟩).length:=⟨_,rfl⟩
   obtain ⟨M,hM⟩:∃M:List (Nat × Mg),M=Bu.map fun x=>((kindB x.2.1).toNat,x):=⟨_,rfl⟩
   have hM2:M.map (·.2)=Bu:=by
    rw [hM,List.map_map]
    exact List.map_id' _
   have hMm:∀x∈M,(x.1=1\/x.1=2)/\x.2.2.1=decide (x.1=2)/\x.2∈Bu:=fun x hx=>by
    rw [hM] at hx
    obtain ⟨y,hy,rfl⟩:=List.mem_map.1 hx
    obtain ⟨key,del,v⟩:=y
    cases del
    . exact ⟨.inl rfl,rfl,hy⟩
    . exact ⟨.inr rfl,rfl,hy⟩
   have hMl:M.length=Bu.length:=by rw [hM,List.length_map]
   have hMf:M.flatMap (mkL c)=Bu.flatMap (msL c):=by
    rw [hM,List.flatMap_map]
    congr 1
    funext x
    obtain ⟨key,del,v⟩:=x
    cases del<;>rfl
   have eb:(⟨blockL c ⟨(lv':Int),Ks,P,Bu,[]⟩,0⟩:St)=⟨be 1 2++(be 1 lv'++(be 2 Ks.length++(be 2 Bu.length++(zs 2++(Ks.flatMap (be 4)++(zs (4*(c.fan-Ks.length))++(P.flatMap (pvL c)++(zs ((1+c.key)*(c.fan-1-P.length))++(M.flatMap (mkL c)++zs Z))))))))),0⟩:=by
    congr 1
    show slotL (bodyL c _) c.bytes=_
    unfold bodyL
    rw [if_neg (by simpa using h0)]
    unfold slotL
    rw [<-hZ,hMf]
    unfold innL
    have e1:be 1 2=[2]:=by decide
    rw [e1]
    simp only [List.append_assoc,Int.toNat_natCast]
   obtain ⟨g1,g2,g3,g4,g5⟩:=hd_fwd (by decide) (by omega) (by omega) (by omega) _ eb
   have hl:lv'≠0:=by omega
   have rK:iK ⟨blockL c ⟨(lv':Int),Ks,P,Bu,[]⟩,0⟩=(⟨zs (4*(c.fan-Ks.length))++(P.flatMap (pvL c)++(zs ((1+c.key)*(c.fan-1-P.length))++(M.flatMap (mkL c)++zs Z))),0⟩,Ks):=by
    unfold iK
    rw [g3,g5]
    refine rdS_fwd fun x hx R=>?_
    obtain ⟨i,hi⟩:=List.getElem?_of_mem hx
    have:=(hP.kids i x hi).1.2
    have:=hs.blocks
    exact rdK_fwd (by omega)
   have rZ1:iZ1 c ⟨blockL c ⟨(lv':Int),Ks,P,Bu,[]⟩,0⟩=⟨P.flatMap (pvL c)++(zs ((1+c.key)*(c.fan-1-P.length))++(M.flatMap (mkL c)++zs Z)),0⟩:=by
    unfold iZ1
    rw [rK,g3]
    exact zeros_fwd (by omega)
   have rP:iP c ⟨blockL c ⟨(lv':Int),Ks,P,Bu,[]⟩,0⟩=(⟨zs ((1+c.key)*(c.fan-1-P.length))++(M.flatMap (mkL c)++zs Z),0⟩,P):=by
    unfold iP
    rw [rZ1,g3,show Ks.length-1=P.length by omega]
    refine rdS_fwd fun x hx R=>?_
    have k2:=(keyB_le (hP.piv x hx)).2
    exact rdPv_fwd (by omega) k2
   have rZ2:iZ2 c ⟨blockL c ⟨(lv':Int),Ks,P,Bu,[]⟩,0⟩=⟨M.flatMap (mkL c)++zs Z,0⟩:=by
    unfold iZ2
    rw [rP,g3,show Ks.length-1=P.length by omega]
    exact zeros_fwd (Int.mul_nonneg (by omega) (by omega))
   have rM:iM c ⟨blockL c ⟨(lv':Int),Ks,P,Bu,[]⟩,0⟩=(⟨zs Z,0⟩,M):=by
    unfold iM
    rw [rZ2,g4,<-hMl]
    refine rdS_fwd fun x hx R=>?_
    obtain ⟨q1,q2,q3⟩:=hMm x hx
    obtain ⟨k1,-,k3,-⟩:=hP.buf x.2 q3
    have k2:=(keyB_le k1).2
    exact rdMs_fwd (by omega) q2 (by omega) (by omega) k2 k3
   refine ⟨⟨zs Z,0⟩,⟨⟨by rw [g1,g2,if_neg hl], .inr ⟨by rw [g2];exact hl,by rw [g3];exact hk1,by rw [g3];exact hkf,by rw [g4];exact hbf⟩⟩, .inr ⟨by rw [g2];exact hl,by rw [g2,rK,rP,rM,hM2],by rw [rM],by rw [rM];exact fun x hx=>(hMm x hx).1⟩⟩,zdone Z⟩
end No
end Go.Proofs.YtjpjjnalpdpljaaGreatDoor
namespace Go.Proofs.YtjpjjnalpdpljaaGreatDoor
open Go.RowKit
namespace No
open Mem Lx Bu Lf Fa
open Wd (be val be_length val_be isW St takeS numS zerosS textS Only Rd)
def rdrCs (c:Cfg) (q:Nat):Array Value:= #[.int .i64 c.blocks, .int .i64 c.bytes, .int .i64 c.frames, .int .i64 c.fan, .int .i64 c.buffer, .int .i64 c.leaf, .int .i64 c.key, .int .i64 c.val, .pointer (some ⟨q,0,none⟩)]
theorem box9 {w:World} {b:Nat} {v0 v1 v2 v3 v4 v5 v6 v7 v8:Value} {U:TypeId} (h:w.heap[b]? =some (.cells #[v0,v1,v2,v3,v4,v5,v6,v7,v8] U (0,0))):w.cell? ⟨b,0,none⟩=some v0/\w.cell? ⟨b,1,none⟩=some v1/\w.cell? ⟨b,2,none⟩=some v2/\w.cell? ⟨b,3,none⟩=some v3/\w.cell? ⟨b,4,none⟩=some v4/\w.cell? ⟨b,5,none⟩=some v5/\w.cell? ⟨b,6,none⟩=some v6/\w.cell? ⟨b,7,none⟩=some v7/\w.cell? ⟨b,8,none⟩=some v8:=by
 simp [World.cell?,h]
structure Lb {α:Type} (K:Kind α) (c:Cfg) (W:World) (g q:Nat) (A:Option Addr) (cc:Nat) (L:List α) (w:World):Prop where
 box:w.heap[g]? =some (.cells (rdrCs c q) 148 (0,0))
 vk:VK K w (g+1) A cc L
 only:Only q W w
 size:g+1<=w.heap.size
 lt:q<W.heap.size
 ge:W.heap.size<=g
section
variable {α:Type} {K:Kind α} {c:Cfg} {W w w':World} {g q cc c':Nat} {A A':Option Addr} {L L':List α} {s:St}
theorem Lb.only_ (h:Lb K c W g q A cc L w) (ho:Only q w w'):Lb K c W g q A cc L w':=by
 have h1:=h.lt
 have h2:=h.size
 have h0:=h.ge
 refine ⟨(ho.block _ (by omega) ?_).trans h.box,h.vk.into ho fun a ha hm=>?_,h.only.trans ho,Nat.le_trans h2 ho.size,h1,h0⟩
 . simp only [List.mem_singleton]
   omega
 . have h3:=(h.vk.at_ a ha).1
   simp only [List.mem_singleton] at hm
   omega
theorem Lb.kept (h:Lb K c W g q A cc L w) (hb:Below w.heap.size w w'):Lb K c W g q A cc L w':=h.only_ (Wd.Only.of_below hb)
theorem Lb.app (h:Lb K c W g q A cc L w) (hd:AppW K (g+1) w w' A A' c' L'):Lb K c W g q A' c' L' w':=
 ⟨(hd.below.block _ (Nat.lt_succ_self _)).trans h.box,hd.vo,⟨hd.below.os.trans h.only.os,hd.below.tape.trans h.only.tape,hd.below.output.trans h.only.output,Nat.le_trans h.only.size hd.below.size,fun k hk hn=>(hd.below.block k (Nat.lt_of_lt_of_le hk (Nat.le_trans h.ge (Nat.le_succ g)))).trans (h.only.block k hk hn)⟩,Nat.le_trans h.size hd.below.size,h.lt,h.ge⟩
theorem rd_app (hr:Rd 175 w q s) (h:Lb K c W g q A cc L w) (hd:AppW K (g+1) w w' A A' c' L') (hT:K.T≠5):Rd 175 w' q s:=by
 obtain ⟨A1,c1,h1,h2,h3,h4,h5⟩:=hr
 have hq:=h.lt
 have hg:=h.ge
 refine ⟨A1,c1,(hd.below.block q (by omega)).trans h1,?_,h3,h4,h5⟩
 have hk:∀a,A1=some a->0<s.b.length->w'.heap[a.block]? =w.heap[a.block]? :=fun a ha hl=>by
  obtain ⟨C,hC⟩:=h2.2 hl a ha
  refine hd.block _ (Array.getElem?_eq_some_iff.1 hC).1 fun a' ha' e=>?_
  rcases h.vk.2 with ⟨h6,-⟩|⟨g',cap,cur,he,-,hh,-⟩
  . rw [ha'] at h6
    cases h6
  . rw [ha'] at he
    cases he
    simp only at e
    rw [e] at hh
    rw [hC] at hh
    simp only [Option.some.injEq,Obj.cells.injEq] at hh
    exact hT hh.2.1.symm
 refine ⟨⟨h2.1.1.keep fun hl a ha=>hk a ha hl,h2.1.2⟩,fun hl a ha=>?_⟩
 obtain ⟨C,hC⟩:=h2.2 hl a ha
 exact ⟨C,(hk a ha hl).trans hC⟩
end
theorem AppW.of {α:Type} {K:Kind α} {B c':Nat} {w w':World} {A A':Option Addr} {L:List α} (hd:AppdK K B w w' A A' c' L):AppW K B w w' A A' c' L:=⟨hd.vo,hd.below,hd.block,fun a' ha'=>by
 rcases hd.row a' ha' with h1|h1
 . exact .inl h1
 . exact .inr (Nat.le_of_eq h1.symm)⟩
def EvI (w0:World) (q:Nat) (x:Nat) (s:St) (v:Value) (w:World):Prop:=v= .int .i64 (x:Int)/\Rd 175 w q s/\Only q w0 w
def EvT (w0:World) (q:Nat) (x:ByteArray) (s:St) (v:Value) (w:World):Prop:=v= .string x/\Rd 175 w q s/\Only q w0 w
theorem RdNum_any (c:Cfg) {w:World} {q:Nat} {s:St} (h:Rd 175 w q s) (wd:Nat) (hw:isW (wd:Int)=true) (h4:wd<=4):Calls Tryz.prog 137 #[.agg (rdrCs c q), .int .i64 (wd:Int)] w fun e w'=>e= .returned (.int .i64 ((numS s wd).2:Int))/\Rd 175 w' q (numS s wd).1/\Only q w w':=by
 have hlt:=num_lt s hw h4
 have cN:=fun w h=>Lib.hid (Wd.Num_any q s (wd:Int) w h)
 generalize (numS s (wd:Int)).2=x at*
 generalize (numS s (wd:Int)).1=s1 at*
 have hc:IntKind.i64.wrap (x:Int)=(x:Int):=by rw [IntKind.wrap_i64];omega
 have HR:=Lib.hid h
 obtain ⟨cB,cY,cF,cN',cU,cL,cKy,cV⟩:=c
 unfold rdrCs
 clear h hlt hw h4
 go_enter Tryz.func137,Tryz.ntmps137
 go_upto_region 1 with fail
 have hx:=heap_alloc_new w (.cells #[.int .i64 cB, .int .i64 cY, .int .i64 cF, .int .i64 cN', .int .i64 cU, .int .i64 cL, .int .i64 cKy, .int .i64 cV, .pointer (some ⟨q,0,none⟩)] 148)
 have hb:Below w.heap.size w (w.alloc (.cells #[.int .i64 cB, .int .i64 cY, .int .i64 cF, .int .i64 cN', .int .i64 cU, .int .i64 cL, .int .i64 cKy, .int .i64 cV, .pointer (some ⟨q,0,none⟩)] 148)):=(Below.refl _ _).alloc (Nat.le_refl _) _
 generalize w.alloc (.cells #[.int .i64 cB, .int .i64 cY, .int .i64 cF, .int .i64 cN', .int .i64 cU, .int .i64 cL, .int .i64 cKy, .int .i64 cV, .pointer (some ⟨q,0,none⟩)] 148)=w1 at*
 obtain ⟨g,hg⟩:∃g,g=w.heap.size:=⟨_,rfl⟩
 rw [<-hg] at hx
 simp only [<-hg]
 obtain ⟨-,-,-,-,-,-,-,-,g8⟩:=box9 hx
 have HR1:=Lib.hid (HR.out.keep hb)
 have HB:=Lib.hid hb
 clear hx hb hg
 go_wp2_with (go_at_call 169;refine (cN _ HR1.out).out.mono ?_;rintro e w2 ⟨rfl,hr,ho⟩;have HR2:=Lib.hid hr;have HO:=Lib.hid ho;clear hr ho)
 go_ret
 exact ⟨rfl,HR2.out,(Wd.Only.of_below HB.out).trans HO.out⟩
theorem HasRoom_any (c:Cfg) (q lv np nm:Nat) (w:World) (t:Bool) (ht:t=true↔Room c lv np nm):Calls Tryz.prog 139 #[.agg (rdrCs c q), .int .i64 (lv:Int), .int .i64 (np:Int), .int .i64 (nm:Int)] w fun e w'=>e= .returned (.bool t)/\Below w.heap.size w w':=by
 obtain ⟨cB,cY,cF,cN,cU,cL,cKy,cV⟩:=c
 unfold rdrCs
 simp only
 by_cases h0:lv=0
 . subst h0
   by_cases h1:(np:Int)<=cL
   . by_cases h2:nm=0
     . subst h2
       obtain rfl:t=true:=by
        cases t
        . exact absurd (ht.2 (by unfold Room;first|exact .inl ⟨rfl,h1,rfl⟩|(simp only;omega))) (by simp)
        . rfl
       clear ht
       go_enter Tryz.func139,Tryz.ntmps139
       go_upto_region 1 with fail
       have hx:=heap_alloc_new w (.cells #[.int .i64 cB, .int .i64 cY, .int .i64 cF, .int .i64 cN, .int .i64 cU, .int .i64 cL, .int .i64 cKy, .int .i64 cV, .pointer (some ⟨q,0,none⟩)] 148)
       have hb:Below w.heap.size w (w.alloc (.cells #[.int .i64 cB, .int .i64 cY, .int .i64 cF, .int .i64 cN, .int .i64 cU, .int .i64 cL, .int .i64 cKy, .int .i64 cV, .pointer (some ⟨q,0,none⟩)] 148)):=(Below.refl _ _).alloc (Nat.le_refl _) _
       generalize w.alloc (.cells #[.int .i64 cB, .int .i64 cY, .int .i64 cF, .int .i64 cN, .int .i64 cU, .int .i64 cL, .int .i64 cKy, .int .i64 cV, .pointer (some ⟨q,0,none⟩)] 148)=w1 at*
       obtain ⟨g,hg⟩:∃g,g=w.heap.size:=⟨_,rfl⟩
       rw [<-hg] at hx
       simp only [<-hg]
       obtain ⟨-,-,-,g3,g4,g5,-,-,-⟩:=box9 hx
       have HB:=Lib.hid hb
       clear hx hb hg
       go_wp2_with fail
       go_ret
       exact ⟨rfl,HB.out⟩
     . have h3:((nm:Int)==0)=false:=by simpa using h2
       obtain rfl:t=false:=by
        cases t
        . rfl
        . exact absurd (ht.1 rfl) (by unfold Room;simp only;omega)
       clear ht
       go_enter Tryz.func139,Tryz.ntmps139
       go_upto_region 1 with fail
       have hx:=heap_alloc_new w (.cells #[.int .i64 cB, .int .i64 cY, .int .i64 cF, .int .i64 cN, .int .i64 cU, .int .i64 cL, .int .i64 cKy, .int .i64 cV, .pointer (some ⟨q,0,none⟩)] 148)
       have hb:Below w.heap.size w (w.alloc (.cells #[.int .i64 cB, .int .i64 cY, .int .i64 cF, .int .i64 cN, .int .i64 cU, .int .i64 cL, .int .i64 cKy, .int .i64 cV, .pointer (some ⟨q,0,none⟩)] 148)):=(Below.refl _ _).alloc (Nat.le_refl _) _
       generalize w.alloc (.cells #[.int .i64 cB, .int .i64 cY, .int .i64 cF, .int .i64 cN, .int .i64 cU, .int .i64 cL, .int .i64 cKy, .int .i64 cV, .pointer (some ⟨q,0,none⟩)] 148)=w1 at*
       obtain ⟨g,hg⟩:∃g,g=w.heap.size:=⟨_,rfl⟩
       rw [<-hg] at hx
       simp only [<-hg]
       obtain ⟨-,-,-,g3,g4,g5,-,-,-⟩:=box9 hx
       have HB:=Lib.hid hb
       clear hx hb hg
       go_wp2_with fail
       go_ret
       exact ⟨rfl,HB.out⟩
   . have h3:decide ((np:Int)<=cL)=false:=by simpa using h1
     obtain rfl:t=false:=by
      cases t
      . rfl
      . exact absurd (ht.1 rfl) (by unfold Room;simp only;omega)
     clear ht
     go_enter Tryz.func139,Tryz.ntmps139
     go_upto_region 1 with fail
     have hx:=heap_alloc_new w (.cells #[.int .i64 cB, .int .i64 cY, .int .i64 cF, .int .i64 cN, .int .i64 cU, .int .i64 cL, .int .i64 cKy, .int .i64 cV, .pointer (some ⟨q,0,none⟩)] 148)
     have hb:Below w.heap.size w (w.alloc (.cells #[.int .i64 cB, .int .i64 cY, .int .i64 cF, .int .i64 cN, .int .i64 cU, .int .i64 cL, .int .i64 cKy, .int .i64 cV, .pointer (some ⟨q,0,none⟩)] 148)):=(Below.refl _ _).alloc (Nat.le_refl _) _
     generalize w.alloc (.cells #[.int .i64 cB, .int .i64 cY, .int .i64 cF, .int .i64 cN, .int .i64 cU, .int .i64 cL, .int .i64 cKy, .int .i64 cV, .pointer (some ⟨q,0,none⟩)] 148)=w1 at*
     obtain ⟨g,hg⟩:∃g,g=w.heap.size:=⟨_,rfl⟩
     rw [<-hg] at hx
     simp only [<-hg]
     obtain ⟨-,-,-,g3,g4,g5,-,-,-⟩:=box9 hx
     have HB:=Lib.hid hb
     clear hx hb hg
     go_wp2_with fail
     go_ret
     exact ⟨rfl,HB.out⟩
 . have h9:((lv:Int)==0)=false:=by simpa using h0
   by_cases h1:1<=np
   . have h1':(1:Int)<=(np:Int):=by omega
     by_cases h2:(np:Int)<=cN
     . by_cases h3:(nm:Int)<=cU
       . have h4:(nm:Int)<=cU:=h3
         obtain rfl:t=true:=by
          cases t
          . exact absurd (ht.2 (by unfold Room;first|exact .inl ⟨rfl,h1,rfl⟩|(simp only;omega))) (by simp)
          . rfl
         clear ht
         go_enter Tryz.func139,Tryz.ntmps139
         go_upto_region 1 with fail
         have hx:=heap_alloc_new w (.cells #[.int .i64 cB, .int .i64 cY, .int .i64 cF, .int .i64 cN, .int .i64 cU, .int .i64 cL, .int .i64 cKy, .int .i64 cV, .pointer (some ⟨q,0,none⟩)] 148)
         have hb:Below w.heap.size w (w.alloc (.cells #[.int .i64 cB, .int .i64 cY, .int .i64 cF, .int .i64 cN, .int .i64 cU, .int .i64 cL, .int .i64 cKy, .int .i64 cV, .pointer (some ⟨q,0,none⟩)] 148)):=(Below.refl _ _).alloc (Nat.le_refl _) _
         generalize w.alloc (.cells #[.int .i64 cB, .int .i64 cY, .int .i64 cF, .int .i64 cN, .int .i64 cU, .int .i64 cL, .int .i64 cKy, .int .i64 cV, .pointer (some ⟨q,0,none⟩)] 148)=w1 at*
         obtain ⟨g,hg⟩:∃g,g=w.heap.size:=⟨_,rfl⟩
         rw [<-hg] at hx
         simp only [<-hg]
         obtain ⟨-,-,-,g3,g4,g5,-,-,-⟩:=box9 hx
         have HB:=Lib.hid hb
         clear hx hb hg
         go_wp2_with fail
         go_ret
         exact ⟨rfl,HB.out⟩
       . have h4:decide ((nm:Int)<=cU)=false:=by simpa using h3
         obtain rfl:t=false:=by
          cases t
          . rfl
          . exact absurd (ht.1 rfl) (by unfold Room;simp only;omega)
         clear ht
         go_enter Tryz.func139,Tryz.ntmps139
         go_upto_region 1 with fail
         have hx:=heap_alloc_new w (.cells #[.int .i64 cB, .int .i64 cY, .int .i64 cF, .int .i64 cN, .int .i64 cU, .int .i64 cL, .int .i64 cKy, .int .i64 cV, .pointer (some ⟨q,0,none⟩)] 148)
         have hb:Below w.heap.size w (w.alloc (.cells #[.int .i64 cB, .int .i64 cY, .int .i64 cF, .int .i64 cN, .int .i64 cU, .int .i64 cL, .int .i64 cKy, .int .i64 cV, .pointer (some ⟨q,0,none⟩)] 148)):=(Below.refl _ _).alloc (Nat.le_refl _) _
         generalize w.alloc (.cells #[.int .i64 cB, .int .i64 cY, .int .i64 cF, .int .i64 cN, .int .i64 cU, .int .i64 cL, .int .i64 cKy, .int .i64 cV, .pointer (some ⟨q,0,none⟩)] 148)=w1 at*
         obtain ⟨g,hg⟩:∃g,g=w.heap.size:=⟨_,rfl⟩
         rw [<-hg] at hx
         simp only [<-hg]
         obtain ⟨-,-,-,g3,g4,g5,-,-,-⟩:=box9 hx
         have HB:=Lib.hid hb
         clear hx hb hg
         go_wp2_with fail
         go_ret
         exact ⟨rfl,HB.out⟩
     . have h4:decide ((np:Int)<=cN)=false:=by simpa using h2
       obtain rfl:t=false:=by
        cases t
        . rfl
        . exact absurd (ht.1 rfl) (by unfold Room;simp only;omega)
       clear ht
       go_enter Tryz.func139,Tryz.ntmps139
       go_upto_region 1 with fail
       have hx:=heap_alloc_new w (.cells #[.int .i64 cB, .int .i64 cY, .int .i64 cF, .int .i64 cN, .int .i64 cU, .int .i64 cL, .int .i64 cKy, .int .i64 cV, .pointer (some ⟨q,0,none⟩)] 148)
       have hb:Below w.heap.size w (w.alloc (.cells #[.int .i64 cB, .int .i64 cY, .int .i64 cF, .int .i64 cN, .int .i64 cU, .int .i64 cL, .int .i64 cKy, .int .i64 cV, .pointer (some ⟨q,0,none⟩)] 148)):=(Below.refl _ _).alloc (Nat.le_refl _) _
       generalize w.alloc (.cells #[.int .i64 cB, .int .i64 cY, .int .i64 cF, .int .i64 cN, .int .i64 cU, .int .i64 cL, .int .i64 cKy, .int .i64 cV, .pointer (some ⟨q,0,none⟩)] 148)=w1 at*
       obtain ⟨g,hg⟩:∃g,g=w.heap.size:=⟨_,rfl⟩
       rw [<-hg] at hx
       simp only [<-hg]
       obtain ⟨-,-,-,g3,g4,g5,-,-,-⟩:=box9 hx
       have HB:=Lib.hid hb
       clear hx hb hg
       go_wp2_with fail
       go_ret
       exact ⟨rfl,HB.out⟩
   . have h4:decide ((1:Int)<=(np:Int))=false:=by simp;omega
     obtain rfl:t=false:=by
      cases t
      . rfl
      . exact absurd (ht.1 rfl) (by unfold Room;simp only;omega)
     clear ht
     go_enter Tryz.func139,Tryz.ntmps139
     go_upto_region 1 with fail
     have hx:=heap_alloc_new w (.cells #[.int .i64 cB, .int .i64 cY, .int .i64 cF, .int .i64 cN, .int .i64 cU, .int .i64 cL, .int .i64 cKy, .int .i64 cV, .pointer (some ⟨q,0,none⟩)] 148)
     have hb:Below w.heap.size w (w.alloc (.cells #[.int .i64 cB, .int .i64 cY, .int .i64 cF, .int .i64 cN, .int .i64 cU, .int .i64 cL, .int .i64 cKy, .int .i64 cV, .pointer (some ⟨q,0,none⟩)] 148)):=(Below.refl _ _).alloc (Nat.le_refl _) _
     generalize w.alloc (.cells #[.int .i64 cB, .int .i64 cY, .int .i64 cF, .int .i64 cN, .int .i64 cU, .int .i64 cL, .int .i64 cKy, .int .i64 cV, .pointer (some ⟨q,0,none⟩)] 148)=w1 at*
     obtain ⟨g,hg⟩:∃g,g=w.heap.size:=⟨_,rfl⟩
     rw [<-hg] at hx
     simp only [<-hg]
     obtain ⟨-,-,-,g3,g4,g5,-,-,-⟩:=box9 hx
     have HB:=Lib.hid hb
     clear hx hb hg
     go_wp2_with fail
     go_ret
     exact ⟨rfl,HB.out⟩
end No
end Go.Proofs.YtjpjjnalpdpljaaGreatDoor
namespace Go.Proofs.YtjpjjnalpdpljaaGreatDoor
open Go.RowKit
namespace Sh
open Mem No Bt
structure Sl where
 kd:Int
 n:Nd
 a:At
def slCs (x:Sl):List Value:= .int .i64 x.kd::(ndCs x.n x.a).toList
def SlK:Kind Sl:=⟨71,6,slCs,fun _=>rfl,fun m u hu=>by
 simp only [slCs,ndCs,List.mem_cons,List.not_mem_nil,or_false] at hu
 rcases hu with rfl|rfl|rfl|rfl|rfl|rfl<;>rfl⟩
def nd0:Nd:=⟨0,[],[],[],[]⟩
def at0:At:=⟨none,0,none,0,none,0,none,0⟩
def sl0:Sl:=⟨0,nd0,at0⟩
structure Ds where
 c:Cfg
 l:List Sl
 held:List Bool
 kept:Nat
def there (s:Ds) (i:Nat):Prop:=0<i/\(i:Int)<s.c.blocks
instance (s:Ds) (i:Nat):Decidable (there s i):=inferInstanceAs (Decidable (_/\_))
structure DsW (w:World) (B:Nat) (s:Ds) (A:Option Addr) (cl h ch:Nat):Prop where
 rd:RC SlK w A cl s.l
 bl:Bt.BoolAt w h ch s.held.length s.held
 len:(s.l.length:Int)=s.c.blocks
 hlen:s.held.length=s.l.length
 lo:∀a,A=some a->B<=a.block
 hlo:B<=h
 few:s.l.length<=65536
theorem sl_in {s:Ds} {i:Nat} (hl:(s.l.length:Int)=s.c.blocks) (h:there s i):i<s.l.length:=by
 have:=h.2
 omega
def putS (s:Ds) (i:Nat) (x:Sl):Ds:={ s with l:=s.l.set i x }
end Sh
end Go.Proofs.YtjpjjnalpdpljaaGreatDoor
namespace Go.Proofs.YtjpjjnalpdpljaaGreatDoor
open Go.RowKit
namespace Sh
open Mem No Bt Bu
def kpE (s:Ds) (i:Nat):Int:=if 0<i/\¬there s i then 4 else 0
def kpS (s:Ds) (i:Nat):Ds:=if 0<i/\¬there s i then s else { s with kept:=i }
end Sh
end Go.Proofs.YtjpjjnalpdpljaaGreatDoor
namespace Go.Proofs.YtjpjjnalpdpljaaGreatDoor
open Go.RowKit
namespace Sh
open Mem No Bt Bu
structure Sb (W:World) (g:Nat) (C Z:Array Value) (w:World):Prop where
 x:BoxAt 35 w g C
 y:BoxAt 35 w (g+1) Z
 below:Below W.heap.size W w
 ge:W.heap.size<=g
section
variable {W w w':World} {g:Nat} {C C' Z:Array Value}
theorem Sb.kept (h:Sb W g C Z w) (hb:Below w.heap.size w w'):Sb W g C Z w':=⟨h.x.kept hb,h.y.kept hb,h.below.trans (hb.mono h.below.size),h.ge⟩
theorem Sb.fill (h:Sb W g C Z w) (hi:Flow.Into [g+1] w w'):Below W.heap.size W w':=by
 have h1:=h.below
 have h2:=h.ge
 exact h1.trans ⟨hi.os,hi.tape,hi.output,hi.size,fun k hk=>hi.block k (Nat.lt_of_lt_of_le hk h1.size) (by simp only [List.mem_singleton];omega)⟩
theorem Sb.put (h:Sb W g C Z w) (i:Nat) (v:Value):Sb W g (C.setIfInBounds i v) Z (w.setCell ⟨g,i,none⟩ v):=⟨h.x.set i v,(Below.heap_setCell _ _ _ _ (by simp)).trans h.y,h.below.setCell h.ge _,h.ge⟩
theorem Sb.eq (h:Sb W g C Z w) (e:C=C'):Sb W g C' Z w:=e▸h
end
end Sh
end Go.Proofs.YtjpjjnalpdpljaaGreatDoor
namespace Go.Proofs.YtjpjjnalpdpljaaGreatDoor
open Go.RowKit
namespace Sh
open Mem No Bt Bu
def ldS (s:Ds) (i:Nat):Sl × Int × Bool:=if there s i then (if (s.l.getD i sl0).kd=0 then (sl0,12,true) else (s.l.getD i sl0,0,decide ((s.l.getD i sl0).kd=1))) else (sl0,4,true)
end Sh
end Go.Proofs.YtjpjjnalpdpljaaGreatDoor
namespace Go.Proofs.YtjpjjnalpdpljaaGreatDoor
open Go.RowKit
namespace Sh
open Mem No Bt Bu
def svE (s:Ds) (i:Nat) (r:Bool):Int:=if there s i then (if r=true then 0 else 3) else 4
def svS (s:Ds) (i:Nat) (r:Bool) (n:Nd) (a:At):Ds:=if there s i then (if r=true then putS s i ⟨1,n,a⟩ else s) else s
end Sh
end Go.Proofs.YtjpjjnalpdpljaaGreatDoor
namespace Go.Proofs.YtjpjjnalpdpljaaGreatDoor
open Go.RowKit
namespace Sh
open Mem No Bt Bu Po
def mrE (s:Ds) (i:Nat):Int:=if there s i then setE s.held i else 4
def mrS (s:Ds) (i:Nat):Ds:=if there s i then { s with held:=setT s.held i } else s
theorem bool_ne {w:World} {h c n b:Nat} {tb:List Bool} {C:Array Value} {T:TypeId} (H:BoolAt w h c n tb) (hx:w.heap[b]? =some (.cells C T (0,0))) (hT:T≠4):h≠b:=fun e=>by
 rcases H.ow.2 with ⟨h',_⟩|⟨g',cap,cur,h',_,hg,_⟩
 . cases h'
 . obtain ⟨rfl,-⟩:h=g'/\c=cap:=by simpa using h'
   rw [e,hx] at hg
   simp only [Option.some.injEq,Obj.cells.injEq] at hg
   exact hT hg.2.1
end Sh
end Go.Proofs.YtjpjjnalpdpljaaGreatDoor
namespace Go.Proofs.YtjpjjnalpdpljaaGreatDoor
open Go.RowKit
namespace Sh
open Mem No Bt Bu Po
def frE (s:Ds) (i:Nat):Int:=if there s i then (if i=s.kept then 8 else gvE s.held i) else 4
def frS (s:Ds) (i:Nat):Ds:=if there s i then (if i=s.kept then s else if gvE s.held i=0 then putS { s with held:=gvT s.held i } i ⟨2,nd0,at0⟩ else s) else s
end Sh
end Go.Proofs.YtjpjjnalpdpljaaGreatDoor
namespace Go.Proofs.YtjpjjnalpdpljaaGreatDoor
open Go.RowKit
namespace Sh
open Mem No Bt Bu Po
def mkS (s:Ds) (j:Nat) (t:List Bool) (n:Nd) (a:At):Ds:=putS { s with held:=t } j ⟨1,n,a⟩
end Sh
end Go.Proofs.YtjpjjnalpdpljaaGreatDoor
namespace Go.Proofs.YtjpjjnalpdpljaaGreatDoor
open Go.RowKit Go.WideShapes Go.ChangeShapes Go.Deep
namespace No
open Mem
theorem one_cell {u:Value} {L:List Value} {j:Nat} (h:L[j]? =some u):(L.drop j).take 1=[u]:=by
 rw [List.getElem?_eq_some_iff] at h
 obtain ⟨h2,h3⟩:=h
 rw [List.drop_eq_getElem_cons h2,h3]
 rfl
theorem list5 {α:Type} {cs:List α} (h:cs.length=5):∃c0 c1 c2 c3 c4,cs=[c0,c1,c2,c3,c4]:=by
 match cs,h with
 |[c0,c1,c2,c3,c4],_=>exact ⟨c0,c1,c2,c3,c4,rfl⟩
theorem list7 {α:Type} {cs:List α} (h:cs.length=7):∃c0 c1 c2 c3 c4 c5 c6,cs=[c0,c1,c2,c3,c4,c5,c6]:=by
 match cs,h with
 |[c0,c1,c2,c3,c4,c5,c6],_=>exact ⟨c0,c1,c2,c3,c4,c5,c6,rfl⟩
theorem open_node_t {H:Type} {enc:TypeId × Value->H} {W:World} {cs:List Value} {y:DataW H × List MemPlace} {fuel:Nat} (hf:DataW.trod enc Tryz.prog W 0 (fun _=>true) true fuel 43 cs=some y) (hw:∀n∈y.1.weights Tryz.prog 43,n<=reachBytes):
 ∃(n:Nd) (a:At),cs=(ndCs n a).toList/\NdIn W n a/\NdOk n:=by
 have hu:Tryz.prog.underlying 43=some (.struct (Tryz.prog.fieldsOf 43)):=by kernel_rfl
 have h5:Tryz.prog.cellsOf 43=5:=by kernel_rfl
 obtain ⟨ys,n',_,hD,hlen,hyl,hfl⟩:=DataW.trod_struct hu hf
 rw [h5] at hlen
 have each:∀(j:Nat) (u:Value) (T:TypeId),cs[j]? =some u->((Tryz.prog.fieldsOf 43)[j]?.map fun f=>f.type)=some T->∃y:DataW H × List MemPlace,DataW.trod enc Tryz.prog W 0 (fun _=>true) true n' T [u]=some y/\∀k∈y.1.weights Tryz.prog T,k<=reachBytes:=fun j u T hj hT=>by
  rw [Option.map_eq_some_iff] at hT
  obtain ⟨f,hfj,rfl⟩:=hT
  obtain ⟨ho,hk⟩:=hone_of node_one j f hfj
  have h1:=hfl j f hfj
  rw [ho,hk,one_cell hj] at h1
  have hj':j<ys.length:=by
   rw [hyl]
   exact (Array.getElem?_eq_some_iff.1 hfj).1
  rw [List.getElem?_eq_getElem hj'] at h1
  refine ⟨_,h1,fun k hk=>hw k ?_⟩
  rw [hD]
  simp only [DataW.weights,hu]
  refine Args.w_each (j:=j) (t:=f.type) (d:=(ys[j]'hj').1) ?_ ?_ k hk
  . rw [List.getElem?_map,Array.getElem?_toList,hfj];rfl
  . rw [List.getElem?_map,List.getElem?_eq_getElem hj'];rfl
 obtain ⟨c0,c1,c2,c3,c4,rfl⟩:=list5 hlen
 obtain ⟨⟨y0,q0⟩,k0,-⟩:=each 0 c0 3 rfl (by decide+kernel)
 obtain ⟨⟨y1,q1⟩,k1,-⟩:=each 1 c1 38 rfl (by decide+kernel)
 obtain ⟨⟨y2,q2⟩,k2,-⟩:=each 2 c2 39 rfl (by decide+kernel)
 obtain ⟨⟨y3,q3⟩,k3,-⟩:=each 3 c3 40 rfl (by decide+kernel)
 obtain ⟨⟨y4,q4⟩,k4,w4⟩:=each 4 c4 41 rfl (by decide+kernel)
 obtain ⟨z,hz,-,hwf⟩:=DataW.trod_int Tryz.underlying3 k0
 obtain rfl:c0=_:=by simpa using hz
 obtain ⟨kA,K,kc,rfl,hK,lK,mK,bK⟩:=open_kids_t k1
 obtain ⟨pA,P,pc,rfl,hP,lP,mP⟩:=Fa.open_strs_t k2
 obtain ⟨bA,B,bc,rfl,hB,lB,mB⟩:=Bu.open_msgs_t k3
 obtain ⟨qA,Q,qc,rfl,hQ,lQ,mQ,wQ⟩:=Lf.open_prs_t k4
 exact ⟨⟨z,K,P,B,Q⟩,⟨kA,kc,pA,pc,bA,bc,qA,qc⟩,rfl,⟨hK,hP,hB,hQ⟩,⟨Args.i64_bounds hwf,Nat.le_trans lK mK,Nat.le_trans lP mP,Nat.le_trans lB mB,Nat.le_trans lQ mQ,bK,fun m hm=>w4 _ (wQ m hm).2⟩⟩
end No
namespace Sh
open Mem No
structure Ac where
 kd:Int
 i:Nat
 n:Nd
 a:At
def acCs (x:Ac):List Value:= .int .i64 x.kd:: .int .u32 (x.i:Int)::(ndCs x.n x.a).toList
def AcK:Kind Ac:=⟨45,7,acCs,fun _=>rfl,fun m u hu=>by
 simp only [acCs,ndCs,List.mem_cons,List.not_mem_nil,or_false] at hu
 rcases hu with rfl|rfl|rfl|rfl|rfl|rfl|rfl<;>rfl⟩
structure AcL (W:World) (A:Option Addr) (l:List Ac):Prop where
 rd:RdK AcK W A l
 nd:∀x,x∈l->NdIn W x.n x.a
 ok:∀x,x∈l->NdOk x.n
 lt:∀x,x∈l->x.i<4294967296
theorem AcL.kept {W W':World} {A:Option Addr} {l:List Ac} (h:AcL W A l) (hb:Below W.heap.size W W'):AcL W' A l:=⟨h.rd.kept hb,fun x hx=>(h.nd x hx).kept hb,h.ok,h.lt⟩
theorem open_acts {H:Type} {enc:TypeId × Value->H} {W:World} {v:Value} {d:DataW H} {p:List MemPlace} {r:Reach} {b0:Nat} (hv:Value.okWide Tryz.prog W r b0 24 v) (h:DataW.Trod enc Tryz.prog W 0 (fun _=>true) true 24 v d p)
 (hz:∀n∈d.weights Tryz.prog 24,n<=reachBytes):
 ∃(A:Option Addr) (l:List Ac) (c:Nat),v= .slice A l.length c/\AcL W A l/\l.length<=c/\c<=maxLen:=by
 have hu:Tryz.prog.underlying 45=some (.struct (Tryz.prog.fieldsOf 45)):=by kernel_rfl
 obtain ⟨A,len,c,rfl,hl,hm,hc⟩:=Args.open_structs_n Tryz.underlying24 hu (show Tryz.prog.cellsOf 45=7 by kernel_rfl) (by decide) hv h
 by_cases h0:0<len
 case neg=>
  obtain rfl:len=0:=by omega
  exact ⟨A,[],c,rfl,⟨RdK.nil _ _,(by simp),(by simp),(by simp)⟩,Nat.zero_le _,hm⟩
 obtain ⟨b,o,rfl,hb,hcell⟩:=hc h0
 have each:∀i,∃x:Ac,i<len->((∀(j:Nat) (u:Value),(acCs x)[j]? =some u->W.cell? ⟨b,o+(i*7+j),none⟩=some u)/\NdIn W x.n x.a/\NdOk x.n/\x.i<4294967296):=fun i=>by
  by_cases hi:i<len
  case neg=>exact ⟨⟨0,0,⟨0,[],[],[],[]⟩,⟨none,0,none,0,none,0,none,0⟩⟩,fun h=>absurd h hi⟩
  obtain ⟨cs,hlen,hcs,hfl⟩:=hcell i hi
  have top:∀(j:Nat) (T:TypeId) (f k:Nat),((Tryz.prog.fieldsOf 45)[j]?.map fun f=>(f.type,f.offset,Tryz.prog.cellsOf f.type))=some (T,f,k)->∃y n,DataW.trod enc Tryz.prog W 0 (fun _=>true) true n T ((cs.drop f).take k)=some y/\∀k∈y.1.weights Tryz.prog T,k<=reachBytes:=fun j T o k hT=>by
   rw [Option.map_eq_some_iff] at hT
   obtain ⟨f,hfj,he⟩:=hT
   simp only [Prod.mk.injEq] at he
   obtain ⟨rfl,rfl,rfl⟩:=he
   obtain ⟨y,n,h1,h2⟩:=hfl j f hfj
   exact ⟨y,n,h1,fun k hk=>hz k (h2 k hk)⟩
  obtain ⟨y0,n0,g0,-⟩:=top 0 3 0 1 (by decide+kernel)
  obtain ⟨y1,n1,g1,-⟩:=top 1 25 1 1 (by decide+kernel)
  obtain ⟨y2,n2,g2,w2⟩:=top 2 43 2 5 (by decide+kernel)
  clear top hfl
  obtain ⟨c0,c1,c2,c3,c4,c5,c6,rfl⟩:=list7 hlen
  simp only [List.drop_zero,List.drop_succ_cons,List.take_succ_cons,List.take_zero] at g0 g1 g2
  obtain ⟨z0,e0,_,_⟩:=DataW.trod_int Tryz.underlying3 g0
  obtain ⟨z1,e1,_,m1⟩:=DataW.trod_int Tryz.underlying25 g1
  obtain rfl:c0=_:=by simpa using e0
  obtain rfl:c1=_:=by simpa using e1
  obtain ⟨j1,rfl,b1⟩:=Args.nat_of_u32 m1
  obtain ⟨nd,at_,en,hin,hok⟩:=open_node_t g2 w2
  refine ⟨⟨z0,j1,nd,at_⟩,fun _=>⟨fun j u hu=>hcs j u ?_,hin,hok,b1⟩⟩
  rw [<-hu,en]
  rfl
 let F:=fun i=>Classical.choose (each i)
 have hF:=fun i=>Classical.choose_spec (each i)
 refine ⟨some ⟨b,o,none⟩,(List.range len).map F,c,by simp,⟨fun _=>⟨b,o,rfl,hb,fun i x hx j u hu=>?_⟩,fun x hx=>?_,fun x hx=>?_,fun x hx=>?_⟩,by simpa using hl,hm⟩
 . rw [List.getElem?_map,Option.map_eq_some_iff] at hx
   obtain ⟨i',hi',rfl⟩:=hx
   obtain ⟨h1,h2⟩:=List.getElem?_eq_some_iff.1 hi'
   rw [List.getElem_range] at h2
   rw [List.length_range] at h1
   subst h2
   exact (hF _ h1).1 j u hu
 all_goals
  obtain ⟨i,hi,rfl⟩:=List.mem_map.1 hx
  have hi:i<len:=by simpa using hi
  have:=hF i hi
 . exact this.2.1
 . exact this.2.2.1
 . exact this.2.2.2
end Sh
end Go.Proofs.YtjpjjnalpdpljaaGreatDoor
namespace Go.Proofs.YtjpjjnalpdpljaaGreatDoor
open Go.RowKit
namespace Sh
open Mem No Bt Bu Po
def WantR (s:Ds) (x:Ac) (r:Bool) (s':Ds) (k:Nat) (e:Int):Prop:=
 ((x.kd=0\/x.kd=1)/\s'=svS s x.i r x.n x.a/\k=0/\e=svE s x.i r)\/
 (x.kd=2/\r=false/\s'=s/\k=0/\e=3)\/
 (x.kd=2/\r=true/\free s.held=0/\s'=s/\k=0/\e=11)\/
 (x.kd=2/\r=true/\(∃t,Got s.held 1 t [k]/\s'=mkS s k t x.n x.a)/\e=0)\/
 (x.kd=3/\s'=frS s x.i/\k=0/\e=frE s x.i)\/
 (x.kd=4/\s'=mrS s x.i/\k=0/\e=mrE s x.i)\/
 (x.kd=5/\s'=kpS s x.i/\k=0/\e=kpE s x.i)\/
 ((x.kd<0\/5<x.kd)/\s'=s/\k=0/\e=0)
structure Pp (A0:Option Addr) (l:List Sl) (hd:List Bool) (m B p0 p1:Nat) (w:World) (A:Option Addr) (c h ch:Nat):Prop where
 rc:RC SlK w A c l
 bl:BoolAt w h ch m hd
 hlo:B<=h
 lo:∀a,A=some a->B<=a.block
 off:∀a,0<l.length->A=some a->a.block<p0\/p1<=a.block
 sm:A=A0\/∀a,A=some a->p0<=a.block
section
variable {l:List Sl} {hd:List Bool} {m B p0 p1 c h ch b:Nat} {w w':World} {A A0:Option Addr}
theorem Pp.kept (H:Pp A0 l hd m B p0 p1 w A c h ch) (hb:Below w.heap.size w w'):Pp A0 l hd m B p0 p1 w' A c h ch:=⟨H.rc.kept hb,H.bl.kept hb,H.hlo,H.lo,H.off,H.sm⟩
theorem Pp.into (H:Pp A0 l hd m B p0 p1 w A c h ch) (hi:Flow.Into [b] w w') (h0:p0<=b) (h1:b<p1) {C:Array Value} {T:TypeId} (hx:w.heap[b]? =some (.cells C T (0,0))) (hT:T≠4):Pp A0 l hd m B p0 p1 w' A c h ch:=
 ⟨rc_into H.rc hi (fun a hl ha=>by have:=H.off a hl ha;simp only [List.mem_singleton];omega),H.bl.into hi (by have:=bool_ne H.bl hx hT;simpa using this),H.hlo,H.lo,H.off,H.sm⟩
end
end Sh
end Go.Proofs.YtjpjjnalpdpljaaGreatDoor
namespace Go.Proofs.YtjpjjnalpdpljaaGreatDoor
open Go.RowKit
namespace Sh
open Mem No Bt Bu Po
section
variable {s s':Ds} {i j:Nat} {r:Bool} {n:Nd} {a:At} {t:List Bool}
structure Like (s s':Ds):Prop where
 c:s'.c=s.c
 l:s'.l.length=s.l.length
 h:s'.held.length=s.held.length
theorem Like.refl (s:Ds):Like s s:=⟨rfl,rfl,rfl⟩
theorem like_sv:Like s (svS s i r n a)/\(svS s i r n a).held=s.held/\(svS s i r n a).kept=s.kept:=by
 unfold svS
 split
 . split
   . exact ⟨⟨rfl,by simp [putS],rfl⟩,rfl,rfl⟩
   . exact ⟨Like.refl _,rfl,rfl⟩
 . exact ⟨Like.refl _,rfl,rfl⟩
theorem like_kp:Like s (kpS s i)/\(kpS s i).l=s.l/\(kpS s i).held=s.held:=by
 unfold kpS
 split
 . exact ⟨Like.refl _,rfl,rfl⟩
 . exact ⟨⟨rfl,rfl,rfl⟩,rfl,rfl⟩
theorem set_len_t (tb:List Bool) (i:Int):(setT tb i).length=tb.length:=by
 unfold setT
 split
 . rw [List.length_set]
 . rfl
theorem like_mr:Like s (mrS s i)/\(mrS s i).l=s.l/\(mrS s i).kept=s.kept:=by
 unfold mrS
 split
 . exact ⟨⟨rfl,rfl,set_len_t _ _⟩,rfl,rfl⟩
 . exact ⟨Like.refl _,rfl,rfl⟩
theorem like_fr:Like s (frS s i)/\(frS s i).kept=s.kept:=by
 unfold frS
 split
 . split
   . exact ⟨Like.refl _,rfl⟩
   . split
     . exact ⟨⟨rfl,by simp [putS],gvT_len _ _⟩,rfl⟩
     . exact ⟨Like.refl _,rfl⟩
 . exact ⟨Like.refl _,rfl⟩
end
theorem DsW.kept {w w':World} {B:Nat} {s:Ds} {A:Option Addr} {cl h ch:Nat} (hD:DsW w B s A cl h ch) (hb:Below w.heap.size w w'):DsW w' B s A cl h ch:=⟨hD.rd.kept hb,hD.bl.kept hb,hD.len,hD.hlen,hD.lo,hD.hlo,hD.few⟩
end Sh
end Go.Proofs.YtjpjjnalpdpljaaGreatDoor
