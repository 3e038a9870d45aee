import Derived.Test.YtmcbidhpkpmalaaGreatDoorProg
import Derived.Test.YtmcbidhpkpmalaaGreatDoorPqLexPlain
import Derived.WalkLawsBesides
import Derived.BigQuiet
set_option maxHeartbeats 1000000
set_option maxRecDepth 100000
namespace Go.Proofs.YtmcbidhpkpmalaaGreatDoor
open Go.RowKit
open Go.Lib (hid)
namespace Lx
abbrev aG(a b:ByteArray):Int:=Lib.compareBytes a.data.toList b.data.toList
def AQ(a b:ByteArray)(k:Nat):Prop:=∀j,j<k->a.data.toList.getD j 0=b.data.toList.getD j 0
theorem AQ.zero(a b:ByteArray):AQ a b 0:=fun j h=>by omega
theorem getD_eq(a:ByteArray)(k:Nat)(h:k<a.size):a.data.toList.getD k 0=a[k]:=by
 have:k<a.data.toList.length:=by simpa using h
 simp[List.getD,List.getElem?_eq_getElem this];rfl
theorem AQ.succ{a b:ByteArray}{k:Nat}(h:AQ a b k)(ha:k<a.size)(hb:k<b.size)(e:a[k]=b[k]):AQ a b (k+1):=fun j hj=>by by_cases hk:j=k;(. subst hk;rw[getD_eq a j ha,getD_eq b j hb,e]);. exact h j (by omega)
theorem len_eq(a:ByteArray):a.data.toList.length=a.size:=by rw[Array.length_toList];rfl
theorem AQ.lt{a b:ByteArray}{k:Nat}(h:AQ a b k)(ha:k<a.size)(hb:k<b.size)(e:(a[k].toNat:Int)<(b[k].toNat:Int)):aG a b= -1:=by refine qh (k:=k) (by rw[len_eq];exact ha) (by rw[len_eq];exact hb) h ?_;rw[getD_eq a k ha,getD_eq b k hb,UInt8.lt_iff_toNat_lt];omega
theorem AQ.gt{a b:ByteArray}{k:Nat}(h:AQ a b k)(ha:k<a.size)(hb:k<b.size)(e:(b[k].toNat:Int)<(a[k].toNat:Int)):aG a b=1:=by refine Du (k:=k) (by rw[len_eq];exact ha) (by rw[len_eq];exact hb) h ?_;rw[getD_eq a k ha,getD_eq b k hb,UInt8.lt_iff_toNat_lt];omega
theorem Qk{x y:UInt8}(h:¬(x.toNat:Int)<(y.toNat:Int))(k:¬(y.toNat:Int)<(x.toNat:Int)):x=y:=by rw[<-UInt8.toNat_inj];omega
theorem AQ.ended{a b:ByteArray}{k:Nat}(h:AQ a b k)(he:¬(k<a.size/\k<b.size)):
 aG a b=if a.size<b.size then-1 else if b.size<a.size then 1 else 0:=by
 have:=sj (a:=a.data.toList) (b:=b.data.toList) (fun j h1 h2=>h j (by rw[len_eq]at h1 h2;omega));rw[len_eq,len_eq]at this;exact this
theorem zn{a b a' b':Value}(h:a=a')(k:b=b'):Ending.returned (.tuple #[a,b])=.returned (.tuple #[a',b']):=by rw[h,k]
theorem Dw{k:IntKind}{a b:Int}(h:a=b):Ending.returned (.int k a)=.returned (.int k b):=by rw[h]
theorem Nu(w:World)(n m:Nat):∃k,(w.drewN n).drewN m=w.drewN k:=⟨n+m,by rw[World.drewN_drewN]⟩
theorem Nv(w:World)(n m l:Nat):∃k,((w.drewN n).drewN m).drewN l=w.drewN k:=⟨n+(m+l),by rw[World.drewN_drewN,World.drewN_drewN]⟩
theorem below_drewN(B:Nat)(w:World)(n:Nat):Below B w (w.drewN n):=⟨rfl,rfl,rfl,Nat.le_refl _,fun _ _=>rfl⟩
theorem dD(a b:ByteArray)(w:World)(ha:a.size<=maxLen):
 Calls Tryz.prog 35 #[.string a,.string b] w fun e w'=>e=.returned (aG a b:Int)/\∃n,w'=w.drewN n:=by
 unfold maxLen at ha;go_enter Tryz.func35,Tryz.ntmps35
 go_wp2
 go_loopw [5] (fun i wr=>∃k:Nat,k<=a.size/\k<=b.size/\i= .int .i64 k/\AQ a b k/\∃n,wr=w.drewN n) (fun i _=>a.size-(intOf i).toNat)
 case atStart=>exact⟨0,Nat.zero_le _,Nat.zero_le _,rfl,AQ.zero a b,0,rfl⟩
 case round=>
  obtain⟨k,hka,hkb,rfl,heq,n,rfl⟩:=hrel;by_cases h1:k<a.size
  . by_cases h2:k<b.size
    . by_cases h3:(a[k].toNat:Int)<(b[k].toNat:Int)
      . have HR:=hid (heq.lt h1 h2 h3)
        go_wp2
        go_quiet (fail)
        go_wp2
        go_ret
        exact⟨Dw HR.symm,Nu _ _ _⟩
      . by_cases h4:(b[k].toNat:Int)<(a[k].toNat:Int)
        . have HR:=hid (heq.gt h1 h2 h4)
          go_wp2
          go_quiet (fail)
          go_wp2
          go_quiet (fail)
          go_wp2
          go_ret
          exact⟨Dw HR.symm,Nv _ _ _ _⟩
        . have HR:=hid (heq.succ h1 h2 (Qk h3 h4))
          go_wp2
          go_quiet (fail)
          go_wp2
          go_quiet (fail)
          go_wp2
          go_roundw
          case rel=>exact⟨k+1,by omega,by omega,by go_num,HR.out,_,rfl⟩
          case measure=>simp[intOf];omega
    . have HR:=hid (heq.ended (by omega))
      go_wp2
      all_goals go_ret
      all_goals exact⟨by rw[HR.out];simp[*],_,rfl⟩
  . have HR:=hid (heq.ended (by omega))
    go_wp2
    all_goals go_ret
    all_goals exact⟨by rw[HR.out];simp[*],_,rfl⟩
abbrev bG(lo hi:ByteArray)(top:Bool):Value:= .agg #[.string lo,.string hi,.bool top]
def inB(lo hi:ByteArray)(top:Bool)(key:ByteArray):Bool:=decide (aG lo key<=0)&&(top || decide (aG key hi<0))
theorem eP{a b:Bool}(h:a=b):Ending.returned (.bool a)=.returned (.bool b):=by rw[h]
theorem KI(lo hi:ByteArray)(top:Bool)(key:ByteArray)(w:World)(hl:lo.size<=maxLen)(hk:key.size<=maxLen):
 CB 14 #[bG lo hi top,.string key] w (.bool (inB lo hi top key)):=by
 by_cases h1:aG lo key<=0
 . cases top
   . have HR:Hid (inB lo hi false key=decide (aG key hi<0)):=hid (by simp[inB,h1])
     go_enter Tryz.func14,Tryz.ntmps14
     go_wp2_with (go_at_call 35;refine(dD _ _ _ (by assumption)).mono ?_;rintro e w' ⟨rfl,n,rfl⟩)
     go_ret
     exact⟨eP (by rw[HR.out]),(bAx).trans (below_drewN _ _ _)⟩
   . have HR:Hid (inB lo hi true key=true):=hid (by simp[inB,h1])
     go_enter Tryz.func14,Tryz.ntmps14
     go_wp2_with (go_at_call 35;refine(dD _ _ _ (by assumption)).mono ?_;rintro e w' ⟨rfl,n,rfl⟩)
     go_ret
     exact⟨eP (by rw[HR.out]),(bAx).trans (below_drewN _ _ _)⟩
 . have HR:Hid (inB lo hi top key=false):=hid (by simp[inB,h1])
   have h1':decide (aG lo key<=0)=false:=(by simpa using h1);go_enter Tryz.func14,Tryz.ntmps14
   go_wp2_with (go_at_call 35;refine(dD _ _ _ (by assumption)).mono ?_;rintro e w' ⟨rfl,n,rfl⟩)
   go_ret
   exact⟨eP (by rw[HR.out]),(bAx).trans (below_drewN _ _ _)⟩
end Lx
end Go.Proofs.YtmcbidhpkpmalaaGreatDoor
namespace Go.Proofs.YtmcbidhpkpmalaaGreatDoor
open Go.RowKit
namespace Bu
open Lx
theorem bB{a b c:ByteArray}(h:aG a b<0)(k:aG b c<0):aG a c<0:=jM h k
theorem bN(a:ByteArray):aG a a=0:=tV _
theorem bS(a b:ByteArray):aG a b= -aG b a:=xM _ _
theorem lY{a b:ByteArray}(h:aG a b=0):a=b:=by have:=lZ h;cases a;cases b;simp only[ByteArray.mk.injEq]at*;exact Array.ext' this
theorem Dx{a b:ByteArray}(h:aG a b<0):a≠b:=fun e=>by subst e;rw[bN]at h;omega
theorem gL(a b:ByteArray):aG a b<0\/a=b\/aG b a<0:=by by_cases h:aG a b<0;(. exact .inl h);. by_cases k:aG b a<0;(. exact .inr (.inr k));. have:=bS a b;exact .inr (.inl (lY (by omega)))
theorem Ql(a b:ByteArray)(ha:a.size<=maxLen)(w:World):CB 35 #[.string a,.string b] w (.int .i64 (aG a b)):=
 (dD a b w ha).mono fun e w' ⟨he,n,hw⟩=>⟨he,by rw[hw];exact⟨rfl,rfl,rfl,Nat.le_refl _,fun _ _=>rfl⟩⟩
end Bu
namespace Lx
def bZ(lo hi:ByteArray)(top:Bool):Bool:= !top&&decide (aG hi lo<=0)
theorem tX(a b:ByteArray)(w:World):
 CW 138 #[.string a,.string b] w (.int .i64 (aG a b)):=by
 go_enter Tryz.func138,Tryz.ntmps138
 go_wp2
 rw[run_callFunc_extern Tryz.func169 (by kernel_rfl) (by kernel_rfl) (by kernel_rfl) (e:=Extern.BytealgCompare.compare) (by kernel_rfl),Lib.run_compareString];simp only[Result.andThen];rw[Oper.upon_value]
 go_wp2
 go_ret
 exact⟨rfl,rfl⟩
theorem l8(a b:ByteArray)(w:World):
 CW 100 #[.string a,.string b] w (.int .i64 (aG a b)):=by
 go_enter Tryz.func100,Tryz.ntmps100
 go_wp2_with (go_at_call 138;refine(tX _ _ _).mono ?_;rintro e w' ⟨rfl,rfl⟩)
 go_ret
 exact⟨rfl,rfl⟩
theorem dS(a b:ByteArray)(w:World):
 CW 65 #[.string a,.string b] w (.int .i64 (aG a b)):=by
 go_enter Tryz.func65,Tryz.ntmps65
 go_wp2_with (go_at_call 100;refine(l8 _ _ _).mono ?_;rintro e w' ⟨rfl,rfl⟩)
 go_ret
 exact⟨rfl,rfl⟩
theorem Pv(a b:ByteArray)(w:World):CB 65 #[.string a,.string b] w (.int .i64 (aG a b)):=
 (dS a b w).mono fun e w' ⟨he,hw⟩=>⟨he,by subst hw;exact Below.refl _ _⟩
theorem JO(lo hi:ByteArray)(top:Bool)(key:ByteArray)(w:World):
 CB 187 #[bG lo hi top,.string key] w (.bool (inB lo hi top key)):=by
 by_cases h1:aG lo key<=0
 . cases top
   . have HR:Hid (inB lo hi false key=decide (aG key hi<0)):=Lib.hid (by simp[inB,h1])
     go_enter Tryz.func187,Tryz.ntmps187
     go_wp2_with (go_at_call 65;refine(dS _ _ _).mono ?_;rintro e w' ⟨rfl,rfl⟩)
     go_ret
     exact⟨eP (by rw[HR.out]),bAx⟩
   . have HR:Hid (inB lo hi true key=true):=Lib.hid (by simp[inB,h1])
     go_enter Tryz.func187,Tryz.ntmps187
     go_wp2_with (go_at_call 65;refine(dS _ _ _).mono ?_;rintro e w' ⟨rfl,rfl⟩)
     go_ret
     exact⟨eP (by rw[HR.out]),bAx⟩
 . have HR:Hid (inB lo hi top key=false):=Lib.hid (by simp[inB,h1])
   have h1':decide (aG lo key<=0)=false:=(by simpa using h1);go_enter Tryz.func187,Tryz.ntmps187
   go_wp2_with (go_at_call 65;refine(dS _ _ _).mono ?_;rintro e w' ⟨rfl,rfl⟩)
   go_ret
   exact⟨eP (by rw[HR.out]),bAx⟩
def GN(a b:ByteArray):ByteArray × Bool:=
 if 0<=aG a b then(⟨#[]⟩,false)else(b.extract 0 (shared a.data.toList b.data.toList+1),true)
theorem vN{a b:ByteArray}(h:0<=aG a b):GN a b=(⟨#[]⟩,false):=if_pos h
theorem qj{a b:ByteArray}(h:¬0<=aG a b):GN a b=(b.extract 0 (shared a.data.toList b.data.toList+1),true):=if_neg h
theorem iC(b:ByteArray)(k:Nat):(b.extract 0 k).data.toList=b.data.toList.take k:=by simp[ByteArray.data_extract]
end Lx
end Go.Proofs.YtmcbidhpkpmalaaGreatDoor
namespace Go.Proofs.YtmcbidhpkpmalaaGreatDoor
open Go.RowKit
open Go.Lib (hid)
namespace Lx
theorem GQ(a b:ByteArray)(w:World)(ha:a.size<=maxLen)(hb:b.size<=maxLen):
 Calls Tryz.prog 57 #[.string a,.string b] w fun e w'=>e=.returned (.tuple #[.string (GN a b).1,.bool (GN a b).2])/\∃n,w'=w.drewN n:=by
 unfold maxLen at ha hb;by_cases h:0<=aG a b
 . have HR:=hid (vN h)
   go_enter Tryz.func57,Tryz.ntmps57
   go_wp2_with (go_at_call 35;refine(dD _ _ _ ?_).mono ?_;(unfold maxLen;omega);rintro e w' ⟨rfl,n,rfl⟩)
   go_ret2
   exact⟨zn (by rw[HR.out];rfl) (by rw[HR.out];rfl),n,rfl⟩
 . have HR:=hid (qj h)
   have hneg:Lib.compareBytes a.data.toList b.data.toList<0:=by unfold aG at h;omega
   have hl:shared a.data.toList b.data.toList<b.size:=by
    have:=jN hneg;rw[len_eq]at this;exact this
   have H1:=hid (jO a.data.toList b.data.toList);have H2:=hid (jP a.data.toList b.data.toList hneg);clear hneg;generalize hs:shared a.data.toList b.data.toList=m at*;have HS:=hid hs;clear hs;go_enter Tryz.func57,Tryz.ntmps57
   go_wp2_with (go_at_call 35;refine(dD _ _ _ ?_).mono ?_;(unfold maxLen;omega);rintro e w' ⟨rfl,n0,rfl⟩)
   go_loopw [6] (fun i wr=>∃k:Nat,k<=m+1/\i= .int .i64 k/\∃n,wr=w.drewN n) (fun i _=>m+1-(intOf i).toNat)
   case atStart=>exact⟨0,Nat.zero_le _,rfl,_,rfl⟩
   case round=>
    obtain⟨k,hk,rfl,n,rfl⟩:=hrel;by_cases h3:k<=m
    . have h4:0<=aG a (b.extract 0 k):=by
       have:=H1.out k h3;unfold aG;rw[iC];exact this
      go_wp2_with (go_at_call 35;refine(dD _ _ _ ?_).mono ?_;(unfold maxLen;omega);rintro e w' ⟨rfl,n1,rfl⟩)
      go_roundw
      case rel=>exact⟨k+1,by omega,by go_num,_,rfl⟩
      case measure=>simp[intOf];omega
    . obtain rfl:k=m+1:=by omega
      have h4:aG a (b.extract 0 (m+1))<0:=by
       have:=H2.out;unfold aG;rw[iC];exact this
      go_wp2_with (go_at_call 35;refine(dD _ _ _ ?_).mono ?_;(unfold maxLen;omega);rintro e w' ⟨rfl,n1,rfl⟩)
      go_ret2
      exact⟨zn (by rw[HR.out];rfl) (by rw[HR.out];rfl),_,rfl⟩
end Lx
end Go.Proofs.YtmcbidhpkpmalaaGreatDoor
