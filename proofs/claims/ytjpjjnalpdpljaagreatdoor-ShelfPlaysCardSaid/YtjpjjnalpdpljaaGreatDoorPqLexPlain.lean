import Derived.Lib.Bytealg
import Derived.Test.YtjpjjnalpdpljaaGreatDoorPkAA
namespace Go.Proofs.YtjpjjnalpdpljaaGreatDoor
namespace Lx
open Go.Lib
theorem zm:∀a:List UInt8,compareBytes a a=0
 |[]=>rfl
 |a::as=>by simp [compareBytes,zm as]
theorem fO (a:UInt8) (as bs:List UInt8):compareBytes (a::as) (a::bs)=compareBytes as bs:=by
 simp [compareBytes]
theorem vZ (a b:UInt8):a<b\/a=b\/b<a:=by
 simp only [UInt8.lt_iff_toNat_lt,<-UInt8.toNat_inj];omega
theorem yu {a b:UInt8} (h:a<b):¬b<a:=by
 simp only [UInt8.lt_iff_toNat_lt] at*;omega
theorem yw {a b c:UInt8} (h:a<b) (k:b<c):a<c:=by
 simp only [UInt8.lt_iff_toNat_lt] at*;omega
theorem eU {a b:UInt8} (as bs:List UInt8) (h:a<b):compareBytes (a::as) (b::bs)= -1:=by
 simp [compareBytes,h]
theorem fP {a b:UInt8} (as bs:List UInt8) (h:b<a):compareBytes (a::as) (b::bs)=1:=by
 simp [compareBytes,h,yu h]
theorem xE:∀a b:List UInt8,compareBytes a b= -compareBytes b a
 |[],[]=>by simp [compareBytes]
 |[],_::_=>by simp [compareBytes]
 |_::_,[]=>by simp [compareBytes]
 |a::as,b::bs=>by
  rcases vZ a b with h|rfl|h
  . rw [eU _ _ h,fP _ _ h]
  . rw [fO,fO];exact xE as bs
  . rw [fP _ _ h,eU _ _ h];rfl
theorem zn:∀{a b:List UInt8},compareBytes a b=0->a=b
 |[],[],_=>rfl
 |[],_::_,h=>by simp [compareBytes] at h
 |_::_,[],h=>by simp [compareBytes] at h
 |a::as,b::bs,h=>by
  rcases vZ a b with k|rfl|k
  . rw [eU _ _ k] at h;omega
  . rw [fO] at h;rw [zn h]
  . rw [fP _ _ k] at h;omega
theorem nD:∀{a b c:List UInt8},compareBytes a b<0->compareBytes b c<0->compareBytes a c<0
 |[],[],_,h,_=>by simp [compareBytes] at h
 |_::_,[],_,h,_=>by simp [compareBytes] at h
 |_,_::_,[],_,k=>by simp [compareBytes] at k
 |[],_::_,_::_,_,_=>by simp [compareBytes]
 |a::as,b::bs,c::cs,h,k=>by
  rcases vZ a b with h1|rfl|h1
  . rcases vZ b c with h2|rfl|h2
    . rw [eU _ _ (yw h1 h2)];omega
    . rw [eU _ _ h1];omega
    . rw [fP _ _ h2] at k;omega
  . rcases vZ a c with h2|rfl|h2
    . rw [eU _ _ h2];omega
    . rw [fO] at*;exact nD h k
    . rw [fP _ _ h2] at k;omega
  . rw [fP _ _ h1] at h;omega
theorem pK:∀{a b:List UInt8} {k:Nat},k<a.length->k<b.length->(∀j,j<k->a.getD j 0=b.getD j 0)->a.getD k 0<b.getD k 0->compareBytes a b= -1
 |[],_,_,h,_,_,_=>by simp at h
 |_::_,[],_,_,h,_,_=>by simp at h
 |a::as,b::bs,0,_,_,_,h=>eU _ _ (by simpa using h)
 |a::as,b::bs,k+1,ha,hb,he,h=>by
  have e:a=b:=by simpa using he 0 (by omega)
  subst e;rw [fO];exact pK (k:=k) (by simpa using ha) (by simpa using hb) (fun j hj=>by simpa using he (j+1) (by omega)) (by simpa using h)
theorem Eo {a b:List UInt8} {k:Nat} (ha:k<a.length) (hb:k<b.length) (he:∀j,j<k->a.getD j 0=b.getD j 0) (h:b.getD k 0<a.getD k 0):compareBytes a b=1:=by
 have:=pK hb ha (fun j hj=>(he j hj).symm) h;rw [xE,this];rfl
theorem qK:∀{a b:List UInt8},(∀j,j<a.length->j<b.length->a.getD j 0=b.getD j 0)->
 compareBytes a b=if a.length<b.length then-1 else if b.length<a.length then 1 else 0
 |[],[],_=>by simp [compareBytes]
 |[],_::_,_=>by simp [compareBytes]
 |_::_,[],_=>by simp [compareBytes]
 |a::as,b::bs,he=>by
  have e:a=b:=by simpa using he 0 (by simp) (by simp)
  subst e;rw [fO,qK (a:=as) (b:=bs) (fun j h1 h2=>by simpa using he (j+1) (by simpa using h1) (by simpa using h2))];simp only [List.length_cons,Nat.add_lt_add_iff_right]
end Lx
end Go.Proofs.YtjpjjnalpdpljaaGreatDoor
