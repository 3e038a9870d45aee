import Derived.Lib.Bytealg
namespace Go.Proofs.YtjpjjnalpdpljaaGreatDoor
namespace Lx
open Go.Lib
theorem cmp_self:∀a:List UInt8,compareBytes a a=0
 |[]=>rfl
 |a::as=>by simp [compareBytes,cmp_self as]
theorem cmp_cons_eq (a:UInt8) (as bs:List UInt8):compareBytes (a::as) (a::bs)=compareBytes as bs:=by
 simp [compareBytes]
theorem u8_tri (a b:UInt8):a<b\/a=b\/b<a:=by
 simp only [UInt8.lt_iff_toNat_lt,<-UInt8.toNat_inj];omega
theorem u8_lt_asymm {a b:UInt8} (h:a<b):¬b<a:=by
 simp only [UInt8.lt_iff_toNat_lt] at*;omega
theorem u8_lt_trans {a b c:UInt8} (h:a<b) (k:b<c):a<c:=by
 simp only [UInt8.lt_iff_toNat_lt] at*;omega
theorem cmp_cons_lt {a b:UInt8} (as bs:List UInt8) (h:a<b):compareBytes (a::as) (b::bs)= -1:=by
 simp [compareBytes,h]
theorem cmp_cons_gt {a b:UInt8} (as bs:List UInt8) (h:b<a):compareBytes (a::as) (b::bs)=1:=by
 simp [compareBytes,h,u8_lt_asymm h]
theorem cmp_neg:∀a b:List UInt8,compareBytes a b= -compareBytes b a
 |[],[]=>by simp [compareBytes]
 |[],_::_=>by simp [compareBytes]
 |_::_,[]=>by simp [compareBytes]
 |a::as,b::bs=>by
  rcases u8_tri a b with h|rfl|h
  . rw [cmp_cons_lt _ _ h,cmp_cons_gt _ _ h]
  . rw [cmp_cons_eq,cmp_cons_eq];exact cmp_neg as bs
  . rw [cmp_cons_gt _ _ h,cmp_cons_lt _ _ h];rfl
theorem cmp_zero:∀{a b:List UInt8},compareBytes a b=0->a=b
 |[],[],_=>rfl
 |[],_::_,h=>by simp [compareBytes] at h
 |_::_,[],h=>by simp [compareBytes] at h
 |a::as,b::bs,h=>by
  rcases u8_tri a b with k|rfl|k
  . rw [cmp_cons_lt _ _ k] at h;omega
  . rw [cmp_cons_eq] at h;rw [cmp_zero h]
  . rw [cmp_cons_gt _ _ k] at h;omega
theorem cmp_trans_lt:∀{a b c:List UInt8},compareBytes a b<0->compareBytes b c<0->compareBytes a c<0
 |[],[],_,h,_=>by simp [compareBytes] at h
 |_::_,[],_,h,_=>by simp [compareBytes] at h
 |_,_::_,[],_,k=>by simp [compareBytes] at k
 |[],_::_,_::_,_,_=>by simp [compareBytes]
 |a::as,b::bs,c::cs,h,k=>by
  rcases u8_tri a b with h1|rfl|h1
  . rcases u8_tri b c with h2|rfl|h2
    . rw [cmp_cons_lt _ _ (u8_lt_trans h1 h2)];omega
    . rw [cmp_cons_lt _ _ h1];omega
    . rw [cmp_cons_gt _ _ h2] at k;omega
  . rcases u8_tri a c with h2|rfl|h2
    . rw [cmp_cons_lt _ _ h2];omega
    . rw [cmp_cons_eq] at*;exact cmp_trans_lt h k
    . rw [cmp_cons_gt _ _ h2] at k;omega
  . rw [cmp_cons_gt _ _ h1] at h;omega
theorem cmp_at_lt:∀{a b:List UInt8} {k:Nat},k<a.length->k<b.length->(∀j,j<k->a.getD j 0=b.getD j 0)->a.getD k 0<b.getD k 0->compareBytes a b= -1
 |[],_,_,h,_,_,_=>by simp at h
 |_::_,[],_,_,h,_,_=>by simp at h
 |a::as,b::bs,0,_,_,_,h=>cmp_cons_lt _ _ (by simpa using h)
 |a::as,b::bs,k+1,ha,hb,he,h=>by
  have e:a=b:=by simpa using he 0 (by omega)
  subst e
  rw [cmp_cons_eq]
  exact cmp_at_lt (k:=k) (by simpa using ha) (by simpa using hb) (fun j hj=>by simpa using he (j+1) (by omega)) (by simpa using h)
theorem cmp_at_gt {a b:List UInt8} {k:Nat} (ha:k<a.length) (hb:k<b.length) (he:∀j,j<k->a.getD j 0=b.getD j 0) (h:b.getD k 0<a.getD k 0):compareBytes a b=1:=by
 have:=cmp_at_lt hb ha (fun j hj=>(he j hj).symm) h
 rw [cmp_neg,this];rfl
end Lx
end Go.Proofs.YtjpjjnalpdpljaaGreatDoor
