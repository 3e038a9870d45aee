import Derived.Lib.Bytealg
import Derived.Test.YtmcbidhpkpmalaaGreatDoorPkAA
namespace Go.Proofs.YtmcbidhpkpmalaaGreatDoor
namespace Lx
open Go.Lib
theorem tV:∀a:List UInt8,compareBytes a a=0
 |[]=>rfl
 |a::az=>by simp[compareBytes,tV az]
theorem bK(a:UInt8)(az bs:List UInt8):compareBytes (a::az) (a::bs)=compareBytes az bs:=by simp[compareBytes]
theorem oG(a b:UInt8):a<b\/a=b\/b<a:=by simp only[UInt8.lt_iff_toNat_lt,<-UInt8.toNat_inj];omega
theorem oH(a:UInt8):¬a<a:=by simp
theorem q8{a b:UInt8}(h:a<b):¬b<a:=by simp only[UInt8.lt_iff_toNat_lt]at*;omega
theorem yS{a b c:UInt8}(h:a<b)(k:b<c):a<c:=by simp only[UInt8.lt_iff_toNat_lt]at*;omega
theorem dG{a b:UInt8}(az bs:List UInt8)(h:a<b):compareBytes (a::az) (b::bs)= -1:=by simp[compareBytes,h]
theorem dH{a b:UInt8}(az bs:List UInt8)(h:b<a):compareBytes (a::az) (b::bs)=1:=by simp[compareBytes,h,q8 h]
theorem xM:∀a b:List UInt8,compareBytes a b= -compareBytes b a
 |[],[]=>by simp[compareBytes]
 |[],_::_=>by simp[compareBytes]
 |_::_,[]=>by simp[compareBytes]
 |a::az,b::bs=>by rcases oG a b with h|rfl|h;(. rw[dG _ _ h,dH _ _ h]);(. rw[bK,bK];exact xM az bs);. rw[dH _ _ h,dG _ _ h];rfl
theorem lZ:∀{a b:List UInt8},compareBytes a b=0->a=b
 |[],[],_=>rfl
 |[],_::_,h=>by simp[compareBytes]at h
 |_::_,[],h=>by simp[compareBytes]at h
 |a::az,b::bs,h=>by rcases oG a b with k|rfl|k;(. rw[dG _ _ k]at h;omega);(. rw[bK]at h;rw[lZ h]);. rw[dH _ _ k]at h;omega
theorem jM:∀{a b c:List UInt8},compareBytes a b<0->compareBytes b c<0->compareBytes a c<0
 |[],[],_,h,_=>by simp[compareBytes]at h
 |_::_,[],_,h,_=>by simp[compareBytes]at h
 |_,_::_,[],_,k=>by simp[compareBytes]at k
 |[],_::_,_::_,_,_=>by simp[compareBytes]
 |a::az,b::bs,c::cs,h,k=>by rcases oG a b with h1|rfl|h1;(. rcases oG b c with h2|rfl|h2;(. rw[dG _ _ (yS h1 h2)];omega);(. rw[dG _ _ h1];omega);. rw[dH _ _ h2]at k;omega);(. rcases oG a c with h2|rfl|h2;(. rw[dG _ _ h2];omega);(. rw[bK]at*;exact jM h k);. rw[dH _ _ h2]at k;omega);. rw[dH _ _ h1]at h;omega
theorem wB{a b c:List UInt8}(h:compareBytes a b<=0)(k:compareBytes b c<=0):compareBytes a c<=0:=by by_cases h0:compareBytes a b=0;(. rw[lZ h0];exact k);. by_cases k0:compareBytes b c=0;(. rw[<-lZ k0];exact h);. have:=jM (a:=a) (b:=b) (c:=c) (by omega) (by omega);omega
def shared:List UInt8->List UInt8->Nat
 |a::az,b::bs=>if a=b then shared az bs+1 else 0
 |_,_=>0
theorem jO:∀(a b:List UInt8) (n:Nat),n<=shared a b->0<=compareBytes a (b.take n)
 |[],b,n,h=>by have:n=0:=by simpa[shared]using h
               subst this;simp[compareBytes]
 |a::az,[],n,h=>by simp[compareBytes]
 |a::az,b::bs,n,h=>by
  cases n with
  |zero=>simp[compareBytes]
  |succ n=>
   simp only[shared]at h;split at h
   . rename_i e
     subst e;rw[List.take_succ_cons,bK];exact jO az bs n (by omega)
   . omega
theorem jP:∀(a b:List UInt8),compareBytes a b<0->compareBytes a (b.take (shared a b+1))<0
 |[],[],h=>by simp[compareBytes]at h
 |[],b::bs,_=>by simp[shared,compareBytes]
 |_::_,[],h=>by simp[compareBytes]at h
 |a::az,b::bs,h=>by rcases oG a b with h1|rfl|h1;(. rw[List.take_succ_cons,dG _ _ h1];omega);(. (have e:shared (a::az) (a::bs)=shared az bs+1:=by simp[shared]);rw[e,List.take_succ_cons,bK];rw[bK]at h;exact jP az bs h);. rw[dH _ _ h1]at h;omega
theorem jN:∀{a b:List UInt8},compareBytes a b<0->shared a b<b.length
 |[],[],h=>by simp[compareBytes]at h
 |[],b::bs,_=>by simp[shared]
 |_::_,[],h=>by simp[compareBytes]at h
 |a::az,b::bs,h=>by rcases oG a b with h1|rfl|h1;(. (have:a≠b:=by intro e;subst e;exact oH _ h1);simp[shared,this]);(. rw[bK]at h;have:=jN h;simp[shared];omega);. rw[dH _ _ h1]at h;omega
theorem qh:∀{a b:List UInt8} {k:Nat},k<a.length->k<b.length->(∀j,j<k->a.getD j 0=b.getD j 0)->a.getD k 0<b.getD k 0->compareBytes a b= -1
 |[],_,_,h,_,_,_=>by simp at h
 |_::_,[],_,_,h,_,_=>by simp at h
 |a::az,b::bs,0,_,_,_,h=>dG _ _ (by simpa using h)
 |a::az,b::bs,k+1,ha,hb,he,h=>by (have e:a=b:=by simpa using he 0 (by omega));subst e;rw[bK];exact qh (k:=k) (by simpa using ha) (by simpa using hb) (fun j hj=>by simpa using he (j+1) (by omega)) (by simpa using h)
theorem Du{a b:List UInt8}{k:Nat}(ha:k<a.length)(hb:k<b.length)(he:∀j,j<k->a.getD j 0=b.getD j 0)(h:b.getD k 0<a.getD k 0):compareBytes a b=1:=by have:=qh hb ha (fun j hj=>(he j hj).symm) h;rw[xM,this];rfl
theorem sj:∀{a b:List UInt8},(∀j,j<a.length->j<b.length->a.getD j 0=b.getD j 0)->
 compareBytes a b=if a.length<b.length then-1 else if b.length<a.length then 1 else 0
 |[],[],_=>by simp[compareBytes]
 |[],_::_,_=>by simp[compareBytes]
 |_::_,[],_=>by simp[compareBytes]
 |a::az,b::bs,he=>by
  have e:a=b:=by simpa using he 0 (by simp) (by simp)
  subst e;rw[bK,sj (a:=az) (b:=bs) (fun j h1 h2=>by simpa using he (j+1) (by simpa using h1) (by simpa using h2))];simp only[List.length_cons,Nat.add_lt_add_iff_right]
end Lx
end Go.Proofs.YtmcbidhpkpmalaaGreatDoor
