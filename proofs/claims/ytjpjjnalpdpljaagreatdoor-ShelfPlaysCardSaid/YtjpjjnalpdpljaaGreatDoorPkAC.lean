import Derived.Test.YtjpjjnalpdpljaaGreatDoorPkAB
import Derived.Test.YtjpjjnalpdpljaaGreatDoorPkAA
import Derived.Lib.TrailingZeros
import Derived.Test.YtjpjjnalpdpljaaGreatDoorProg
import Derived.Laws.BitsAllLaws
import Derived.WalkKit
import Derived.WalkLawsBesides
import Derived.KernelRfl
import Derived.Lib.Hide
import Derived.ProofKit
namespace Go.Proofs.YtjpjjnalpdpljaaGreatDoor
namespace Pq
open Hp
structure Mvd (l L:List Nat) (a b:Nat):Prop where
 perm:L.Perm l
 out:∀k,k<a\/b<=k->gt L k=gt l k
section
variable {l L M:List Nat} {a b:Nat}
theorem Mvd.refl (l:List Nat) (a b:Nat):Mvd l l a b:=⟨List.Perm.refl _,fun _ _=>rfl⟩
theorem Mvd.len (h:Mvd l L a b):L.length=l.length:=h.perm.length_eq
theorem Mvd.trans (h:Mvd l L a b) (g:Mvd L M a b):Mvd l M a b:=⟨g.perm.trans h.perm,fun k hk=>(g.out k hk).trans (h.out k hk)⟩
theorem Mvd.mono {a' b':Nat} (h:Mvd l L a b) (ha:a'<=a) (hb:b<=b'):Mvd l L a' b':=⟨h.perm,fun k hk=>h.out k (by omega)⟩
theorem Mvd.swp {i j:Nat} (hb:b<=l.length) (hi:a<=i) (hi2:i<b) (hj:a<=j) (hj2:j<b):Mvd l (swp l i j) a b:=
 ⟨F7 (by omega) (by omega),fun k hk=>by
   rw [jA (by omega) (by omega),if_neg (by omega),if_neg (by omega)]⟩
theorem Mvd.swap {i j:Nat} (h:Mvd l L a b) (hb:b<=l.length) (hi:a<=i) (hi2:i<b) (hj:a<=j) (hj2:j<b):Mvd l (Hp.swp L i j) a b:=
 h.trans (Mvd.swp (by rw [h.len];exact hb) hi hi2 hj hj2)
theorem yF {A B:List Nat} (hl:A.length=B.length) (h:∀k,k<A.length->gt A k=gt B k):A=B:=by
 refine List.ext_getElem hl fun k h1 h2=>?_;have:=h k h1
 rwa [jy h1,jy h2] at this
theorem q8 {n k:Nat} (hk:k<n):gt (l.take n) k=gt l k:=by
 unfold gt;rw [List.getD_eq_getElem?_getD,List.getD_eq_getElem?_getD,List.getElem?_take,if_pos hk]
theorem iO (n k:Nat):gt (l.drop n) k=gt l (n+k):=by
 unfold gt;rw [List.getD_eq_getElem?_getD,List.getD_eq_getElem?_getD,List.getElem?_drop]
theorem Mvd.ex (h:Mvd l L a b) (hb:b<=l.length) {k:Nat} (hk:a<=k) (hk2:k<b):∃j,a<=j/\j<b/\gt L k=gt l j:=by
 have hl:=h.len
 have e1:L.take a=l.take a:=yF (by simp [hl]) fun j hj=>by
  have hja:j<a:=by simp at hj;omega
  rw [q8 hja,q8 hja];exact h.out j (.inl hja)
 have e2:L.drop b=l.drop b:=yF (by simp [hl]) fun j _=>by
  rw [iO,iO];exact h.out _ (.inr (by omega))
 have s1:∀X:List Nat,X=X.take a++((X.drop a).take (b-a)++X.drop b):=fun X=>by
  have:X.drop b=(X.drop a).drop (b-a):=by rw [List.drop_drop,show a+(b-a)=b by omega]
  rw [this,List.take_append_drop,List.take_append_drop]
 have hp:=h.perm;rw [s1 L,s1 l,e1,e2,List.perm_append_left_iff,List.perm_append_right_iff] at hp
 have hm:gt L k∈(L.drop a).take (b-a):=by
  have:gt ((L.drop a).take (b-a)) (k-a)=gt L k:=by
   rw [q8 (by omega),iO,show a+(k-a)=k by omega]
  rw [<-this,jy (by simp;omega)];exact List.getElem_mem _
 obtain ⟨i,hi,e⟩:=List.mem_iff_getElem.1 (hp.mem_iff.1 hm);have hi2:i<b-a:=by simp at hi;omega
 refine ⟨a+i,by omega,by omega,?_⟩;rw [<-e,<-jy hi,q8 hi2,iO]
theorem Mvd.all {P:Nat->Prop} (h:Mvd l L a b) (hb:b<=l.length) (hp:∀k,a<=k->k<b->P (gt l k)):∀k,a<=k->k<b->P (gt L k):=fun k h1 h2=>by
 obtain ⟨j,h3,h4,e⟩:=h.ex hb h1 h2;rw [e];exact hp j h3 h4
def Adj (l:List Nat) (a b:Nat):Prop:=∀i,a<i->i<b->gt l (i-1)<=gt l i
def wG (l:List Nat) (a b:Nat):Prop:=∀i j,a<=i->i<j->j<b->gt l i<=gt l j
theorem Adj.ord (h:Adj l a b):wG l a b:=fun i j h1 h2 h3=>by
 induction j with
 |zero=>omega
 |succ j ih=>
  have:=h (j+1) (by omega) h3;rw [Nat.add_sub_cancel] at this;by_cases e:i=j
  . rw [e]
    exact this
  . exact Nat.le_trans (ih (by omega) (by omega)) this
structure Ins (l:List Nat) (a i j:Nat):Prop where
 adj:∀k,a<k->k<=i->k≠j->gt l (k-1)<=gt l k
 gap:a<j->j<i->gt l (j-1)<=gt l (j+1)
theorem Ins.start {i:Nat} (h:Adj l a i):Ins l a i i:=⟨fun k h1 h2 h3=>h k h1 (by omega),fun _ h2=>by omega⟩
theorem Ins.stop {i j:Nat} (h:Ins l a i j) (hj:j<=a\/gt l (j-1)<=gt l j):Adj l a (i+1):=fun k h1 h2=>by
 by_cases e:k=j
 . subst e
   rcases hj with hj|hj
   . omega
   . exact hj
 . exact h.adj k h1 (by omega) e
theorem Ins.step {i j:Nat} (h:Ins l a i (j+1)) (haj:a<=j) (hji:j+1<=i) (hi:i<l.length) (hlt:gt l (j+1)<gt l j):Ins (Hp.swp l (j+1) j) a i j:=by
 have G:=jA (l:=l) (i:=j+1) (j:=j) (by omega) (by omega);refine ⟨fun k h1 h2 h3=>?_,fun h1 h2=>?_⟩
 . by_cases e1:k=j+1
   . subst e1
     rw [G,G,if_pos (by omega),if_neg (by omega),if_pos rfl];exact Nat.le_of_lt hlt
   . by_cases e2:k=j+2
     . subst e2
       rw [G,G,if_neg (by omega),if_pos (by omega),if_neg (by omega),if_neg (by omega)];have:=h.gap (by omega) (by omega)
       rwa [Nat.add_sub_cancel] at this
     . rw [G,G,if_neg (by omega),if_neg (by omega),if_neg (by omega),if_neg (by omega)]
       exact h.adj k h1 h2 e1
 . rw [G,G,if_neg (by omega),if_neg (by omega),if_neg (by omega),if_pos rfl]
   exact h.adj j h1 (by omega) (by omega)
structure Pt (l:List Nat) (a b i j:Nat):Prop where
 ai:a<i
 ij:i<=j+1
 jb:j<b
 lo:∀k,a<k->k<i->gt l k<gt l a
 hi:∀k,j<k->k<b->gt l a<=gt l k
theorem Pt.up {i j:Nat} (h:Pt l a b i j) (hij:i<=j) (hx:gt l i<gt l a):Pt l a b (i+1) j:=⟨by have:=h.ai;omega,by omega,h.jb,fun k h1 h2=>by
 by_cases e:k=i
 . rw [e];exact hx
 . exact h.lo k h1 (by omega),h.hi⟩
theorem Pt.down {i j:Nat} (h:Pt l a b i (j+1)) (hij:i<=j+1) (hx:gt l a<=gt l (j+1)):Pt l a b i j:=⟨h.ai,by omega,by have:=h.jb;omega,h.lo,fun k h1 h2=>by
 by_cases e:k=j+1
 . rw [e];exact hx
 . exact h.hi k (by omega) h2⟩
theorem Pt.swap {i j:Nat} (h:Pt l a b i (j+1)) (hij:i<=j+1) (hb:b<=l.length) (hx:¬gt l i<gt l a) (hy:¬gt l a<=gt l (j+1)):Pt (Hp.swp l i (j+1)) a b (i+1) j:=by
 have h1:=h.ai;have h2:=h.jb
 have hne:i≠j+1:=fun e=>by
  subst e;omega
 have G:=jA (l:=l) (i:=i) (j:=j+1) (by omega) (by omega);have ga:gt (Hp.swp l i (j+1)) a=gt l a:=by rw [G,if_neg (by omega),if_neg (by omega)]
 refine ⟨by omega,by omega,by omega,fun k h3 h4=>?_,fun k h3 h4=>?_⟩
 . rw [ga,G,if_neg (by omega)]
   by_cases e:k=i
   . rw [if_pos e]
     omega
   . rw [if_neg e]
     exact h.lo k h3 (by omega)
 . rw [ga,G]
   by_cases e:k=j+1
   . rw [if_pos e]
     omega
   . rw [if_neg e,if_neg (by omega)]
     exact h.hi k (by omega) h4
structure fK (l:List Nat) (a b m:Nat):Prop where
 am:a<=m
 mb:m<b
 lo:∀k,a<=k->k<m->gt l k<=gt l m
 hi:∀k,m<k->k<b->gt l m<=gt l k
theorem Pt.done {i j:Nat} (h:Pt l a b i j) (hij:j<i) (hb:b<=l.length):fK (Hp.swp l j a) a b j:=by
 have h1:=h.ai;have h2:=h.jb;have h3:=h.ij;have G:=jA (l:=l) (i:=j) (j:=a) (by omega) (by omega)
 have gj:gt (Hp.swp l j a) j=gt l a:=by
  rw [G];by_cases e:j=a
  . rw [if_pos e,e]
  . rw [if_neg e,if_pos rfl]
 refine ⟨by omega,h2,fun k h4 h5=>?_,fun k h4 h5=>?_⟩
 . rw [gj,G]
   by_cases e:k=a
   . rw [if_pos e]
     exact Nat.le_of_lt (h.lo j (by omega) (by omega))
   . rw [if_neg e,if_neg (by omega)]
     exact Nat.le_of_lt (h.lo k (by omega) (by omega))
 . rw [gj,G,if_neg (by omega),if_neg (by omega)]
   exact h.hi k h4 h5
structure Pe (l:List Nat) (a b i j:Nat):Prop where
 ai:a<i
 ij:i<=j+1
 jb:j<b
 lo:∀k,a<=k->k<i->gt l k<=gt l a
 hi:∀k,j<k->k<b->gt l a<gt l k
theorem Pe.up {i j:Nat} (h:Pe l a b i j) (hij:i<=j) (hx:gt l i<=gt l a):Pe l a b (i+1) j:=⟨by have:=h.ai;omega,by omega,h.jb,fun k h1 h2=>by
 by_cases e:k=i
 . rw [e];exact hx
 . exact h.lo k h1 (by omega),h.hi⟩
theorem Pe.down {i j:Nat} (h:Pe l a b i (j+1)) (hij:i<=j+1) (hx:gt l a<gt l (j+1)):Pe l a b i j:=⟨h.ai,by omega,by have:=h.jb;omega,h.lo,fun k h1 h2=>by
 by_cases e:k=j+1
 . rw [e];exact hx
 . exact h.hi k (by omega) h2⟩
theorem Pe.swap {i j:Nat} (h:Pe l a b i (j+1)) (hij:i<=j+1) (hb:b<=l.length) (hx:¬gt l i<=gt l a) (hy:¬gt l a<gt l (j+1)):Pe (Hp.swp l i (j+1)) a b (i+1) j:=by
 have h1:=h.ai;have h2:=h.jb
 have hne:i≠j+1:=fun e=>by
  subst e;omega
 have G:=jA (l:=l) (i:=i) (j:=j+1) (by omega) (by omega);have ga:gt (Hp.swp l i (j+1)) a=gt l a:=by rw [G,if_neg (by omega),if_neg (by omega)]
 refine ⟨by omega,by omega,by omega,fun k h3 h4=>?_,fun k h3 h4=>?_⟩
 . rw [ga,G,if_neg (by omega)]
   by_cases e:k=i
   . rw [if_pos e]
     omega
   . rw [if_neg e]
     exact h.lo k h3 (by omega)
 . rw [ga,G]
   by_cases e:k=j+1
   . rw [if_pos e]
     omega
   . rw [if_neg e,if_neg (by omega)]
     exact h.hi k (by omega) h4
def Rest (l:List Nat) (a0 b0 a b:Nat):Prop:=∀i j,a0<=i->i<j->j<b0->(i<a\/b<=j)->gt l i<=gt l j
theorem Rest.moved {a0 b0:Nat} (h:Rest l a0 b0 a b) (hm:Mvd l L a b) (hb:b<=l.length) (ha0:a0<=a) (hb0:b<=b0):Rest L a0 b0 a b:=fun i j h1 h2 h3 h4=>by
 rcases h4 with h4|h4
 . rw [hm.out i (.inl h4)]
   by_cases hj:j<a
   . rw [hm.out j (.inl hj)]
     exact h i j h1 h2 h3 (.inl h4)
   . by_cases hj2:b<=j
     . rw [hm.out j (.inr hj2)]
       exact h i j h1 h2 h3 (.inl h4)
     . obtain ⟨j',h5,h6,e⟩:=hm.ex hb (show a<=j by omega) (by omega)
       rw [e];exact h i j' h1 (by omega) (by omega) (.inl h4)
 . rw [hm.out j (.inr h4)]
   by_cases hi:i<a
   . rw [hm.out i (.inl hi)]
     exact h i j h1 h2 h3 (.inr h4)
   . by_cases hi2:b<=i
     . rw [hm.out i (.inr hi2)]
       exact h i j h1 h2 h3 (.inr h4)
     . obtain ⟨i',h5,h6,e⟩:=hm.ex hb (show a<=i by omega) (by omega)
       rw [e];exact h i' j (by omega) (by omega) h3 (.inr h4)
theorem Rest.start (l:List Nat) (a b:Nat):Rest l a b a b:=fun i j h1 h2 h3 h4=>by omega
theorem Rest.done {a0 b0:Nat} (h:Rest l a0 b0 a b) (ho:wG l a b):wG l a0 b0:=fun i j h1 h2 h3=>by
 by_cases h4:i<a\/b<=j
 . exact h i j h1 h2 h3 h4
 . exact ho i j (by omega) h2 (by omega)
def Blw (l:List Nat) (a b:Nat):Prop:=0<a->∀k,a<=k->k<b->gt l (a-1)<=gt l k
theorem Blw.moved (h:Blw l a b) (hm:Mvd l L a b) (hb:b<=l.length):Blw L a b:=fun h0 k h1 h2=>by
 obtain ⟨j,h3,h4,e⟩:=hm.ex hb h1 h2;rw [e,hm.out (a-1) (.inl (by omega))];exact h h0 j h3 h4
theorem Rest.left {a0 b0 m:Nat} (h:Rest l a0 b0 a b) (hp:fK l a b m) (ho:wG l a m):Rest l a0 b0 (m+1) b:=fun i j h1 h2 h3 h4=>by
 have:=hp.am;have:=hp.mb;by_cases h5:i<a\/b<=j
 . exact h i j h1 h2 h3 h5
 . by_cases e:i=m
   . rw [e]
     exact hp.hi j (by omega) (by omega)
   . by_cases hj:j<m
     . exact ho i j (by omega) h2 hj
     . by_cases e2:j=m
       . rw [e2]
         exact hp.lo i (by omega) (by omega)
       . exact Nat.le_trans (hp.lo i (by omega) (by omega)) (hp.hi j (by omega) (by omega))
theorem Rest.right {a0 b0 m:Nat} (h:Rest l a0 b0 a b) (hp:fK l a b m) (ho:wG l (m+1) b):Rest l a0 b0 a m:=fun i j h1 h2 h3 h4=>by
 have:=hp.am;have:=hp.mb;by_cases h5:i<a\/b<=j
 . exact h i j h1 h2 h3 h5
 . by_cases e:j=m
   . rw [e]
     exact hp.lo i (by omega) (by omega)
   . by_cases e2:i=m
     . rw [e2]
       exact hp.hi j (by omega) (by omega)
     . by_cases hi:i<m
       . exact Nat.le_trans (hp.lo i (by omega) hi) (hp.hi j (by omega) (by omega))
       . exact ho i j (by omega) h2 (by omega)
theorem fK.LJ {m:Nat} (hp:fK l a b m) (hm:Mvd l L a m) (hb:b<=l.length):fK L a b m:=by
 have h1:=hp.am;have h2:=hp.mb;have e:=hm.out m (.inr (Nat.le_refl _));refine ⟨h1,h2,fun k h3 h4=>?_,fun k h3 h4=>?_⟩
 . obtain ⟨j,h5,h6,e2⟩:=hm.ex (by omega) h3 h4
   rw [e2,e];exact hp.lo j h5 h6
 . rw [e,hm.out k (.inr (by omega))]
   exact hp.hi k h3 h4
theorem fK.LK {m:Nat} (hp:fK l a b m) (hm:Mvd l L (m+1) b) (hb:b<=l.length):fK L a b m:=by
 have h1:=hp.am;have h2:=hp.mb;have e:=hm.out m (.inl (by omega));refine ⟨h1,h2,fun k h3 h4=>?_,fun k h3 h4=>?_⟩
 . rw [e,hm.out k (.inl (by omega))]
   exact hp.lo k h3 h4
 . obtain ⟨j,h5,h6,e2⟩:=hm.ex (by omega) (show m+1<=k by omega) h4
   rw [e2,e];exact hp.hi j (by omega) h6
theorem Rest.same {a0 b0 i:Nat} (h:Rest l a0 b0 a b) (_:a<i) (_:i<=b) (lo:∀k,a<=k->k<i->gt l k<=gt l a) (_:∀k,i<=k->k<b->gt l a<gt l k) (hall:∀k,a<=k->k<b->gt l a<=gt l k):Rest l a0 b0 i b:=fun x y h1 h2 h3 h4=>by
 by_cases h5:x<a\/b<=y
 . exact h x y h1 h2 h3 h5
 . exact Nat.le_trans (lo x (by omega) (by omega)) (hall y (by omega) (by omega))
end
end Pq
end Go.Proofs.YtjpjjnalpdpljaaGreatDoor
namespace Go.Proofs.YtjpjjnalpdpljaaGreatDoor
open Go.RowKit
namespace Ca
theorem JB {st:St} (h:Good st) {i:Nat} (hi:i<st.ls.length):(cur st i).length=st.m:=by
 cases hl:look st.fr i with
 |none=>
  rw [qY hl,List.getElem?_eq_getElem hi];exact h.lm _ (List.getElem_mem hi)
 |some y=>
  obtain ⟨j,f⟩:=y;rw [qX hl];exact (h.blk _ _ (aH hl).1).2
end Ca
end Go.Proofs.YtjpjjnalpdpljaaGreatDoor
namespace Go.Proofs.YtjpjjnalpdpljaaGreatDoor.Bt
open Go.Lib (ctz)
open List (getD replicate)
def pc (f:Nat->Bool):Nat->Nat
 |0=>0
 |k+1=>pc f k+if f k then 1 else 0
theorem BZ (f:Nat->Bool):∀k,pc f k<=k
 |0=>Nat.le_refl _
 |k+1=>by have:=BZ f k;unfold pc;split<;>omega
theorem jP {f g:Nat->Bool}:∀{k:Nat},(∀i,i<k->f i=g i)->pc f k=pc g k
 |0,_=>rfl
 |k+1,h=>by
  unfold pc;rw [jP (k:=k) fun i hi=>h i (by omega),h k (by omega)]
theorem yG (f:Nat->Bool) (a:Nat):∀b,pc f (a+b)=pc f a+pc (fun i=>f (a+i)) b
 |0=>rfl
 |b+1=>by
  rw [<-Nat.add_assoc];show pc f (a+b)+(if f (a+b) then 1 else 0)=pc f a+(pc (fun i=>f (a+i)) b+(if f (a+b) then 1 else 0));rw [yG f a b];omega
theorem Cb {f:Nat->Bool}:∀{k:Nat},(∀i,i<k->f i=false)->pc f k=0
 |0,_=>rfl
 |k+1,h=>by
  unfold pc;rw [Cb (k:=k) fun i hi=>h i (by omega),h k (by omega)];rfl
theorem Cc {f:Nat->Bool} {n:Nat} (h:∀i,n<=i->f i=false) {m:Nat} (hm:n<=m):pc f m=pc f n:=by
 obtain ⟨d,rfl⟩:∃d,m=n+d:=⟨m-n,by omega⟩
 rw [yG,Cb (f:=fun i=>f (n+i)) fun i _=>h _ (by omega)];rfl
theorem IX (f:Nat->Bool):∀k,pc (fun i=> !f i) k=k-pc f k
 |0=>rfl
 |k+1=>by
  have:=BZ f k;unfold pc;rw [IX f k];cases f k<;>simp<;>omega
theorem jB (a c x m:Nat) (ha:a<256) (hc:c<256):(a+256*x)&&& (c+256*m)=(a&&& c)+256*(x&&& m):=by
 have h:∀(a x:Nat),a<256->a+256*x=x<<<8 |||a:=fun a x ha=>by
  rw [<-Nat.shiftLeft_add_eq_or_of_lt (i:=8) (by omega)];simp [Nat.shiftLeft_eq];omega
 have hac:a&&& c<256:=Nat.lt_of_le_of_lt Nat.and_le_left ha;rw [h a x ha,h c m hc,h (a&&& c) (x&&& m) hac];apply Nat.eq_of_testBit_eq;intro i;simp only [Nat.testBit_and,Nat.testBit_or,Nat.testBit_shiftLeft];by_cases hi:8<=i
 . have e1:a.testBit i=false:=Nat.testBit_lt_two_pow (Nat.lt_of_lt_of_le ha (by simpa using Nat.pow_le_pow_right (n:=2) (by omega) hi))
   have e2:c.testBit i=false:=Nat.testBit_lt_two_pow (Nat.lt_of_lt_of_le hc (by simpa using Nat.pow_le_pow_right (n:=2) (by omega) hi));simp [hi,e1,e2]
 . simp [hi]
def rep (c:Nat):Nat->Nat
 |0=>0
 |n+1=>c+256*rep c n
theorem q9 (c n:Nat):rep c (n+1)=c+256*rep c n:=rfl
def s1 (n x:Nat):Nat:=(x / 2&&& rep 85 n)+(x&&& rep 85 n)
def s2 (n x:Nat):Nat:=(x / 4&&& rep 51 n)+(x&&& rep 51 n)
def s3 (n x:Nat):Nat:=(x / 16+x)&&& rep 15 n
def q1 (b:Nat):Nat:=(b / 2&&& 85)+(b&&& 85)
def q2 (b:Nat):Nat:=(b / 4&&& 51)+(b&&& 51)
theorem Ce:∀b,b<256->∀t,t<2->(b / 2+128*t)&&& 85=b / 2&&& 85:=by decide+kernel
theorem zZ:∀b,b<256->∀t,t<4->(b / 4+64*t)&&& 51=b / 4&&& 51:=by decide+kernel
theorem OG:∀b,b<256->q1 b<256:=by decide+kernel
theorem LM:∀b,b<256->q2 (q1 b)<=68/\q2 (q1 b) % 16<=4:=by decide+kernel
theorem OH:∀b,b<256->q2 (q1 b) / 16+q2 (q1 b) % 16=pc b.testBit 8:=by decide+kernel
theorem JC (n b h:Nat) (hb:b<256):s1 (n+1) (b+256*h)=q1 b+256*s1 n h:=by
 unfold s1 q1;rw [q9];have e:(b+256*h) / 2=(b / 2+128*(h % 2))+256*(h / 2):=by omega
 rw [e,jB _ 85 _ _ (by omega) (by omega),jB b 85 _ _ hb (by omega),Ce b hb _ (by omega)];omega
theorem JD (n b h:Nat) (hb:b<256):s2 (n+1) (b+256*h)=q2 b+256*s2 n h:=by
 unfold s2 q2;rw [q9];have e:(b+256*h) / 4=(b / 4+64*(h % 4))+256*(h / 4):=by omega
 rw [e,jB _ 51 _ _ (by omega) (by omega),jB b 51 _ _ hb (by omega),zZ b hb _ (by omega)];omega
def s21 (n x:Nat):Nat:=s2 n (s1 n x)
theorem yH (n b h:Nat) (hb:b<256):s21 (n+1) (b+256*h)=q2 (q1 b)+256*s21 n h:=by
 unfold s21;rw [JC n b h hb,JD n (q1 b) _ (OG b hb)]
theorem JE:∀(n x:Nat),s21 n x % 16<=4
 |0,x=>by simp [s21,s2,rep]
 |n+1,x=>by
  have e:x=x % 256+256*(x / 256):=by omega
  have:=LM (x % 256) (by omega);rw [e,yH n _ _ (by omega)];omega
def sb:Nat->Nat->Nat
 |0,_=>0
 |n+1,x=>pc (x % 256).testBit 8+256*sb n (x / 256)
theorem IY:∀(n x:Nat),s3 n (s21 n x)=sb n x
 |0,x=>by simp [s3,rep,sb]
 |n+1,x=>by
  have ih:=IY n (x / 256);have hl:=JE n (x / 256);have hq:=LM (x % 256) (by omega);have hp:=OH (x % 256) (by omega);have e:x=x % 256+256*(x / 256):=by omega
  unfold sb;rw [<-ih,<-hp]
  have e2:s21 (n+1) x=q2 (q1 (x % 256))+256*s21 n (x / 256):=by
   have:=yH n (x % 256) (x / 256) (by omega)
   rwa [<-e] at this
  rw [e2];generalize s21 n (x / 256)=k at*;generalize q2 (q1 (x % 256))=c at*;unfold s3;rw [q9];have e3:(c+256*k) / 16+(c+256*k)=(c / 16+c+16*(k % 16))+256*(k / 16+k):=by omega
  rw [e3,jB _ 15 _ _ (by omega) (by omega),show (15:Nat)=2 ^ 4-1 from rfl,Nat.and_two_pow_sub_one_eq_mod];have e4:(c / 16+c+16*(k % 16)) % 2 ^ 4=c / 16+c % 16:=by omega
  rw [e4]
theorem kg (x k:Nat):pc x.testBit (8+k)=pc (x % 256).testBit 8+pc (x / 256).testBit k:=by
 rw [yG];congr 1
 . refine jP fun i hi=>?_
   rw [show 256=2 ^ 8 from rfl,Nat.testBit_mod_two_pow];simp [hi]
 . refine jP fun i _=>?_
   show x.testBit (8+i)=_;rw [show 256=2 ^ 8 from rfl,Nat.testBit_div_two_pow];congr 1;omega
def ones (x:Nat):Nat:=pc x.testBit 64
theorem JF (x:Nat):ones x<=64:=BZ _ _
theorem jC {p y B:Nat} (h:p<=8) (k:y<=B):p+256*y<=8+256*B:=by omega
theorem F9 (x v t u:Nat) (hv:v=sb 8 x) (ht:t=v+v / 256) (hu:u=t+t / 65536):v<=578721382704613384/\(u+u / 4294967296) % 128=ones x:=by
 have h:∀y,pc (Nat.testBit (y % 256)) 8<=8:=fun y=>BZ _ _
 have e:ones x=pc (x % 256).testBit 8+(pc (x / 256 % 256).testBit 8+(pc (x / 256 / 256 % 256).testBit 8+(pc (x / 256 / 256 / 256 % 256).testBit 8+(pc (x / 256 / 256 / 256 / 256 % 256).testBit 8
  +(pc (x / 256 / 256 / 256 / 256 / 256 % 256).testBit 8+(pc (x / 256 / 256 / 256 / 256 / 256 / 256 % 256).testBit 8+pc (x / 256 / 256 / 256 / 256 / 256 / 256 / 256 % 256).testBit 8)))))):=by
  unfold ones;rw [kg x 56,kg _ 48,kg _ 40,kg _ 32,kg _ 24,kg _ 16,kg _ 8]
  have:∀y,pc (Nat.testBit y) 8=pc (Nat.testBit (y % 256)) 8:=fun y=>jP fun i hi=>by
   rw [show 256=2 ^ 8 from rfl,Nat.testBit_mod_two_pow];simp [hi]
  rw [this (x / 256 / 256 / 256 / 256 / 256 / 256 / 256)]
 have h0:=h x;have h1:=h (x / 256);have h2:=h (x / 256 / 256);have h3:=h (x / 256 / 256 / 256);have h4:=h (x / 256 / 256 / 256 / 256);have h5:=h (x / 256 / 256 / 256 / 256 / 256);have h6:=h (x / 256 / 256 / 256 / 256 / 256 / 256);have h7:=h (x / 256 / 256 / 256 / 256 / 256 / 256 / 256);rw [e];simp only [sb] at hv;generalize pc (Nat.testBit (x % 256)) 8=p0 at*;generalize pc (Nat.testBit (x / 256 % 256)) 8=p1 at*;generalize pc (Nat.testBit (x / 256 / 256 % 256)) 8=p2 at*;generalize pc (Nat.testBit (x / 256 / 256 / 256 % 256)) 8=p3 at*;generalize pc (Nat.testBit (x / 256 / 256 / 256 / 256 % 256)) 8=p4 at*;generalize pc (Nat.testBit (x / 256 / 256 / 256 / 256 / 256 % 256)) 8=p5 at*;generalize pc (Nat.testBit (x / 256 / 256 / 256 / 256 / 256 / 256 % 256)) 8=p6 at*;generalize pc (Nat.testBit (x / 256 / 256 / 256 / 256 / 256 / 256 / 256 % 256)) 8=p7 at*;clear h e;have d1:∀y z,y<256->(y+256*z) / 256=z:=fun y z _=>by omega
 have d2:∀y z,y<65536->(y+65536*z) / 65536=z:=fun y z _=>by omega
 have d3:∀y z,y<4294967296->(y+4294967296*z) / 4294967296=z:=fun y z _=>by omega
 have d4:∀y z,y<128->(y+256*z) % 128=y:=fun y z _=>by omega
 have hle:v<=578721382704613384:=by
  subst hv;exact jC h0 (jC h1 (jC h2 (jC h3 (jC h4 (jC h5 (jC h6 (jC h7 (Nat.le_refl 0))))))))
 refine ⟨hle,?_⟩;clear hle;have a:p0+p1+p2+p3<=32:=by clear ht hu hv d1 d2 d3 d4;omega
 have b:p1+p2+p3+p4<=32:=by clear ht hu hv d1 d2 d3 d4;omega
 have c:p2+p3+p4+p5<=32:=by clear ht hu hv d1 d2 d3 d4;omega
 have d:p3+p4+p5+p6<=32:=by clear ht hu hv d1 d2 d3 d4;omega
 have s:p0+p1+p2+p3+p4+p5+p6+p7<128:=by clear ht hu hv d1 d2 d3 d4 a b c d;omega
 have l0:p0<256:=by clear ht hu hv d1 d2 d3 d4 a b c d s;omega
 have l1:p0+p1+256*(p1+p2)<65536:=by clear ht hu hv d1 d2 d3 d4 a b c d s;omega
 have l2:p0+p1+p2+p3+256*(p1+p2+p3+p4)+65536*(p2+p3+p4+p5+256*(p3+p4+p5+p6))<4294967296:=by
  clear ht hu hv d1 d2 d3 d4 s l0 l1;generalize p0+p1+p2+p3=A at*;generalize p1+p2+p3+p4=B at*;generalize p2+p3+p4+p5=C at*;generalize p3+p4+p5+p6=D at*;clear h0 h1 h2 h3 h4 h5 h6 h7;omega
 have t1:t=(p0+p1+256*(p1+p2))+65536*((p2+p3+256*(p3+p4))+65536*((p4+p5+256*(p5+p6))+65536*(p6+p7+256*p7))):=by
  rw [ht,hv,d1 p0 _ l0];simp+arith
 have t2:u=(p0+p1+p2+p3+256*(p1+p2+p3+p4)+65536*(p2+p3+p4+p5+256*(p3+p4+p5+p6)))+4294967296*((p4+p5+p6+p7+256*(p5+p6+p7))+65536*(p6+p7+256*p7)):=by
  rw [hu,t1,d2 _ _ l1];simp+arith
 have t3:u+u / 4294967296=(p0+p1+p2+p3+p4+p5+p6+p7)+256*((p1+p2+p3+p4+p5+p6+p7)+256*(p2+p3+p4+p5+256*(p3+p4+p5+p6))+16777216*((p4+p5+p6+p7+256*(p5+p6+p7))+65536*(p6+p7+256*p7))+256*(p6+p7+256*p7)):=by
  rw [t2,d3 _ _ l2];simp+arith
 rw [t3,d4 _ _ s];simp+arith
def bt (ws:List Nat) (i:Nat):Bool:=(ws.getD (i / 64) 0).testBit (i % 64)
structure Rep (ws:List Nat) (tb:List Bool):Prop where
 len:ws.length=(tb.length+63) / 64
 lt:∀x∈ws,x<18446744073709551616
 bit:∀i,bt ws i=tb.getD i false
theorem Rep.uo {ws:List Nat} {tb:List Bool} (h:Rep ws tb) {j:Nat} (hj:j<ws.length):ws[j]<18446744073709551616:=h.lt _ (List.getElem_mem hj)
theorem Rep.word {ws:List Nat} {tb:List Bool} (h:Rep ws tb) {i:Nat} (hi:i<tb.length):i / 64<ws.length:=by rw [h.len];omega
theorem LP {ws:List Nat} {j:Nat} (hj:j<ws.length) (k:Nat) (hk:k<64):bt ws (64*j+k)=ws[j].testBit k:=by
 unfold bt;rw [show (64*j+k) / 64=j by omega,show (64*j+k) % 64=k by omega];simp [getD,hj]
theorem LQ {ws:List Nat} {i:Nat} (hi:i / 64<ws.length):bt ws i=ws[i / 64].testBit (i % 64):=by
 have:=LP hi (i % 64) (by omega)
 rwa [show 64*(i / 64)+i % 64=i by omega] at this
theorem JG {ws:List Nat} {j:Nat} (hj:j<ws.length):pc (bt ws) (64*(j+1))=pc (bt ws) (64*j)+ones ws[j]:=by
 rw [show 64*(j+1)=64*j+64 by omega,yG];congr 1
 exact jP fun k hk=>LP hj k hk
def cnt (tb:List Bool):Nat:=pc (fun i=>tb.getD i false) tb.length
theorem Rep.cnt {ws:List Nat} {tb:List Bool} (h:Rep ws tb):pc (bt ws) (64*ws.length)=cnt tb:=by
 unfold Bt.cnt;rw [jP fun i _=>h.bit i];refine Cc (fun i hi=>?_) (by rw [h.len];omega);simp [getD,hi]
theorem Ga (n:Nat):Rep (replicate ((n+63) / 64) 0) (replicate n false):=by
 refine ⟨by simp,fun x hx=>by rw [List.eq_of_mem_replicate hx];omega,fun i=>?_⟩
 have e1:(replicate ((n+63) / 64) 0).getD (i / 64) 0=0:=by
  simp only [getD,List.getElem?_replicate];split<;>rfl
 have e2:(replicate n false).getD i false=false:=by
  simp only [getD,List.getElem?_replicate];split<;>rfl
 unfold bt;rw [e1,e2];simp
theorem fT {α:Type} (l:List α) (i j:Nat) (x d:α) (hi:i<l.length):(l.set i x).getD j d=if j=i then x else l.getD j d:=by
 simp only [getD,List.getElem?_set];by_cases h:j=i
 . subst h;simp [hi]
 . rw [if_neg (by omega),if_neg h]
theorem Rep.set {ws:List Nat} {tb:List Bool} (h:Rep ws tb) {i:Nat} (hi:i<tb.length):
 Rep (ws.set (i / 64) (ws.getD (i / 64) 0 |||2 ^ (i % 64))) (tb.set i true):=by
 have hj:=h.word hi;have hw:ws.getD (i / 64) 0<18446744073709551616:=by simp [getD,hj];exact h.uo hj
 refine ⟨by simpa using h.len,fun x hx=>?_,fun k=>?_⟩
 . rcases List.mem_or_eq_of_mem_set hx with hx|rfl
   . exact h.lt x hx
   . exact Nat.or_lt_two_pow (n:=64) hw (Nat.pow_lt_pow_right (by omega) (by omega))
 . rw [fT _ _ _ _ _ hi]
   unfold bt;rw [fT _ _ _ _ _ hj];by_cases hk:k / 64=i / 64
   . rw [if_pos hk,Nat.testBit_or,Nat.testBit_two_pow,<-hk]
     by_cases he:k=i
     . subst he;simp
     . rw [if_neg he,<-h.bit k];unfold bt
       have:¬i % 64=k % 64:=(by omega);simp [this]
   . rw [if_neg hk,if_neg (fun e=>hk (by rw [e])),<-h.bit k];rfl
theorem Rep.clear {ws:List Nat} {tb:List Bool} (h:Rep ws tb) {i:Nat} (hi:i<tb.length):
 Rep (ws.set (i / 64) (ws.getD (i / 64) 0&&& (18446744073709551615-2 ^ (i % 64)))) (tb.set i false):=by
 have hj:=h.word hi;have hp:2 ^ (i % 64)<2 ^ 64:=Nat.pow_lt_pow_right (by omega) (by omega);refine ⟨by simpa using h.len,fun x hx=>?_,fun k=>?_⟩
 . rcases List.mem_or_eq_of_mem_set hx with hx|rfl
   . exact h.lt x hx
   . exact Nat.lt_of_le_of_lt Nat.and_le_right (Nat.lt_of_le_of_lt (Nat.sub_le _ _) (by decide))
 . rw [fT _ _ _ _ _ hi]
   unfold bt;rw [fT _ _ _ _ _ hj];by_cases hk:k / 64=i / 64
   . rw [if_pos hk,Nat.testBit_and,show 18446744073709551615-2 ^ (i % 64)=2 ^ 64-(2 ^ (i % 64)+1) by omega,Nat.testBit_two_pow_sub_succ hp,Nat.testBit_two_pow,<-hk]
     by_cases he:k=i
     . subst he;simp
     . rw [if_neg he,<-h.bit k];unfold bt
       have:¬i % 64=k % 64:=(by omega);simp [this];omega
   . rw [if_neg hk,if_neg (fun e=>hk (by rw [e])),<-h.bit k];rfl
theorem uw (x s:Nat):((x&&& 2 ^ s) != 0)=x.testBit s:=by
 rw [Bool.eq_iff_iff];simp only [bne_iff_ne,ne_eq];constructor
 . intro h
   cases hb:x.testBit s with
   |true=>rfl
   |false=>
    (exfalso;apply h);apply Nat.eq_of_testBit_eq;intro i;rw [Nat.testBit_and,Nat.testBit_two_pow];by_cases hi:s=i
    . subst hi;simp [hb]
    . simp [hi]
 . intro h h0
   have:(x&&& 2 ^ s).testBit s=true:=(by rw [Nat.testBit_and,h];simp);rw [h0] at this;simp at this
def fs (f:Nat->Bool):Nat->Nat->Option Nat
 |0,_=>none
 |m+1,k=>if f k then some k else fs f m (k+1)
theorem Cg {f:Nat->Bool}:∀{m k:Nat},fs f m k=none->∀i,k<=i->i<k+m->f i=false
 |0,k,_,i,h1,h2=>by omega
 |m+1,k,h,i,h1,h2=>by
  unfold fs at h;split at h
  . cases h
  . rename_i hf
    by_cases he:i=k
    . subst he;simpa using hf
    . exact Cg h i (by omega) (by omega)
theorem Ch {f:Nat->Bool}:∀{m k r:Nat},fs f m k=some r->k<=r/\r<k+m/\f r=true/\∀i,k<=i->i<r->f i=false
 |0,k,r,h=>by cases h
 |m+1,k,r,h=>by
  unfold fs at h;split at h
  . rename_i hf
    (cases h);exact ⟨Nat.le_refl _,by omega,hf,fun i h1 h2=>by omega⟩
  . rename_i hf
    obtain ⟨h1,h2,h3,h4⟩:=Ch h
    exact ⟨by omega,by omega,h3,fun i h5 h6=>by
     by_cases he:i=k
     . subst he;simpa using hf
     . exact h4 i (by omega) h6⟩
def bI (tb:List Bool) (from_:Int) (b:Bool):Option Nat:=fs (fun i=>tb.getD i false==b) (tb.length-from_.toNat) from_.toNat
def foI (o:Option Nat):Int:=(o.getD 0:Nat)
def foB (o:Option Nat):Bool:=o.isSome
theorem ko {tb:List Bool} {f:Int} {b:Bool} (h:bI tb f b=none) (i:Nat) (h1:f<=i) (h2:i<tb.length):tb.getD i false≠b:=by
 have:=Cg h i (by omega) (by omega);simpa using this
theorem jd {tb:List Bool} {f:Int} {b:Bool} {r:Nat} (h:bI tb f b=some r):f<=r/\r<tb.length/\tb.getD r false=b/\∀i:Nat,f<=i->i<r->tb.getD i false≠b:=by
 obtain ⟨h1,h2,h3,h4⟩:=Ch h;exact ⟨by omega,by omega,by simpa using h3,fun i h5 h6=>by simpa using h4 i (by omega) h6⟩
def inB (tb:List Bool) (i:Int):Bool:=decide (0<=i/\i<tb.length)
def hasB (tb:List Bool) (i:Int):Bool:=decide (0<=i)&&tb.getD i.toNat false
def mZ (tb:List Bool) (i:Int):Int:=if inB tb i then if hasB tb i then 10 else 0 else 4
def jQ (tb:List Bool) (i:Int):List Bool:=if inB tb i then tb.set i.toNat true else tb
def wm (tb:List Bool) (i:Int):Int:=if inB tb i then if hasB tb i then 0 else 9 else 4
def ru (tb:List Bool) (i:Int):List Bool:=if inB tb i then tb.set i.toNat false else tb
theorem iD {tb:List Bool} {i:Nat} {v:Bool} (hi:i<tb.length) (h:tb.getD i false=v):tb.set i v=tb:=by
 subst h;simp only [getD,List.getElem?_eq_getElem hi,Option.getD_some];exact List.set_getElem_self hi
theorem Ci {tb:List Bool} {i:Int} (h:inB tb i=true):∃k:Nat,i=k/\k<tb.length:=by
 unfold inB at h;have:=of_decide_eq_true h;exact ⟨i.toNat,by omega,by omega⟩
theorem yI {tb:List Bool} {i:Int} (h:inB tb i=false):¬(0<=i/\i<tb.length):=of_decide_eq_false h
theorem gX (tb:List Bool) (k:Nat):hasB tb k=tb.getD k false:=by simp [hasB]
theorem JH {tb:List Bool} {i:Int} (h:inB tb i=false):hasB tb i=false:=by
 have:=yI h;unfold hasB;by_cases h0:0<=i
 . have h1:tb[i.toNat]? =none:=List.getElem?_eq_none (by omega)
   simp [getD,h1]
 . simp [h0]
theorem Gb (tb:List Bool) (i:Int):(ru tb i).length=tb.length:=by unfold ru;split<;>simp
def wt (turn:Bool):Nat:=if turn then 18446744073709551615 else 0
def wd (ws:List Nat) (turn:Bool) (i:Nat):Nat:=(ws.getD (i / 64) 0 ^^^ wt turn) / 2 ^ (i % 64)
theorem LU (turn:Bool) {k:Nat} (hk:k<64):(wt turn).testBit k=turn:=by
 cases turn
 . simp [wt]
 . show (2 ^ 64-1).testBit k=true
   rw [Nat.testBit_two_pow_sub_one];simpa using hk
theorem Cj (ws:List Nat) (turn:Bool) (i k:Nat) (hk:i % 64+k<64):(wd ws turn i).testBit k=(bt ws (i+k) ^^ turn):=by
 unfold wd bt;rw [Nat.testBit_div_two_pow,Nat.testBit_xor,show (i+k) / 64=i / 64 by omega,show (i+k) % 64=k+i % 64 by omega,LU turn (by omega)]
theorem LV {ws:List Nat} {tb:List Bool} (h:Rep ws tb) (turn:Bool) {i:Nat} (hi:i<tb.length):wd ws turn i<2 ^ (64-i % 64):=by
 have hj:=h.word hi;have hw:ws.getD (i / 64) 0<2 ^ 64:=by simp [getD,hj];exact h.uo hj
 have hx:ws.getD (i / 64) 0 ^^^ wt turn<2 ^ 64:=Nat.xor_lt_two_pow hw (by cases turn<;>simp [wt]);unfold wd;rw [Nat.div_lt_iff_lt_mul (Nat.two_pow_pos _),<-Nat.pow_add]
 rwa [show 64-i % 64+i % 64=64 by omega]
theorem JI {ws:List Nat} {tb:List Bool} (h:Rep ws tb) (turn:Bool) {i:Nat} (hi:i<tb.length):wd ws turn i<18446744073709551616:=
 by
 have:2 ^ (64-i % 64)<=2 ^ 64:=Nat.pow_le_pow_right (by omega) (by omega);exact Nat.lt_of_lt_of_le (LV h turn hi) this
theorem Ck {ws:List Nat} {tb:List Bool} (h:Rep ws tb) (turn:Bool) (i:Nat):((bt ws i ^^ turn)=true)=(tb.getD i false= !turn):=by
 rw [h.bit];cases tb.getD i false<;>cases turn<;>simp
theorem JJ {ws:List Nat} {tb:List Bool} (h:Rep ws tb) (turn:Bool) {i:Nat} (h0:wd ws turn i=0) (k:Nat) (h1:i<=k) (h2:k<i+(64-i % 64)):tb.getD k false≠ !turn:=by
 have hb:=Cj ws turn i (k-i) (by omega);rw [h0,show i+(k-i)=k by omega,Nat.zero_testBit] at hb;rw [ne_eq,<-Ck h turn k,<-hb];simp
theorem yJ {x:Nat} (h0:x≠0) (h:x<2 ^ 64):x.testBit (ctz 64 x)=true/\∀k,k<ctz 64 x->x.testBit k=false:=by
 obtain ⟨m,hm,_⟩:=Lib.ctzFrom_spec 64 x (by omega) h;have e:ctz 64 x=Lib.ctzFrom 64 x:=by simp [ctz,h0]
 rw [e];generalize Lib.ctzFrom 64 x=c at*;subst hm;refine ⟨?_,fun k hk=>?_⟩
 . rw [Nat.mul_comm,Nat.testBit_mul_two_pow];simp [Nat.testBit_zero]
 . rw [Nat.mul_comm,Nat.testBit_mul_two_pow];simp;omega
theorem LW {x k:Nat} (h0:x≠0) (h:x<2 ^ k) (hk:k<=64):ctz 64 x<k:=by
 obtain ⟨h1,_⟩:=yJ h0 (Nat.lt_of_lt_of_le h (Nat.pow_le_pow_right (by omega) hk));apply Nat.lt_of_not_le;intro hle;rw [Nat.testBit_lt_two_pow (Nat.lt_of_lt_of_le h (Nat.pow_le_pow_right (by omega) hle))] at h1;cases h1
theorem JK {ws:List Nat} {tb:List Bool} (h:Rep ws tb) (turn:Bool) {i:Nat} (hi:i<tb.length) (h0:wd ws turn i≠0):
 ctz 64 (wd ws turn i)<64-i % 64/\(tb.getD (i+ctz 64 (wd ws turn i)) false= !turn)/\∀k,i<=k->k<i+ctz 64 (wd ws turn i)->tb.getD k false≠ !turn:=by
 have hl:=LV h turn hi;have hc:=LW h0 hl (by omega);obtain ⟨h1,h2⟩:=yJ h0 (Nat.lt_of_lt_of_le hl (Nat.pow_le_pow_right (by omega) (by omega)));refine ⟨hc,?_,fun k hk1 hk2=>?_⟩
 . rw [<-Ck h turn,<-Cj ws turn i _ (by omega),h1]
 . have:=h2 (k-i) (by omega)
   rw [Cj ws turn i _ (by omega),show i+(k-i)=k by omega] at this;rw [ne_eq,<-Ck h turn k,this];simp
end Go.Proofs.YtjpjjnalpdpljaaGreatDoor.Bt
set_option maxHeartbeats 1000000
namespace Go.Proofs.YtjpjjnalpdpljaaGreatDoor
open Go.RowKit
namespace Bt
theorem OI (x:Nat) (hx:x<18446744073709551616):IntKind.u64.wrap (bits .and .u64 ((x:Int) / 2) 6148914691236517205+bits .and .u64 (x:Int) 6148914691236517205)=((s1 8 x:Nat):Int)/\s1 8 x<18446744073709551616:=by
 have e1:=u64_and_nat (x / 2) 6148914691236517205 (by omega) (by decide);have e2:=u64_and_nat x 6148914691236517205 hx (by decide);have e:s1 8 x=(x / 2&&& 6148914691236517205)+(x&&& 6148914691236517205):=rfl;have b1:x / 2&&& 6148914691236517205<=6148914691236517205:=Nat.and_le_right;have b2:x&&& 6148914691236517205<=6148914691236517205:=Nat.and_le_right;rw [show (x:Int) / 2=((x / 2:Nat):Int) from rfl];rw [show ((6148914691236517205:Nat):Int)=6148914691236517205 from rfl] at e1 e2;rw [e1,e2,e,IntKind.wrap_u64];omega
theorem OJ (x:Nat) (hx:x<18446744073709551616):IntKind.u64.wrap (bits .and .u64 ((x:Int) / 4) 3689348814741910323+bits .and .u64 (x:Int) 3689348814741910323)=((s2 8 x:Nat):Int)/\s2 8 x<=7378697629483820646:=by
 have e1:=u64_and_nat (x / 4) 3689348814741910323 (by omega) (by decide);have e2:=u64_and_nat x 3689348814741910323 hx (by decide);have e:s2 8 x=(x / 4&&& 3689348814741910323)+(x&&& 3689348814741910323):=rfl;have b1:x / 4&&& 3689348814741910323<=3689348814741910323:=Nat.and_le_right;have b2:x&&& 3689348814741910323<=3689348814741910323:=Nat.and_le_right;rw [show (x:Int) / 4=((x / 4:Nat):Int) from rfl];rw [show ((3689348814741910323:Nat):Int)=3689348814741910323 from rfl] at e1 e2;rw [e1,e2,e,IntKind.wrap_u64];omega
theorem OL (x:Nat) (hx:x<=7378697629483820646):bits .and .u64 (IntKind.u64.wrap ((x:Int) / 16+(x:Int))) 1085102592571150095=((s3 8 x:Nat):Int):=by
 have e1:=u64_and_nat (x / 16+x) 1085102592571150095 (by omega) (by decide);rw [show ((1085102592571150095:Nat):Int)=1085102592571150095 from rfl] at e1;rw [IntKind.wrap_u64,show ((x:Int) / 16+(x:Int)) % 18446744073709551616=((x / 16+x:Nat):Int) by omega,e1];rfl
theorem OM (x v t u:Nat) (hv:v=sb 8 x) (ht:t=v+v / 256) (hu:u=t+t / 65536):
 IntKind.u64.wrap ((v:Int)+(v:Int) / 256)=(t:Int)/\IntKind.u64.wrap ((t:Int)+(t:Int) / 65536)=(u:Int)/\IntKind.u64.wrap ((u:Int)+(u:Int) / 4294967296)=((u+u / 4294967296:Nat):Int)/\u+u / 4294967296<9223372036854775808/\(u+u / 4294967296) % 128=ones x:=by
 obtain ⟨h1,h2⟩:=F9 x v t u hv ht hu;clear hv;simp only [IntKind.wrap_u64];omega
theorem ou (x:Nat) (w:World) (hx:x<18446744073709551616):CW 162 #[.int .u64 (x:Int)] w (.int .i64 (ones x:Nat)):=by
 obtain ⟨k1,l1⟩:=OI x hx;obtain ⟨k2,l2⟩:=OJ _ l1;have k3:=OL _ l2;have e3:s3 8 (s2 8 (s1 8 x))=sb 8 x:=IY 8 x;rw [e3] at k3;obtain ⟨v,hv⟩:∃v,v=sb 8 x:=⟨_,rfl⟩
 obtain ⟨t,ht⟩:∃t,t=v+v / 256:=⟨_,rfl⟩
 obtain ⟨u,hu⟩:∃u,u=t+t / 65536:=⟨_,rfl⟩
 obtain ⟨k4,k5,k6,l6,k7⟩:=OM x v t u hv ht hu;rw [<-hv] at k3;generalize s2 8 (s1 8 x)=a2 at*;generalize s1 8 x=a1 at*;generalize u+u / 4294967296=q at*;have k8:bits .and .i64 ((q:Int)) 127=(ones x:Nat):=by rw [i64_and127,<-k7];omega
 clear e3 l1 l2 k7 hv ht hu;go_enter Tryz.func162,Tryz.ntmps162
 go_wp2
 go_ret
 exact ⟨rfl,rfl⟩
def Tab (w:World):Prop:=∀j,j<64->w.cell? ⟨0,j,none⟩=some (.int .u8 (Lib.deBruijn64tab.getD j 0:Nat))
theorem Tab.lt {w:World} (h:Tab w): 0 <w.heap.size:=by
 have h0:=h 0 (by omega);rcases Nat.lt_or_ge 0 w.heap.size with h'|h'
 . exact h'
 . simp [World.cell?,Array.getElem?_eq_none h'] at h0
theorem Tab.keep {w w':World} (h:Tab w) (hk:w'.heap[0]? =w.heap[0]?):Tab w':=fun j hj=>by
 rw [<-h j hj];exact World.cell?_of_block (w:=w) (a:=⟨0,j,none⟩) hk
theorem LX (x a:Nat) (hx0:x≠0) (hx:x<18446744073709551616) (hlow:x&&& (18446744073709551616-x)=a):
 IntKind.u64.wrap (bits BinOp.and IntKind.u64 (x:Int) (IntKind.u64.wrap (-(x:Int)))*285870213051353865) / 288230376151711744=((a*285870213051353865 % 18446744073709551616 / 288230376151711744:Nat):Int):=by
 have e1:IntKind.u64.wrap (-(x:Int))=((18446744073709551616-x:Nat):Int):=by rw [IntKind.wrap_u64];omega
 rw [e1,u64_and_nat x _ hx (by omega),hlow,IntKind.wrap_u64];omega
theorem JL (x k idx:Nat) (w:World) (hx0:((x:Int)==0)=false)
 (key:IntKind.u64.wrap (bits BinOp.and IntKind.u64 (x:Int) (IntKind.u64.wrap (-(x:Int)))*285870213051353865) / 288230376151711744=(idx:Int))
 (hi:idx<64) (hk:k<64) (hcell:w.cell? ⟨0,idx,none⟩=some (.int .u8 k)):
 CW 163 #[.int .u64 (x:Int)] w (.int .i64 k):=by
 go_enter Tryz.func163,Tryz.ntmps163
 go_wp2_with (simp only [key])
 go_ret
 exact ⟨rfl,rfl⟩
theorem kr (x:Nat) (w:World) (h0:x≠0) (hx:x<18446744073709551616) (hT:Tab w):
 CW 163 #[.int .u64 (x:Int)] w (.int .i64 (Lib.ctz 64 x:Nat)):=by
 obtain ⟨hlow,hk⟩:=Lib.lowest_bit 64 x h0 hx;obtain ⟨hi,htab⟩:=Lib.deBruijn64_at _ hk;have hcell:=hT _ hi;rw [htab] at hcell;exact JL x _ _ w (by simp;omega) (LX x _ h0 hx hlow) hi hk hcell
theorem JM (i:Nat):IntKind.u64.wrap (2 ^ (i % 64))=((2 ^ (i % 64):Nat):Int):=by
 have:2 ^ (i % 64)<2 ^ 64:=Nat.pow_lt_pow_right (by omega) (by omega);rw [IntKind.wrap_u64];have e:(2:Int) ^ (i % 64)=((2 ^ (i % 64):Nat):Int):=by simp
 rw [e];generalize 2 ^ (i % 64)=p at*;omega
theorem wH (i:Nat) (w:World) (hi:i<9223372036854775808):CW 131 #[(i:Int)] w (.int .u64 (2 ^ (i % 64):Nat)):=by
 have k1:=JM i;go_enter Tryz.func131,Tryz.ntmps131
 go_wp2
 go_ret
 exact ⟨by rw [k1];rfl,rfl⟩
end Bt
end Go.Proofs.YtjpjjnalpdpljaaGreatDoor
namespace Go.Proofs.YtjpjjnalpdpljaaGreatDoor.Po
open Bt
def fill (tb:List Bool):Nat->List Bool
 |0=>tb
 |p+1=>(fill tb p).set p true
def frs (tb:List Bool):Nat->List Nat
 |0=>[]
 |p+1=>frs tb p++(if tb.getD p false then [] else [p])
def tks (tb:List Bool):Nat->List Nat
 |0=>[]
 |p+1=>tks tb p++(if tb.getD p false then [p] else [])
def free (tb:List Bool):Nat:=tb.length-cnt tb
theorem yK (tb:List Bool):cnt tb<=tb.length:=BZ _ _
theorem dR (tb:List Bool):∀p,(fill tb p).length=tb.length
 |0=>rfl
 |p+1=>by unfold fill;rw [List.length_set,dR tb p]
theorem fB (tb:List Bool):∀(p i:Nat),p<=i->(fill tb p).getD i false=tb.getD i false
 |0,_,_=>rfl
 |p+1,i,h=>by
  unfold fill;by_cases hp:p<tb.length
  . rw [fT _ _ _ _ _ (by rw [dR];exact hp),if_neg (by omega),fB tb p i (by omega)]
  . rw [List.set_eq_of_length_le (by rw [dR];omega),fB tb p i (by omega)]
def Full (tb:List Bool) (p q:Nat):Prop:=∀j,p<=j->j<q->tb.getD j false=true
theorem jD (tb:List Bool) (p:Nat):∀d,p+d<=tb.length->Full tb p (p+d)->fill tb (p+d)=fill tb p/\frs tb (p+d)=frs tb p
 |0,_,_=>⟨rfl,rfl⟩
 |d+1,h,hf=>by
  obtain ⟨h1,h2⟩:=jD tb p d (by omega) fun j h3 h4=>hf j h3 (by omega);have h5:=hf (p+d) (by omega) (by omega);refine ⟨?_,?_⟩
  . show (fill tb (p+d)).set (p+d) true=fill tb p
    rw [iD (by rw [dR];omega) (by rw [fB tb _ _ (Nat.le_refl _)];exact h5),h1]
  . show frs tb (p+d)++(if tb.getD (p+d) false then [] else [p+d])=frs tb p
    rw [h5,h2];simp
theorem Cm (tb:List Bool):∀p,(frs tb p).length=pc (fun i=> !tb.getD i false) p
 |0=>rfl
 |p+1=>by
  unfold frs pc;rw [List.length_append,Cm tb p];cases tb.getD p false<;>rfl
theorem oz (tb:List Bool):(frs tb tb.length).length=free tb:=by rw [Cm,IX];rfl
theorem rz (tb:List Bool) (p:Nat):∀d,(frs tb p).length<=(frs tb (p+d)).length
 |0=>Nat.le_refl _
 |d+1=>by
  have:=rz tb p d;show _<=(frs tb (p+d)++_).length;rw [List.length_append];omega
theorem yL (tb:List Bool) (p:Nat):∀d,(frs tb (p+d)).length=(frs tb p).length->Full tb p (p+d)
 |0,_=>fun j h1 h2=>by omega
 |d+1,h=>by
  have h1:=rz tb p d;have h2:(frs tb (p+d)++(if tb.getD (p+d) false then [] else [p+d])).length=(frs tb p).length:=h;rw [List.length_append] at h2;intro j h3 h4;by_cases hj:j=p+d
  . subst hj
    cases hv:tb.getD (p+d) false with
    |true=>rfl
    |false=>rw [hv] at h2;simp at h2;omega
  . exact yL tb p d (by omega) j h3 (by omega)
def Got (tb:List Bool) (k:Nat) (t:List Bool) (l:List Nat):Prop:=∃p,p<=tb.length/\t=fill tb p/\l=frs tb p/\l.length=k
theorem Got.one {tb:List Bool} {k:Nat} {t t':List Bool} {l l':List Nat} (h:Got tb k t l) (h':Got tb k t' l'):t=t'/\l=l':=by
 have key:∀p q,p<=q->q<=tb.length->(frs tb p).length=(frs tb q).length->fill tb q=fill tb p/\frs tb q=frs tb p:=by
  intro p q h1 h2 h3;obtain ⟨d,rfl⟩:∃d,q=p+d:=⟨q-p,by omega⟩
  exact jD tb p d h2 (yL tb p d h3.symm)
 obtain ⟨p,h1,rfl,rfl,h2⟩:=h;obtain ⟨q,h3,rfl,rfl,h4⟩:=h';rcases Nat.le_total p q with hpq|hpq
 . obtain ⟨e1,e2⟩:=key p q hpq h3 (by omega)
   exact ⟨e1.symm,e2.symm⟩
 . obtain ⟨e1,e2⟩:=key q p hpq h1 (by omega)
   exact ⟨e1,e2⟩
theorem Got.len {tb:List Bool} {k:Nat} {t:List Bool} {l:List Nat} (h:Got tb k t l):t.length=tb.length/\l.length=k:=by
 obtain ⟨p,_,rfl,_,h4⟩:=h;exact ⟨dR tb p,h4⟩
theorem IZ (tb:List Bool):∀(p x:Nat),x∈frs tb p->x<p
 |0,x,h=>by cases h
 |p+1,x,h=>by
  unfold frs at h;rcases List.mem_append.1 h with h|h
  . exact Nat.lt_succ_of_lt (IZ tb p x h)
  . split at h
    . cases h
    . obtain rfl:x=p:=by simpa using h
      omega
theorem Got.lt {tb:List Bool} {k:Nat} {t:List Bool} {l:List Nat} (h:Got tb k t l) {x:Nat} (hx:x∈l):x<tb.length:=by
 obtain ⟨p,h1,_,rfl,_⟩:=h;exact Nat.lt_of_lt_of_le (IZ tb p x hx) h1
theorem Co {tb:List Bool} {q a k:Nat} (hq:q<=tb.length) (ha:a<=q) (hf:∀j,a<=j->j<q->(fill tb q).getD j false=true) (hk:(frs tb q).length<k) (hkf:k<=free tb):
 ∃r,q<=r/\r<tb.length/\bI (fill tb q) (a:Int) false=some r/\(fill tb q).getD r false=false/\(fill tb q).set r true=fill tb (r+1)/\frs tb (r+1)=frs tb q++[r]:=by
 cases ho:bI (fill tb q) (a:Int) false with
 |none=>
  have hno:=ko ho;obtain ⟨d,hd⟩:∃d,tb.length=q+d:=⟨tb.length-q,by omega⟩
  have hfull:Full tb q (q+d):=fun j h1 h2=>by
   have:=hno j (by omega) (by rw [dR];omega);rw [fB tb q j h1] at this;simpa using this
  have:=(jD tb q d (by omega) hfull).2;rw [<-hd] at this;have h2:=oz tb;rw [this] at h2;omega
 |some r=>
  obtain ⟨h1,h2,h3,h4⟩:=jd ho;rw [dR] at h2
  have hqr:q<=r:=by
   rcases Nat.lt_or_ge r q with h|h
   . rw [hf r (by omega) h] at h3;cases h3
   . exact h
  obtain ⟨d,rfl⟩:∃d,r=q+d:=⟨r-q,by omega⟩
  have hfull:Full tb q (q+d):=fun j h5 h6=>by
   have:=h4 j (by omega) h6;rw [fB tb q j h5] at this;simpa using this
  obtain ⟨e1,e2⟩:=jD tb q d (by omega) hfull;refine ⟨q+d,hqr,h2,rfl,h3,?_,?_⟩
  . show _=(fill tb (q+d)).set (q+d) true
    rw [e1]
  . show frs tb (q+d)++(if tb.getD (q+d) false then [] else [q+d])=_
    rw [fB tb q _ hqr] at h3;rw [e2,h3];rfl
theorem JN (tb:List Bool) (r:Nat) (hr:r<tb.length):(fill tb (r+1)).getD r false=true:=by
 show ((fill tb r).set r true).getD r false=true;rw [fT _ _ _ _ _ (by rw [dR];exact hr),if_pos rfl]
def gvE (tb:List Bool) (i:Nat):Int:=if i=0 then 2 else wm tb i
def gvT (tb:List Bool) (i:Nat):List Bool:=if i=0 then tb else ru tb i
theorem wI (tb:List Bool) (i:Nat):(gvT tb i).length=tb.length:=by
 unfold gvT;split
 . rfl
 . exact Gb _ _
theorem in_lt {tb:List Bool} {i:Nat} (h:i<tb.length):inB tb i=true:=by unfold inB;simp;omega
theorem LY {tb:List Bool} {i:Nat} (h:¬i<tb.length):inB tb i=false:=by unfold inB;simp;omega
theorem Cq (tb:List Bool):∀p,(tks tb p).length=pc (fun i=>tb.getD i false) p
 |0=>rfl
 |p+1=>by
  unfold tks pc;rw [List.length_append,Cq tb p];cases tb.getD p false<;>rfl
theorem rC (tb:List Bool):(tks tb tb.length).length=cnt tb:=Cq tb _
theorem rD (tb:List Bool) (p:Nat):∀d,(∀j,p<=j->j<p+d->tb.getD j false≠true)->tks tb (p+d)=tks tb p
 |0,_=>rfl
 |d+1,h=>by
  show tks tb (p+d)++(if tb.getD (p+d) false then [p+d] else [])=_;rw [rD tb p d fun j h1 h2=>h j h1 (by omega)];have:=h (p+d) (by omega) (by omega);rw [if_neg this,List.append_nil]
theorem Gc {tb:List Bool} {f:Nat} (hf:f<=tb.length) (h:bI tb (f:Int) true=none):tks tb tb.length=tks tb f:=by
 obtain ⟨d,hd⟩:∃d,tb.length=f+d:=⟨tb.length-f,by omega⟩
 rw [hd];exact rD tb f d fun j h1 h2=>ko h j (by omega) (by omega)
theorem Gd {tb:List Bool} {f r:Nat} (h:bI tb (f:Int) true=some r):r<tb.length/\f<=r/\tks tb (r+1)=tks tb f++[r]:=by
 obtain ⟨h1,h2,h3,h4⟩:=jd h;refine ⟨h2,by omega,?_⟩;obtain ⟨d,rfl⟩:∃d,r=f+d:=⟨r-f,by omega⟩
 show tks tb (f+d)++(if tb.getD (f+d) false then [f+d] else [])=_;rw [h3,rD tb f d fun j h5 h6=>h4 j (by omega) h6];rfl
def oC (tb:List Bool) (l:List Nat):List Bool:=l.foldl (fun t x=>t.set x true) tb
theorem rE (tb:List Bool) (a b:List Nat):oC tb (a++b)=oC (oC tb a) b:=by unfold oC;rw [List.foldl_append]
theorem mg (tb:List Bool):∀p,p<=tb.length->oC tb (frs tb p)=fill tb p
 |0,_=>rfl
 |p+1,h=>by
  have ih:=mg tb p (by omega);unfold frs;rw [rE,ih];cases hv:tb.getD p false with
  |true=>
   show fill tb p=(fill tb p).set p true;exact (iD (by rw [dR];omega) (by rw [fB tb p p (Nat.le_refl _)];exact hv)).symm
  |false=>rfl
def Aa (tb:List Bool) (l:List Nat):Prop:=∀k (h:k<l.length),(oC tb (l.take k)).getD l[k] false=false
theorem uy (tb:List Bool):∀p,p<=tb.length->Aa tb (frs tb p)
 |0,_=>fun k h=>absurd h (by simp [frs])
 |p+1,hp=>by
  have ih:=uy tb p (by omega);cases hv:tb.getD p false with
  |true=>
   have e:frs tb (p+1)=frs tb p:=by
    show frs tb p++(if tb.getD p false then [] else [p])=_;rw [hv];simp
   rw [e];exact ih
  |false=>
   have e:frs tb (p+1)=frs tb p++[p]:=by
    show frs tb p++(if tb.getD p false then [] else [p])=_;rw [hv];rfl
   rw [e];intro k h;by_cases hk:k<(frs tb p).length
   . rw [List.take_append_of_le_length (by omega),List.getElem_append_left hk]
     exact ih k hk
   . have hk':k=(frs tb p).length:=by simp at h;omega
     subst hk';rw [List.take_left',List.getElem_append_right (Nat.le_refl _)]
     . simp only [Nat.sub_self,List.getElem_cons_zero]
       rw [mg tb p (by omega),fB tb p p (Nat.le_refl _)];exact hv
     . rfl
theorem Got.fresh {tb:List Bool} {k:Nat} {t:List Bool} {l:List Nat} (h:Got tb k t l):Aa tb l/\oC tb l=t:=by
 obtain ⟨p,h1,rfl,rfl,_⟩:=h;exact ⟨uy tb p h1,mg tb p h1⟩
theorem yM (tb:List Bool) (k:Nat):∀p,p<=tb.length->k<=(frs tb p).length->∃t l,Got tb k t l
 |0,hp,h=>⟨_,_,0,hp,rfl,rfl,by simp [frs] at h ⊢;omega⟩
 |p+1,hp,h=>by
  by_cases h1:k<=(frs tb p).length
  . exact yM tb k p (by omega) h1
  . refine ⟨_,_,p+1,hp,rfl,rfl,?_⟩
    have h2:(frs tb (p+1)).length<=(frs tb p).length+1:=by
     show (frs tb p++(if tb.getD p false then [] else [p])).length<=_;rw [List.length_append];cases tb.getD p false<;>simp
    omega
theorem Gf {tb:List Bool} {k:Nat} (h:k<=free tb):∃t l,Got tb k t l:=yM tb k tb.length (Nat.le_refl _) (by rw [oz];exact h)
end Go.Proofs.YtjpjjnalpdpljaaGreatDoor.Po
namespace Go.Proofs.YtjpjjnalpdpljaaGreatDoor
open Go.RowKit
namespace Mem
def bf (U:TypeId) (w:World) (g:Nat) (C:Array Value):Prop:=w.heap[g]? =some (.cells C U (0,0))
section
variable {P:Program} {U T:TypeId} {w w':World} {g:Nat} {C C':Array Value}
theorem bf.lt (h:bf U w g C):g<w.heap.size:=(Array.getElem?_eq_some_iff.1 h).1
theorem bf.kept (h:bf U w g C) (hb:Bw w w'):bf U w' g C:=(hb.block g h.lt).trans h
theorem bf.cell (h:bf U w g C) {i:Nat} {v:Value} (hv:C[i]? =some v):w.cell? ⟨g,i,none⟩=some v:=by
 unfold bf at h;simp [World.cell?,h,hv]
theorem bf.free (h:bf U w g C) (i:Nat):w.frozen? ⟨g,i,none⟩=false:=by
 unfold bf at h;simp [World.frozen?,h]
theorem bf.new (U:TypeId) (w:World) (C:Array Value):bf U (w.alloc (.cells C U)) w.heap.size C:=heap_alloc_new w _
theorem bf.set (h:bf U w g C) (i:Nat) (v:Value):bf U (w.setCell ⟨g,i,none⟩ v) g (C.setIfInBounds i v):=by
 unfold bf at h ⊢;simp [World.setCell,Array.getElem?_modify,h]
theorem addr_add (g i:Nat):Addr.add ⟨g,0,none⟩ i=⟨g,i,none⟩:=by
 by_cases h0:i=0<;>simp [Addr.add,h0]
theorem oD (hx:bf U w g C):∀(n i:Nat) (acc:Array Value),i+n<=C.size->(loadCellsFrom ⟨g,0,none⟩ i n acc).run P w= .ok (acc++((C.toList.drop i).take n).toArray) w
 |0,i,acc,_=>by simp [loadCellsFrom]
 |n+1,i,acc,h=>by
  have hi:i<C.size:=by omega
  have hc:=hx.cell (i:=i) (v:=C[i]) (by simp [hi]);have ih:=oD hx n (i+1) (acc.push C[i]) (by omega);unfold loadCellsFrom;rw [Sem.run_bind,run_load,addr_add,hc];simp only [Result.andThen_ok];rw [ih];congr 1
  apply Array.ext'
  have hd:C.toList.drop i=C[i]::C.toList.drop (i+1):=by
   rw [List.drop_eq_getElem_cons (by simpa using hi)];simp
  simp [hd]
theorem ng {fs:Array Field} (hu:P.underlying T=some (.struct fs)) (hs:(P.info? T).map (·.size)=some C.size) (hx:bf U w g C):(Instr.loadAt T (.pointer (some ⟨g,0,none⟩))).run P w= .ok (.agg C) w:=by
 obtain ⟨i,hi,hz⟩:=Option.map_eq_some_iff.1 hs;have hl:=oD (P:=P) hx C.size 0 #[] (by omega);simp only [List.drop_zero] at hl;rw [List.take_of_length_le (by simp)] at hl;simp [Instr.loadAt,Instr.sureAddr,loadVar,isAgg,run_underlying hu,sizeOf,typeInfo,hi,hz,loadCells,hl]
def mh (w:World) (g:Nat):List Value->Nat->World
 |[],_=>w
 |v::r,i=>mh (w.setCell ⟨g,i,none⟩ v) g r (i+1)
def mo (C:Array Value):List Value->Nat->Array Value
 |[],_=>C
 |v::r,i=>mo (C.setIfInBounds i v) r (i+1)
theorem ni:∀(vs:List Value) (C:Array Value) (i:Nat),i+vs.length<=C.size->(mo C vs i).toList=C.toList.take i++vs++C.toList.drop (i+vs.length)
 |[],C,i,_=>by simp [mo]
 |v::r,C,i,h=>by
  simp only [List.length_cons] at h;show (mo (C.setIfInBounds i v) r (i+1)).toList=_;rw [ni r _ _ (by simp;omega)];simp only [Array.toList_setIfInBounds,List.length_cons];rw [List.take_set,List.drop_set_of_lt (by omega),List.take_succ_eq_append_getElem (by simpa using (show i<C.size by omega))];rw [List.set_append_right _ _ (by simp;omega),List.length_take];have:i-min i C.toList.length=0:=by simp;omega
  rw [this,show i+1+r.length=i+(r.length+1) by omega];simp
theorem qx:∀(vs:List Value) {w:World} {C:Array Value} (i:Nat),bf U w g C->bf U (mh w g vs i) g (mo C vs i)
 |[],_,_,_,h=>h
 |v::r,_,_,i,h=>qx r (i+1) (h.set i v)
theorem nk:∀(vs:List Value) (w:World) (i:Nat),Flow.Into [g] w (mh w g vs i)
 |[],w,_=>Flow.Into.refl _ _
 |v::r,w,i=>(show Flow.Into [g] w (w.setCell ⟨g,i,none⟩ v) from ⟨rfl,rfl,rfl,by simp [World.setCell],fun k _ hk=>Below.heap_setCell _ _ _ _ (by simpa using hk)⟩).trans (nk r _ _)
def OO (w:World) (g:Nat) (C:Array Value):World:=mh w g C.toList 0
theorem JO (h:bf U w g C) (hs:C'.size=C.size):bf U (OO w g C') g C':=by
 have h1:=qx C'.toList 0 h
 have e:mo C C'.toList 0=C':=by
  apply Array.ext';rw [ni _ _ _ (by simp;omega)];simp;omega
 rw [e] at h1;exact h1
theorem Cr (w:World) (g:Nat) (C:Array Value):Flow.Into [g] w (OO w g C):=nk _ _ _
theorem qy:∀(vs:List Value) {w:World} {C:Array Value} (i:Nat),bf U w g C->i+vs.length<=C.size->(∀v∈vs,v.oneCell'=true)->(storeCells ⟨g,0,none⟩ vs i).run P w= .ok () (mh w g vs i)
 |[],w,C,i,_,_,_=>by simp [storeCells,mh]
 |v::r,w,C,i,hx,h,h1=>by
  simp only [List.length_cons] at h;have hi:i<C.size:=by omega
  have hc:=hx.cell (i:=i) (v:=C[i]) (by simp [hi]);have ih:=qy r (i+1) (hx.set i v) (by simp;omega) (fun v hv=>h1 v (List.mem_cons_of_mem _ hv));unfold storeCells;rw [Sem.run_bind,addr_add,run_store P w _ v _ (h1 v (by simp)),hc];simp only [hx.free i,Bool.false_eq_true,if_false,Result.andThen_ok];exact ih
theorem rF (hs:(P.info? T).map (·.size)=some C.size) (hz:C'.size=C.size) (h1:∀v∈C'.toList,v.oneCell'=true) (hx:bf U w g C):(Instr.storeAt T (.pointer (some ⟨g,0,none⟩)) (.agg C')).run P w= .ok () (OO w g C'):=by
 obtain ⟨i,hi,hz2⟩:=Option.map_eq_some_iff.1 hs;have hst:=qy (P:=P) C'.toList 0 hx (by simp;omega) h1;have hcs:(Value.agg C').cells=C':=rfl;simp [Instr.storeAt,Instr.sureAddr,storeVar,hcs,sizeOf,typeInfo,hi,hz,hz2];exact hst
theorem eO {fs:Array Field} (hu:P.underlying T=some (.struct fs)) (hs:(P.info? T).map (·.size)=some C.size) (hx:bf U w g C):(loadVar T ⟨g,0,none⟩).run P w= .ok (.agg C) w:=by
 have h:=ng (P:=P) hu hs hx;simpa [Instr.loadAt,Instr.sureAddr] using h
theorem aL {ops:Array Oper} {rest:List Oper} {o:Oper} {a:Act} {Q:Exit->Act->World->Prop} (hgd:o.guard=none) (x:Operand) (T:TypeId) (ho:o.op= .load T x) {fs:Array Field} (hu:P.underlying T=some (.struct fs)) (g:Nat) (C:Array Value) (hs:(P.info? T).map (·.size)=some C.size) (hx:a.eval x= .pointer (some ⟨g,0,none⟩)) (hb:bf U w g C)
 (h:wpList P ops Q rest (a.put o.dst (.agg C)) w):wpList P ops Q (o::rest) a w:=by
 refine wpList_plain hgd fun K hK=>?_;unfold Oper.wp execOp;simp only [ho,hx,Sem.run_bind,ng hu hs hb,Result.andThen_ok,Sem.run_pure];exact hK _ _ h
theorem jE {ops:Array Oper} {rest:List Oper} {o:Oper} {a:Act} {Q:Exit->Act->World->Prop} (hgd:o.guard=none) (x:Operand) (T:TypeId) (ho:o.op= .load T x) {fs:Array Field} (hu:P.underlying T=some (.struct fs)) (g:Nat) (C D:Array Value) (hs:(P.info? T).map (·.size)=some D.size) (hx:a.eval x= .pointer (some ⟨g,0,none⟩)) (hb:bf U w g C) (hD:(C.toList.take D.size).toArray=D) (hle:D.size<=C.size)
 (h:wpList P ops Q rest (a.put o.dst (.agg D)) w):wpList P ops Q (o::rest) a w:=by
 refine wpList_plain hgd fun K hK=>?_;obtain ⟨i,hi,hz⟩:=Option.map_eq_some_iff.1 hs;have hl:=oD (P:=P) hb D.size 0 #[] (by omega);simp only [List.drop_zero] at hl;rw [hD] at hl
 have h9:(Instr.loadAt T (.pointer (some ⟨g,0,none⟩))).run P w= .ok (.agg D) w:=by
  simp [Instr.loadAt,Instr.sureAddr,loadVar,isAgg,run_underlying hu,sizeOf,typeInfo,hi,hz,loadCells,hl]
 unfold Oper.wp execOp;simp only [ho,hx,Sem.run_bind,h9,Result.andThen_ok,Sem.run_pure];exact hK _ _ h
theorem aK {ops:Array Oper} {rest:List Oper} {o:Oper} {a:Act} {Q:Exit->Act->World->Prop} (hgd:o.guard=none) (x y:Operand) (T:TypeId) (ho:o.op= .store T x y) (hd:o.dst=none) (g:Nat) (C C':Array Value) (hs:(P.info? T).map (·.size)=some C.size) (hz:C'.size=C.size) (h1:∀v∈C'.toList,v.oneCell'=true) (hx:a.eval x= .pointer (some ⟨g,0,none⟩)) (hy:a.eval y= .agg C') (hb:bf U w g C)
 (h:∀w',Hid (bf U w' g C')->Flow.Into [g] w w'->wpList P ops Q rest a w'):wpList P ops Q (o::rest) a w:=by
 refine wpList_plain hgd fun K hK=>?_;unfold Oper.wp execOp;simp only [ho,hx,hy,Sem.run_bind,rF hs hz h1 hb,Result.andThen_ok,Sem.run_pure];rw [Oper.upon_skip,hd];exact hK _ _ (h _ (JO hb hz) (Cr w g C'))
end
end Mem
end Go.Proofs.YtjpjjnalpdpljaaGreatDoor
namespace Go.Proofs.YtjpjjnalpdpljaaGreatDoor
open Go.RowKit
namespace No
structure Cfg where
 blocks:Int
 bytes:Int
 frames:Int
 fan:Int
 buffer:Int
 leaf:Int
 key:Int
 val:Int
def aZ (c:Cfg):Array Value:= #[.int .i64 c.blocks,.int .i64 c.bytes,.int .i64 c.frames,.int .i64 c.fan,.int .i64 c.buffer,.int .i64 c.leaf,.int .i64 c.key,.int .i64 c.val]
end No
end Go.Proofs.YtjpjjnalpdpljaaGreatDoor
