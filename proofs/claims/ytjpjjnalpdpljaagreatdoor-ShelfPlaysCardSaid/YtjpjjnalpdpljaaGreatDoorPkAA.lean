import Derived.ProofKit
namespace Go.Proofs.YtjpjjnalpdpljaaGreatDoor
open Go.RowKit
instance ci:Coe Int Value:=⟨fun x=>.int .i64 x⟩
instance cn:Coe Nat Value:=⟨fun x=>.pointer (some ⟨x,0,none⟩)⟩
instance cu:Coe Unit Value:=⟨fun _=> .slice none 0 0⟩
abbrev Bw (w w':World):Prop:=Below w.heap.size w w'
theorem bAx {w:World} {o:Obj}:Below w.heap.size w (w.alloc o):=(Below.refl _ _).alloc (Nat.le_refl _) _
theorem eX {α:Type} (a:α):∃x,x=a:=⟨a,rfl⟩
instance ca:Coe Nat Addr:=⟨fun x=>⟨x,0,none⟩⟩
theorem lC:(∀{α:Type} {a:α} {l:List α},(a::l).length=l.length+1)/\(∀{α:Type},([]:List α).length=0)/\(∀{α:Type} {a:α} {l:List α} {i:Nat},(a::l).drop (i+1)=l.drop i):=⟨rfl,rfl,rfl⟩
end Go.Proofs.YtjpjjnalpdpljaaGreatDoor
namespace Go.Proofs.YtjpjjnalpdpljaaGreatDoor
open List (mem_append mem_cons mem_cons_of_mem nodup_append nodup_cons)
namespace Cn
def upd (f:Nat->Nat) (k v:Nat):Nat->Nat:=fun x=>if x=k then v else f x
theorem upd_same (f:Nat->Nat) (k v:Nat):upd f k v k=v:=by simp [upd]
theorem aX (f:Nat->Nat) {k x:Nat} (v:Nat) (h:x≠k):upd f k v x=f x:=by simp [upd,h]
def lst:Nat->List Nat->Nat
 |x,[]=>x
 |_,y::r=>lst y r
def hd:List Nat->Nat->Nat
 |[],z=>z
 |y::_,_=>y
def Lk (A B:Nat->Nat):Nat->List Nat->Nat->Prop
 |x,[],z=>B x=z/\A z=x
 |x,y::r,z=>B x=y/\A y=x/\Lk A B y r z
def Pre (A B:Nat->Nat):Nat->List Nat->Prop
 |_,[]=>True
 |x,y::r=>B x=y/\A y=x/\Pre A B y r
def Tail (A B:Nat->Nat):List Nat->Nat->Prop
 |[],_=>True
 |y::r,z=>Lk A B y r z
theorem j5:∀(x:Nat) (l:List Nat),lst x l∈x::l
 |x,[]=>by simp [lst]
 |x,y::r=>by
  have:=j5 y r;simp only [lst];exact mem_cons_of_mem _ this
theorem qo:∀(l:List Nat) (z:Nat),hd l z=z\/hd l z∈l
 |[],z=> .inl rfl
 |y::r,z=> .inr (by simp [hd])
theorem fQ {A B:Nat->Nat}:∀{x:Nat} {l1 l2:List Nat} {z:Nat},Lk A B x (l1++l2) z↔Pre A B x l1/\B (lst x l1)=hd l2 z/\A (hd l2 z)=lst x l1/\Tail A B l2 z
 |x,[],[],z=>by simp [Lk,Pre,lst,hd,Tail]
 |x,[],y::r,z=>by simp [Lk,Pre,lst,hd,Tail]
 |x,u::l1,l2,z=>by
  have:= @fQ A B u l1 l2 z;simp only [List.cons_append,Lk,Pre,lst,this,and_assoc]
theorem tail_cons {A B:Nat->Nat} {i z:Nat} {l:List Nat}:Tail A B (i::l) z↔B i=hd l z/\A (hd l z)=i/\Tail A B l z:=by
 have:= @fQ A B i [] l z;simpa [Pre,lst,Tail] using this
theorem nX {A B A' B':Nat->Nat}:∀{x:Nat} {l:List Nat},(x::l).Nodup->(∀y∈x::l,y≠lst x l->B' y=B y)->(∀y∈l,A' y=A y)->Pre A B x l->Pre A' B' x l
 |x,[],_,_,_,_=>trivial
 |x,y::r,hn,hB,hA,⟨h1,h2,h3⟩=>by
  have hx:x≠lst y r:=by
   have h:=j5 y r;rw [nodup_cons] at hn;rintro rfl;exact hn.1 h
  refine ⟨by rw [hB x (by simp) hx,h1],by rw [hA y (by simp),h2],nX (nodup_cons.1 hn).2 (fun u hu hne=>hB u (mem_cons_of_mem _ hu) hne) (fun u hu=>hA u (mem_cons_of_mem _ hu)) h3⟩
theorem yx {A B A' B':Nat->Nat}:∀{x:Nat} {l:List Nat} {z:Nat},(∀y∈x::l,B' y=B y)->(∀y∈l,A' y=A y)->A' z=A z->Lk A B x l z->Lk A' B' x l z
 |x,[],z,hB,_,hz,⟨h1,h2⟩=>⟨by rw [hB x (by simp),h1],by rw [hz,h2]⟩
 |x,y::r,z,hB,hA,hz,⟨h1,h2,h3⟩=>⟨by rw [hB x (by simp),h1],by rw [hA y (by simp),h2],yx (fun u hu=>hB u (mem_cons_of_mem _ hu)) (fun u hu=>hA u (mem_cons_of_mem _ hu)) hz h3⟩
theorem qp {A B A' B':Nat->Nat} {l:List Nat} {z:Nat} (hd':(l++[z]).Nodup) (hB:∀y∈l,B' y=B y) (hA:∀y,y∈l\/y=z->y≠hd l z->A' y=A y) (h:Tail A B l z):Tail A' B' l z:=by
 cases l with
 |nil=>trivial
 |cons y r=>
  have hn:=hd';simp only [List.cons_append,nodup_cons,mem_append,List.mem_singleton,not_or] at hn;refine yx (A:=A) (B:=B) hB (fun u hu=>hA u (.inl (mem_cons_of_mem _ hu)) ?_) (hA z (.inr rfl) ?_) h
  . rintro rfl;exact hn.1.1 hu
  . rintro rfl;exact hn.1.2 rfl
structure Ring (n:Nat) (A B:Nat->Nat) (l:List Nat):Prop where
 lt:∀x∈l,x<n
 nd:l.Nodup
 lk:Lk A B n l n
 out:∀x,x<n->x∉l->B x=x
section
variable {n:Nat} {A B:Nat->Nat} {l l1 l2:List Nat} {i:Nat}
theorem Ring.LB (h:Ring n A B l):n∉l:=fun hn=>Nat.lt_irrefl _ (h.lt n hn)
theorem Ring.next (h:Ring n A B (l1++i::l2)):B i=hd l2 n/\A (hd l2 n)=i/\A i=lst n l1/\B (lst n l1)=i:=by
 obtain ⟨_,h1,h2,h3⟩:=fQ.1 h.lk;obtain ⟨h4,h5,_⟩:=tail_cons.1 h3;exact ⟨h4,h5,h2,h1⟩
theorem Ring.ends (h:Ring n A B l):B n=hd l n/\A n=lst n l:=by
 have h1:=fQ (l1:=[]).1 h.lk;have h2:=(fQ (l1:=l) (l2:=[])).1 (by simpa using h.lk);exact ⟨h1.2.1,h2.2.2.1⟩
theorem LC (h:∀x∈l,x<n):hd l n<=n:=by
 rcases qo l n with h1|h1
 . omega
 . have:=h _ h1;omega
theorem IV (h:∀x∈l,x<n):lst n l<=n:=by
 have h1:=j5 n l;rcases mem_cons.1 h1 with h1|h1
 . omega
 . have:=h _ h1;omega
theorem Ring.has (h:Ring n A B l) (hi:i<n):(B i≠i)=(i∈l):=by
 by_cases hm:i∈l
 . refine propext ⟨fun _=>hm,fun _=>?_⟩
   obtain ⟨l1,l2,rfl⟩:=List.append_of_mem hm;rw [h.next.1];have hn:=h.nd;simp only [nodup_append,nodup_cons] at hn;rcases qo l2 n with h1|h1
   . omega
   . rintro h2
     rw [h2] at h1;exact hn.2.1.1 h1
 . exact propext ⟨fun hh=>absurd (h.out i hi hm) hh,fun hh=>absurd hh hm⟩
theorem nY (h:Ring n A B (l1++i::l2)):i∉l1/\i∉l2/\(∀x∈l1,x∉l2)/\l1.Nodup/\l2.Nodup/\n∉l1/\n∉l2/\i<n:=by
 have hn:=h.nd;have hx:=h.LB;have hi:=h.lt i (by simp);simp only [nodup_append,nodup_cons,mem_cons] at hn;simp only [mem_append,mem_cons,not_or] at hx;obtain ⟨a1,⟨a2,a3⟩,a4⟩:=hn;refine ⟨fun hh=>(a4 i hh i (.inl rfl)) rfl,a2,fun x hx1 hx2=>a4 x hx1 x (.inr hx2) rfl,a1,a3,hx.1,hx.2.2,hi⟩
theorem Ring.loosen (h:Ring n A B (l1++i::l2)):Ring n (upd (upd A (B i) (A i)) i i) (upd (upd B (A i) (B i)) i i) (l1++l2):=by
 obtain ⟨e1,e2,e3,e4⟩:=h.next;obtain ⟨f1,f2,f3,f4,f5,f6,f7,f8⟩:=nY h;obtain ⟨h1,_,_,h2⟩:=fQ.1 h.lk;obtain ⟨_,_,h3⟩:=tail_cons.1 h2;have hp:=j5 n l1;have hq:=qo l2 n;rw [e1,e3]
 have hpi:lst n l1≠i:=by
  rintro he;rw [he] at hp
  rcases mem_cons.1 hp with hp|hp
  . omega
  . exact f1 hp
 have hqi:hd l2 n≠i:=by
  rintro he;rw [he] at hq
  rcases hq with hq|hq
  . omega
  . exact f2 hq
 refine ⟨fun x hx=>h.lt x (by simp at hx ⊢;rcases hx with hx|hx<;>simp [hx]),?_,?_,?_⟩
 . exact nodup_append.2 ⟨f4,f5,fun x hx y hy he=>f3 x hx (he▸hy)⟩
 . refine fQ.2 ⟨nX (nodup_cons.2 ⟨f6,f4⟩) (fun y hy hne=>?_) (fun y hy=>?_) h1,?_,?_,qp ?_ (fun y hy=>?_) (fun y hy hne=>?_) h3⟩
   . have hyi:y≠i:=by
      rintro rfl;rcases mem_cons.1 hy with hy|hy
      . omega
      . exact f1 hy
     rw [aX _ _ hyi,aX _ _ hne]
   . have hyi:y≠i:=by rintro rfl;exact f1 hy
     have hyq:y≠hd l2 n:=by
      rintro he;rcases hq with hq|hq
      . rw [he,hq] at hy;exact f6 hy
      . exact f3 y hy (he▸hq)
     rw [aX _ _ hyi,aX _ _ hyq]
   . rw [aX _ _ hpi,upd_same]
   . rw [aX _ _ hqi,upd_same]
   . exact nodup_append.2 ⟨f5,by simp,fun x hx y hy he=>by simp at hy;subst hy he;exact f7 hx⟩
   . have hyi:y≠i:=by rintro rfl;exact f2 hy
     have hyp:y≠lst n l1:=by
      rintro he;rw [<-he] at hp;rcases mem_cons.1 hp with hp|hp
      . subst hp;exact f7 hy
      . exact f3 y hp hy
     rw [aX _ _ hyi,aX _ _ hyp]
   . have hyi:y≠i:=by
      rintro rfl;rcases hy with hy|hy
      . exact f2 hy
      . omega
     rw [aX _ _ hyi,aX _ _ hne]
 . intro x hx hm
   by_cases hxi:x=i
   . subst hxi;exact upd_same _ _ _
   . have hxp:x≠lst n l1:=by
      rintro he;rw [<-he] at hp;rcases mem_cons.1 hp with hp|hp
      . omega
      . exact hm (List.mem_append_left _ hp)
     rw [aX _ _ hxi,aX _ _ hxp];refine h.out x hx fun hh=>hm ?_;simp only [mem_append,mem_cons] at hh ⊢;rcases hh with hh|hh|hh
     . exact .inl hh
     . exact absurd hh hxi
     . exact .inr hh
theorem Ring.join (h:Ring n A B (l1++l2)) (hi:i<n) (hm:i∉l1++l2) {a b:Nat} (ha:a=lst n l1) (hb:b=B a):Ring n (upd (upd A i a) b i) (upd (upd B i b) a i) (l1++i::l2):=by
 obtain ⟨h1,h2,h3,h4⟩:=fQ.1 h.lk;rw [<-ha] at h2 h3;rw [<-hb] at h2;subst h2;have hp:=j5 n l1;have hq:=qo l2 n;rw [<-ha] at hp;have hn:=h.nd;have hx:=h.LB;have hm':=hm;simp only [mem_append,not_or] at hm' hx;obtain ⟨g1,g2⟩:=hm';obtain ⟨k1,k2⟩:=hx;obtain ⟨f4,f5,f3⟩:=nodup_append.1 hn
 have hai:i≠a:=by
  rintro rfl;rcases mem_cons.1 hp with hp|hp
  . omega
  . exact g1 hp
 have hbi:i≠hd l2 n:=by
  rintro he;rcases hq with hq|hq
  . omega
  . rw [<-he] at hq;exact g2 hq
 refine ⟨fun x hx=>?_,?_,?_,?_⟩
 . simp only [mem_append,mem_cons] at hx
   rcases hx with hx|hx|hx
   . exact h.lt x (List.mem_append_left _ hx)
   . omega
   . exact h.lt x (List.mem_append_right _ hx)
 . refine nodup_append.2 ⟨f4,nodup_cons.2 ⟨g2,f5⟩,fun x hx y hy he=>?_⟩
   subst he;rcases mem_cons.1 hy with hy|hy
   . subst hy;exact g1 hx
   . exact f3 x hx x hy rfl
 . refine fQ.2 ⟨nX (nodup_cons.2 ⟨k1,f4⟩) (fun y hy hne=>?_) (fun y hy=>?_) h1,?_,?_,tail_cons.2 ⟨?_,?_,qp ?_ (fun y hy=>?_) (fun y hy hne=>?_) h4⟩⟩
   . have hyi:y≠i:=by
      rintro rfl;rcases mem_cons.1 hy with hy|hy
      . omega
      . exact g1 hy
     rw [<-ha] at hne;rw [aX _ _ hne,aX _ _ hyi]
   . have hyi:y≠i:=by rintro rfl;exact g1 hy
     have hyq:y≠hd l2 n:=by
      rintro he;rcases hq with hq|hq
      . rw [he,hq] at hy;exact k1 hy
      . exact f3 y hy y (he▸hq) rfl
     rw [aX _ _ hyq,aX _ _ hyi]
   . rw [<-ha];exact upd_same _ _ _
   . show upd (upd A i a) (hd l2 n) i i=_
     rw [aX _ _ hbi,upd_same,ha]
   . rw [aX _ _ hai,upd_same]
   . exact upd_same _ _ _
   . exact nodup_append.2 ⟨f5,by simp,fun x hx y hy he=>by simp at hy;subst hy he;exact k2 hx⟩
   . have hyi:y≠i:=by rintro rfl;exact g2 hy
     have hyp:y≠a:=by
      rintro he;rw [<-he] at hp;rcases mem_cons.1 hp with hp|hp
      . subst hp;exact k2 hy
      . exact f3 y hp y hy rfl
     rw [aX _ _ hyp,aX _ _ hyi]
   . have hyi:y≠i:=by
      rintro rfl;rcases hy with hy|hy
      . exact g2 hy
      . omega
     rw [aX _ _ hne,aX _ _ hyi]
 . intro x hx hm2
   simp only [mem_append,mem_cons,not_or] at hm2
   have hxa:x≠a:=by
    rintro rfl;rcases mem_cons.1 hp with hp|hp
    . omega
    . exact hm2.1 hp
   rw [aX _ _ hxa,aX _ _ hm2.2.1];exact h.out x hx (by simp [hm2])
theorem Ring.front (h:Ring n A B l) (hi:i<n) (hm:i∉l) {b:Nat} (hb:b=B n):Ring n (upd (upd A i n) b i) (upd (upd B i b) n i) (i::l):=
 Ring.join (l1:=[]) (l2:=l) h hi hm rfl hb
theorem Ring.back (h:Ring n A B l) (hi:i<n) (hm:i∉l) {a b:Nat} (ha:a=A n) (hb:b=B a):Ring n (upd (upd A i a) b i) (upd (upd B i b) a i) (l++[i]):=
 Ring.join (l1:=l) (l2:=[]) (by simpa using h) hi (by simpa using hm) (ha.trans h.ends.2) hb
def del (l:List Nat) (i:Nat):List Nat:=l.filter (· != i)
theorem kN (h:i∉l):del l i=l:=List.filter_eq_self.2 fun x hx=>by
 have:x≠i:=by rintro rfl;exact h hx
 simpa using this
theorem BJ (h1:i∉l1) (h2:i∉l2):del (l1++i::l2) i=l1++l2:=by
 unfold del;rw [List.filter_append,List.filter_cons_of_neg (by simp)];exact congr (congrArg _ (kN h1)) (kN h2)
theorem gT (l:List Nat) (i:Nat):i∉del l i:=by simp [del]
theorem nZ:∀(n:Nat) (l:List Nat),l.Nodup->(∀x∈l,x<n)->l.length<=n
 |0,l,_,h=>by
  cases l with
  |nil=>exact Nat.le_refl _
  |cons x r=>exact absurd (h x (by simp)) (by omega)
 |n+1,l,hn,h=>by
  by_cases hm:n∈l
  . obtain ⟨l1,l2,rfl⟩:=List.append_of_mem hm
    simp only [nodup_append,nodup_cons,mem_cons] at hn;obtain ⟨a1,⟨a2,a3⟩,a4⟩:=hn
    have:=nZ n (l1++l2) (nodup_append.2 ⟨a1,a3,fun x hx y hy he=>a4 x hx y (.inr hy) he⟩) (fun x hx=>by
     have h1:=h x (by simp at hx ⊢;rcases hx with hx|hx<;>simp [hx])
     have h2:x≠n:=by
      rintro rfl;rcases mem_append.1 hx with hx|hx
      . exact a4 x hx x (.inl rfl) rfl
      . exact a2 hx
     omega)
    simp at this ⊢;omega
  . have:=nZ n l hn (fun x hx=>by
     have h1:=h x hx;have h2:x≠n:=by rintro rfl;exact hm hx
     omega)
    omega
theorem Ring.yA (h:Ring n A B l):l.length<=n:=nZ n l h.nd h.lt
end
end Cn
end Go.Proofs.YtjpjjnalpdpljaaGreatDoor
namespace Go.Proofs.YtjpjjnalpdpljaaGreatDoor
namespace Ca
open Cn (del gT)
abbrev Fr:=Nat × List UInt8 × Bool × Nat
structure St where
 m:Nat
 ls:List (List UInt8)
 r:Nat
 s:Nat
 fr:List (Option Fr)
 row:List Nat
def Uq (fr:List (Option Fr)):Prop:=∀(i j:Nat) (f f':Fr),fr[i]? =some (some f)->fr[j]? =some (some f')->f.1=f'.1->i=j
def look:List (Option Fr)->Nat->Option (Nat × Fr)
 |[],_=>none
 |none::l,b=>(look l b).map fun y=>(y.1+1,y.2)
 |some f::l,b=>if f.1=b then some (0,f) else (look l b).map fun y=>(y.1+1,y.2)
theorem aH {b j:Nat} {f:Fr}:∀{fr:List (Option Fr)},look fr b=some (j,f)->fr[j]? =some (some f)/\f.1=b:=by
 intro fr
 induction fr generalizing j with
 |nil=>intro h;cases h
 |cons x l ih=>
  intro h;cases x with
  |none=>
   simp only [look,Option.map_eq_some_iff] at h;obtain ⟨y,hy,he⟩:=h;(cases he);simpa using ih hy
  |some g=>
   simp only [look] at h;split at h
   . rename_i hg
     (cases h);exact ⟨rfl,hg⟩
   . simp only [Option.map_eq_some_iff] at h
     obtain ⟨y,hy,he⟩:=h;(cases he);simpa using ih hy
theorem bS {b:Nat}:∀{fr:List (Option Fr)},look fr b=none->∀(j:Nat) (f:Fr),fr[j]? =some (some f)->f.1≠b:=by
 intro fr
 induction fr with
 |nil=>intro _ j f h;simp at h
 |cons x l ih=>
  intro h j f hj;cases x with
  |none=>
   simp only [look,Option.map_eq_none_iff] at h;cases j with
   |zero=>simp at hj
   |succ j=>exact ih h j f (by simpa using hj)
  |some g=>
   simp only [look] at h;split at h
   . cases h
   . rename_i hg
     simp only [Option.map_eq_none_iff] at h;cases j with
     |zero=>
      obtain rfl:g=f:=(by simpa using hj);exact hg
     |succ j=>exact ih h j f (by simpa using hj)
theorem gU {fr:List (Option Fr)} (hU:Uq fr) {j:Nat} {f:Fr} (h:fr[j]? =some (some f)):look fr f.1=some (j,f):=by
 cases hl:look fr f.1 with
 |none=>exact absurd rfl (bS hl j f h)
 |some y=>
  obtain ⟨i,g⟩:=y;obtain ⟨h1,h2⟩:=aH hl;obtain rfl:=hU i j g f h1 h h2;rw [h1] at h;obtain rfl:g=f:=by simpa using h
  rfl
theorem dJ {fr:List (Option Fr)} {b:Nat} (h:∀(j:Nat) (f:Fr),fr[j]? =some (some f)->f.1≠b):look fr b=none:=by
 cases hl:look fr b with
 |none=>rfl
 |some y=>
  obtain ⟨h1,h2⟩:=aH (j:=y.1) (f:=y.2) hl;exact absurd h2 (h _ _ h1)
def ix (fr:List (Option Fr)) (b:Nat):Option Nat:=(look fr b).map (·.1)
theorem fA {α:Type} {l:List α} {i j:Nat} {x:α}:(l.set i x)[j]? =if i=j then (if j<l.length then some x else none) else l[j]? :=by
 rw [List.getElem?_set];by_cases h:i=j
 . subst h;simp
 . simp [h]
theorem aU {α:Type} {l:List α} {i:Nat} {x:α} (h:l[i]? =some x):i<l.length:=(List.getElem?_eq_some_iff.1 h).1
theorem og {fr:List (Option Fr)} (hU:Uq fr) {a:Nat} {f:Fr} (ho:∀(j:Nat) (g:Fr),fr[j]? =some (some g)->g.1=f.1->j=a):Uq (fr.set a (some f)):=by
 intro i j g g' hi hj e;rw [fA] at hi hj;by_cases h1:a=i
 . by_cases h2:a=j
   . omega
   . rw [if_neg h2] at hj
     subst h1;rw [if_pos rfl] at hi;split at hi
     . obtain rfl:f=g:=by simpa using hi
       exact (ho j g' hj e.symm).symm
     . cases hi
 . rw [if_neg h1] at hi
   by_cases h2:a=j
   . subst h2
     rw [if_pos rfl] at hj;split at hj
     . obtain rfl:f=g':=by simpa using hj
       exact ho i g hi e
     . cases hj
   . rw [if_neg h2] at hj
     exact hU i j g g' hi hj e
theorem qU {fr:List (Option Fr)} (hU:Uq fr) (a:Nat):Uq (fr.set a none):=by
 intro i j g g' hi hj e;rw [fA] at hi hj;by_cases h1:a=i
 . rw [if_pos h1] at hi;split at hi<;>cases hi
 . by_cases h2:a=j
   . rw [if_pos h2] at hj;split at hj<;>cases hj
   . rw [if_neg h1] at hi
     rw [if_neg h2] at hj;exact hU i j g g' hi hj e
theorem jw {fr:List (Option Fr)} (hU:Uq fr) {j:Nat} {f:Fr} (h:fr[j]? =some (some f)):ix fr f.1=some j:=by
 unfold ix;rw [gU hU h];rfl
theorem eY {fr:List (Option Fr)} {b:Nat} (h:∀(j:Nat) (f:Fr),fr[j]? =some (some f)->f.1≠b):ix fr b=none:=by
 unfold ix;rw [dJ h];rfl
theorem oh {fr:List (Option Fr)} {b j:Nat} (h:ix fr b=some j):∃f:Fr,fr[j]? =some (some f)/\f.1=b:=by
 unfold ix at h;simp only [Option.map_eq_some_iff] at h;obtain ⟨y,hy,he⟩:=h;subst he;exact ⟨y.2,aH (j:=y.1) (f:=y.2) hy⟩
theorem BK {fr:List (Option Fr)} {b:Nat} (h:ix fr b=none):∀(j:Nat) (f:Fr),fr[j]? =some (some f)->f.1≠b:=by
 unfold ix at h;simp only [Option.map_eq_none_iff] at h;exact bS h
theorem BM {fr:List (Option Fr)} (hU:Uq fr) {a:Nat} {f:Fr} (ha:a<fr.length) (ho:∀(j:Nat) (g:Fr),fr[j]? =some (some g)->g.1=f.1->j=a) (hn:∀g:Fr,fr[a]? =some (some g)->g.1=f.1) (x:Nat):
 ix (fr.set a (some f)) x=if x=f.1 then some a else ix fr x:=by
 by_cases hx:x=f.1
 . subst hx
   rw [if_pos rfl];exact jw (og hU ho) (by rw [fA,if_pos rfl,if_pos ha])
 . rw [if_neg hx]
   cases h:ix fr x with
   |none=>
    refine eY fun j g hj=>?_;rw [fA] at hj;by_cases h1:a=j
    . subst h1
      rw [if_pos rfl,if_pos ha] at hj;obtain rfl:f=g:=(by simpa using hj);exact fun e=>hx e.symm
    . rw [if_neg h1] at hj
      exact BK h j g hj
   |some j=>
    obtain ⟨g,hg,rfl⟩:=oh h;refine jw (og hU ho) ?_;rw [fA];by_cases h1:a=j
    . subst h1;exact absurd (hn g hg) hx
    . rw [if_neg h1];exact hg
theorem FU {fr:List (Option Fr)} (hU:Uq fr) {a:Nat} {f:Fr} (hf:fr[a]? =some (some f)) (x:Nat):ix (fr.set a none) x=if x=f.1 then none else ix fr x:=by
 by_cases hx:x=f.1
 . subst hx
   rw [if_pos rfl];refine eY fun j g hj e=>?_;rw [fA] at hj;by_cases h1:a=j
   . rw [if_pos h1] at hj;split at hj<;>cases hj
   . rw [if_neg h1] at hj
     exact h1 (hU a j f g hf hj e.symm)
 . rw [if_neg hx]
   cases h:ix fr x with
   |none=>
    refine eY fun j g hj=>?_;rw [fA] at hj;by_cases h1:a=j
    . rw [if_pos h1] at hj;split at hj<;>cases hj
    . rw [if_neg h1] at hj
      exact BK h j g hj
   |some j=>
    obtain ⟨g,hg,rfl⟩:=oh h;refine jw (qU hU a) ?_;rw [fA];by_cases h1:a=j
    . subst h1
      rw [hf] at hg;obtain rfl:f=g:=(by simpa using hg);exact absurd rfl hx
    . rw [if_neg h1];exact hg
def occ (fr:List (Option Fr)):Nat:=(fr.filterMap id).length
theorem qV:∀{fr:List (Option Fr)} {a:Nat} {x y:Option Fr},fr[a]? =some x->occ (fr.set a y)+(if x.isSome then 1 else 0)=occ fr+(if y.isSome then 1 else 0):=by
 intro fr
 induction fr with
 |nil=>intro a x y h;simp at h
 |cons z l ih=>
  intro a x y h;cases a with
  |zero=>
   obtain rfl:z=x:=(by simpa using h);cases z<;>cases y<;>simp [occ]
  |succ a=>
   have:= @ih a x y (by simpa using h);unfold occ at this ⊢;cases z<;>simp<;>omega
theorem yB (fr:List (Option Fr)):occ fr<=fr.length:=List.length_filterMap_le _ _
section
variable (st:St)
def bH (b:Nat):Nat:=match look st.fr b with
 |some (_,f)=>f.2.2.2
 |none=>0
def bJ (a:Nat):St:=match st.fr[a]? with
 |some (some (b,x,true,p))=>{ st with ls:=st.ls.set b x,s:=st.s+1,fr:=st.fr.set a (some (b,x,false,p)) }
 |_=>st
def gF (a:Nat):St:={ st with fr:=st.fr.set a none,row:=del st.row a++[a] }
def gB (a:Nat) (f:Fr):St:={ st with fr:=st.fr.set a (some f),row:=del st.row a }
def tZ:St:={ st with r:=st.r+1 }
def fV:Option (Nat × St):=match st.row.getLast? with
 |none=>none
 |some a=>match st.fr[a]? with
  |some (some _)=>some (a,gF (bJ st a) a)
  |_=>some (a,st)
def om (b:Nat):Int × St:=
 if b<st.ls.length then
  match look st.fr b with
  |some (j,f)=>(0,gB st j (f.1,f.2.1,f.2.2.1,f.2.2.2+1))
  |none=>match fV st with
   |none=>(7,st)
   |some (a,t)=>(0,gB (tZ t) a (b,(t.ls[b]?).getD [],false,1))
 else (4,st)
def eu (b:Nat):Int × St:=
 if b<st.ls.length then
  if 0<bH st b then (8,st) else
  match look st.fr b with
  |some (j,_)=>(0,gB st j (b,List.replicate st.m 0,true,1))
  |none=>match fV st with
   |none=>(7,st)
   |some (a,t)=>(0,gB t a (b,List.replicate st.m 0,true,1))
 else (4,st)
def dV (b:Nat):Int × St:=match look st.fr b with
 |some (j,f)=>if f.2.2.2=0 then (8,st) else (0,{ st with fr:=st.fr.set j (some (f.1,f.2.1,f.2.2.1,f.2.2.2-1)),row:=if f.2.2.2=1 then j::del st.row j else st.row })
 |none=>(8,st)
def OB (b:Nat):List UInt8 × Int:=match look st.fr b with
 |some (_,f)=>if f.2.2.2=0 then ([],8) else (f.2.1,0)
 |none=>([],8)
def dW (b:Nat) (y:List UInt8):Int × St:=match look st.fr b with
 |some (j,f)=>if f.2.2.2=0 then (8,st) else if y.length=f.2.1.length then (0,{ st with fr:=st.fr.set j (some (f.1,y,true,f.2.2.2)) }) else (3,st)
 |none=>(8,st)
def iR (b:Nat):Int × St:=if 0<bH st b then (8,st) else match look st.fr b with
 |some (j,_)=>(0,gF st j)
 |none=>(0,st)
def dX (b:Nat):Bool:=match look st.fr b with
 |some (_,f)=>f.2.2.1
 |none=>false
def dh:List Nat:=(List.range st.ls.length).filter (dX st)
def bq (b:Nat):St:=match look st.fr b with
 |some (j,_)=>bJ st j
 |none=>st
def eZ:St:=(dh st).foldl bq st
end
structure Good (st:St):Prop where
 n1:1<=st.fr.length
 n2:st.fr.length<=64
 uq:Uq st.fr
 blk:∀(j:Nat) (f:Fr),st.fr[j]? =some (some f)->f.1<st.ls.length/\f.2.1.length=st.m
 cl:∀(j:Nat) (f:Fr),st.fr[j]? =some (some f)->f.2.2.1=false->st.ls[f.1]? =some f.2.1
 rw:∀j:Nat,j∈st.row↔j<st.fr.length/\∀f:Fr,st.fr[j]? =some (some f)->f.2.2.2=0
 nd:st.row.Nodup
 sp:∃a e,st.row=a++e/\(∀j∈a,∃f:Fr,st.fr[j]? =some (some f))/\∀j∈e,st.fr[j]? =some none
 lm:∀l,l∈st.ls->l.length=st.m
 l32:st.ls.length<=65536
end Ca
end Go.Proofs.YtjpjjnalpdpljaaGreatDoor
namespace Go.Proofs.YtjpjjnalpdpljaaGreatDoor
namespace Ca
open Cn (del gT)
theorem iL {l:List Nat} {a j:Nat}:j∈del l a↔j∈l/\j≠a:=by simp [del]
theorem wz (l l':List Nat) (a:Nat):del (l++l') a=del l a++del l' a:=by simp [del]
theorem BN {l:List Nat} (h:l.Nodup) (a:Nat):(del l a).Nodup:=h.filter _
section
variable {st:St}
theorem dK {α:Type} {l:List α} {a j:Nat} {x:α} (h:j≠a):(l.set a x)[j]? =l[j]? :=by
 rw [List.getElem?_set,if_neg (fun e=>h e.symm)]
theorem fJ {α:Type} {l:List α} {a:Nat} {x y:α} (h:l[a]? =some y):(l.set a x)[a]? =some x:=by
 rw [List.getElem?_set,if_pos rfl,if_pos (aU h)]
theorem Ju {ls:List (List UInt8)} {m b:Nat} {x:List UInt8} (h:∀l,l∈ls->l.length=m) (hx:x.length=m):∀l,l∈ls.set b x->l.length=m:=fun l hl=>by
 rcases List.mem_or_eq_of_mem_set hl with h'|rfl
 . exact h l h'
 . exact hx
theorem Good.alter (h:Good st) {a:Nat} {f f':Fr} (hf:st.fr[a]? =some (some f)) (h1:f'.1=f.1) (h2:f'.2.1.length=st.m) (hp:f'.2.2.2=0↔f.2.2.2=0) {ls':List (List UInt8)} (hl:ls'.length=st.ls.length) (hlm:∀l,l∈ls'->l.length=st.m)
 (hc:f'.2.2.1=false->ls'[f'.1]? =some f'.2.1) (hc2:∀(j:Nat) (g:Fr),j≠a->st.fr[j]? =some (some g)->g.2.2.1=false->ls'[g.1]? =some g.2.1) (r s:Nat):Good { st with ls:=ls',r:=r,s:=s,fr:=st.fr.set a (some f') }:=by
 have hg:∀(j:Nat) (g:Fr),(st.fr.set a (some f'))[j]? =some (some g)->(j=a/\g=f')\/(j≠a/\st.fr[j]? =some (some g)):=fun j g hj=>by
  by_cases e:j=a
  . subst e
    rw [fJ hf] at hj;exact .inl ⟨rfl,by simpa using hj.symm⟩
  . rw [dK e] at hj
    exact .inr ⟨e,hj⟩
 refine ⟨by simpa using h.n1,by simpa using h.n2,og h.uq fun j g hj e=>?_,fun j g hj=>?_,fun j g hj hd=>?_,fun j=>?_,h.nd,?_,hlm,by rw [hl];exact h.l32⟩
 . exact h.uq j a g f hj hf (e.trans h1)
 . show g.1<ls'.length/\_
   rw [hl];rcases hg j g hj with ⟨rfl,rfl⟩|⟨_,hj⟩
   . exact ⟨by rw [h1];exact (h.blk _ _ hf).1,h2⟩
   . exact h.blk j g hj
 . rcases hg j g hj with ⟨rfl,rfl⟩|⟨e,hj⟩
   . exact hc hd
   . exact hc2 j g e hj hd
 . show j∈st.row↔j<(st.fr.set a (some f')).length/\_
   rw [h.rw j,List.length_set];refine and_congr_right fun hj=>⟨fun hh g hg'=>?_,fun hh g hg'=>?_⟩
   . rcases hg j g hg' with ⟨rfl,rfl⟩|⟨_,hj'⟩
     . exact hp.2 (hh f hf)
     . exact hh g hj'
   . by_cases e:j=a
     . subst e
       rw [hf] at hg';obtain rfl:f=g:=(by simpa using hg');exact hp.1 (hh f' (fJ hf))
     . exact hh g (by rw [dK e];exact hg')
 . obtain ⟨x,y,e,hx,hy⟩:=h.sp
   refine ⟨x,y,e,fun j hj=>?_,fun j hj=>?_⟩
   . obtain ⟨g,hg'⟩:=hx j hj
     by_cases ej:j=a
     . subst ej;exact ⟨f',fJ hf⟩
     . exact ⟨g,by rw [dK ej];exact hg'⟩
   . have hn:=hy j hj
     have ej:j≠a:=(by rintro rfl;rw [hf] at hn;cases hn);show (st.fr.set a (some f'))[j]? =_;rw [dK ej];exact hn
theorem Good.clean (h:Good st) (a:Nat):Good (bJ st a):=by
 unfold bJ;split
 . rename_i b x p hf
   obtain ⟨hb,hx⟩:=h.blk _ _ hf;refine h.alter (f':=(b,x,false,p)) hf rfl hx Iff.rfl (by simp) (Ju h.lm hx) (fun _=>?_) (fun j g e hj hd=>?_) _ _
   . rw [List.getElem?_set,if_pos rfl,if_pos hb]
   . have hne:g.1≠b:=fun e'=>e (h.uq j a g _ hj hf e')
     rw [dK hne];exact h.cl j g hj hd
 . exact h
theorem Good.fill (h:Good st) {a:Nat} {y:Option Fr} (hy:st.fr[a]? =some y) {f:Fr} (h1:f.1<st.ls.length) (h2:f.2.1.length=st.m) (h3:0<f.2.2.2) (hc:f.2.2.1=false->st.ls[f.1]? =some f.2.1) (ho:∀(j:Nat) (g:Fr),st.fr[j]? =some (some g)->g.1=f.1->j=a):Good (gB st a f):=by
 have hg:∀(j:Nat) (g:Fr),(st.fr.set a (some f))[j]? =some (some g)->(j=a/\g=f)\/(j≠a/\st.fr[j]? =some (some g)):=fun j g hj=>by
  by_cases e:j=a
  . subst e
    rw [fJ hy] at hj;exact .inl ⟨rfl,by simpa using hj.symm⟩
  . rw [dK e] at hj
    exact .inr ⟨e,hj⟩
 unfold gB;refine ⟨by simpa using h.n1,by simpa using h.n2,og h.uq ho,fun j g hj=>?_,fun j g hj hd=>?_,fun j=>?_,BN h.nd a,?_,h.lm,h.l32⟩
 . rcases hg j g hj with ⟨rfl,rfl⟩|⟨_,hj⟩
   . exact ⟨h1,h2⟩
   . exact h.blk j g hj
 . rcases hg j g hj with ⟨rfl,rfl⟩|⟨e,hj⟩
   . exact hc hd
   . exact h.cl j g hj hd
 . show j∈del st.row a↔j<(st.fr.set a (some f)).length/\_
   rw [iL,h.rw j,List.length_set];refine ⟨fun ⟨⟨hj,hh⟩,hne⟩=>⟨hj,fun g hg'=>?_⟩,fun ⟨hj,hh⟩=>?_⟩
   . rcases hg j g hg' with ⟨e,_⟩|⟨_,hj'⟩
     . exact absurd e hne
     . exact hh g hj'
   . have hne:j≠a:=by
      rintro rfl;have:=hh f (fJ hy);omega
     exact ⟨⟨hj,fun g hg'=>hh g (by rw [dK hne];exact hg')⟩,hne⟩
 . obtain ⟨x,z,e,hx,hz⟩:=h.sp
   refine ⟨del x a,del z a,by rw [e,wz],fun j hj=>?_,fun j hj=>?_⟩
   . obtain ⟨hj,hne⟩:=iL.1 hj
     obtain ⟨g,hg'⟩:=hx j hj;exact ⟨g,by rw [dK hne];exact hg'⟩
   . obtain ⟨hj,hne⟩:=iL.1 hj
     show (st.fr.set a (some f))[j]? =_;rw [dK hne];exact hz j hj
theorem Good.empty (h:Good st) {a:Nat} {f:Fr} (hf:st.fr[a]? =some (some f)):Good (gF st a):=by
 have hg:∀(j:Nat) (g:Fr),(st.fr.set a none)[j]? =some (some g)->j≠a/\st.fr[j]? =some (some g):=fun j g hj=>by
  by_cases e:j=a
  . subst e
    rw [fJ hf] at hj;cases hj
  . rw [dK e] at hj
    exact ⟨e,hj⟩
 unfold gF;refine ⟨by simpa using h.n1,by simpa using h.n2,qU h.uq a,fun j g hj=>h.blk j g (hg j g hj).2,fun j g hj hd=>h.cl j g (hg j g hj).2 hd,fun j=>?_,?_,?_,h.lm,h.l32⟩
 . show j∈del st.row a++[a]↔j<(st.fr.set a none).length/\_
   rw [List.mem_append,List.mem_singleton,iL,h.rw j,List.length_set];refine ⟨fun hh=>?_,fun ⟨hj,hh⟩=>?_⟩
   . rcases hh with ⟨⟨hj,hh⟩,hne⟩|rfl
     . exact ⟨hj,fun g hg'=>hh g (hg j g hg').2⟩
     . exact ⟨aU hf,fun g hg'=>absurd rfl (hg j g hg').1⟩
   . by_cases e:j=a
     . exact .inr e
     . exact .inl ⟨⟨hj,fun g hg'=>hh g (by rw [dK e];exact hg')⟩,e⟩
 . refine List.nodup_append.2 ⟨BN h.nd a,by simp,fun x hx y hy e=>?_⟩
   obtain rfl:y=a:=(by simpa using hy);exact (iL.1 hx).2 e
 . obtain ⟨x,z,e,hx,hz⟩:=h.sp
   refine ⟨del x a,del z a++[a],by rw [e,wz,List.append_assoc],fun j hj=>?_,fun j hj=>?_⟩
   . obtain ⟨hj,hne⟩:=iL.1 hj
     obtain ⟨g,hg'⟩:=hx j hj;exact ⟨g,by rw [dK hne];exact hg'⟩
   . show (st.fr.set a none)[j]? =_
     rcases List.mem_append.1 hj with hj|hj
     . obtain ⟨hj,hne⟩:=iL.1 hj
       rw [dK hne];exact hz j hj
     . obtain rfl:j=a:=by simpa using hj
       exact fJ hf
theorem Good.read (h:Good st):Good (tZ st):=⟨h.n1,h.n2,h.uq,h.blk,h.cl,h.rw,h.nd,h.sp,h.lm,h.l32⟩
theorem lZ (st:St) (a:Nat):(bJ st a).m=st.m/\(bJ st a).ls.length=st.ls.length/\(bJ st a).r=st.r/\(bJ st a).s<=st.s+1/\(bJ st a).row=st.row/\(bJ st a).fr.length=st.fr.length:=by
 unfold bJ;split<;>simp
theorem wB {a j:Nat} (h:j≠a):(bJ st a).fr[j]? =st.fr[j]? :=by
 unfold bJ;split
 . exact dK h
 . rfl
theorem nP {a b p:Nat} {x:List UInt8} {d:Bool} (hf:st.fr[a]? =some (some (b,x,d,p))):(bJ st a).fr[a]? =some (some (b,x,false,p)):=by
 unfold bJ;rw [hf];cases d with
 |true=>exact fJ hf
 |false=>exact hf
theorem fZ (h:Good st) {a:Nat} {t:St} (hr:fV st=some (a,t)):Good t/\t.fr[a]? =some none/\t.m=st.m/\t.ls.length=st.ls.length/\(∀(j:Nat) (g:Fr),t.fr[j]? =some (some g)->st.fr[j]? =some (some g))/\t.r=st.r/\t.s<=st.s+1:=by
 unfold fV at hr;split at hr
 . cases hr
 . rename_i i hi
   have hm:i∈st.row:=List.mem_of_getLast? hi;split at hr
   . rename_i f hf
     simp only [Option.some.injEq,Prod.mk.injEq] at hr;obtain ⟨rfl,rfl⟩:=hr;obtain ⟨b,x,d,p⟩:=f;have hc:=nP hf;obtain ⟨c1,c2,c3,c4,c5,c6⟩:=lZ st i;refine ⟨(h.clean i).empty hc,fJ hc,c1,c2,fun j g hj=>?_,c3,c4⟩;by_cases e:j=i
     . subst e
       have:(gF (bJ st j) j).fr[j]? =some none:=fJ hc;rw [this] at hj;cases hj
     . have:(gF (bJ st i) i).fr[j]? =(bJ st i).fr[j]? :=dK e
       rw [this,wB e] at hj;exact hj
   . rename_i hf
     simp only [Option.some.injEq,Prod.mk.injEq] at hr;obtain ⟨rfl,rfl⟩:=hr;refine ⟨h,?_,rfl,rfl,fun _ _ hj=>hj,rfl,Nat.le_succ _⟩;have hlt:=((h.rw i).1 hm).1;cases e:st.fr[i]? with
     |none=>rw [List.getElem?_eq_none_iff] at e;omega
     |some y=>
      cases y with
      |none=>rfl
      |some f=>exact absurd e (hf f)
theorem Good.pin (h:Good st) (b:Nat):Good (om st b).2:=by
 unfold om;split
 . rename_i hb
   split
   . rename_i j f hl
     obtain ⟨hf,he⟩:=aH hl;obtain ⟨k1,k2⟩:=h.blk _ _ hf;exact h.fill hf k1 k2 (by simp) (fun hd=>by have:=h.cl _ _ hf;exact this hd) (fun i g hi e=>h.uq i j g f hi hf e)
   . rename_i hl
     have hn:=bS hl;split
     . exact h
     . rename_i a t hr
       obtain ⟨g1,g2,g3,g4,g5,g6,g7⟩:=fZ h hr;have hbt:b<t.ls.length:=(by rw [g4];exact hb);have hx:t.ls[b]? =some (t.ls[b]):=List.getElem?_eq_getElem hbt;refine Good.fill g1.read g2 hbt ?_ (by simp) (fun _=>?_) (fun i g hi e=>absurd e (hn i g (g5 i g hi)))
       . show ((t.ls[b]?).getD []).length=t.m
         rw [hx];exact g1.lm _ (List.getElem_mem hbt)
       . show t.ls[b]? =some ((t.ls[b]?).getD [])
         rw [hx];rfl
 . exact h
theorem Good.fresh (h:Good st) (b:Nat):Good (eu st b).2:=by
 unfold eu;split
 . rename_i hb
   split
   . exact h
   . split
     . rename_i j f hl
       obtain ⟨hf,he⟩:=aH hl;exact h.fill hf hb (by simp) (by simp) (fun hd=>by cases hd) (fun i g hi e=>h.uq i j g f hi hf (e.trans he.symm))
     . rename_i hl
       have hn:=bS hl;split
       . exact h
       . rename_i a t hr
         obtain ⟨g1,g2,g3,g4,g5,g6,g7⟩:=fZ h hr;exact g1.fill g2 (by rw [g4];exact hb) (by simp [g3]) (by simp) (fun hd=>by cases hd) (fun i g hi e=>absurd e (hn i g (g5 i g hi)))
 . exact h
theorem Good.qW (h:Good st) (b:Nat):Good (dV st b).2:=by
 unfold dV;split
 . rename_i j f hl
   obtain ⟨hf,he⟩:=aH hl;obtain ⟨b',x,d,p⟩:=f;split
   . exact h
   . rename_i hp
     simp only at hp ⊢;by_cases hp1:p=1
     . subst hp1
       simp only [if_true]
       have hg:∀(i:Nat) (g:Fr),(st.fr.set j (some (b',x,d,1-1)))[i]? =some (some g)->(i=j/\g=(b',x,d,0))\/(i≠j/\st.fr[i]? =some (some g)):=fun i g hi=>by
        by_cases e:i=j
        . subst e
          rw [fJ hf] at hi;exact .inl ⟨rfl,by simpa using hi.symm⟩
        . rw [dK e] at hi
          exact .inr ⟨e,hi⟩
       refine ⟨by simpa using h.n1,by simpa using h.n2,og h.uq fun i g hi e=>h.uq i j g _ hi hf e,fun i g hi=>?_,fun i g hi hd=>?_,fun i=>?_,?_,?_,h.lm,h.l32⟩
       . rcases hg i g hi with ⟨rfl,rfl⟩|⟨_,hi⟩
         . have:=h.blk _ _ hf
           exact this
         . exact h.blk i g hi
       . rcases hg i g hi with ⟨rfl,rfl⟩|⟨_,hi⟩
         . have:=h.cl _ _ hf
           exact this hd
         . exact h.cl i g hi hd
       . show i∈j::del st.row j↔i<(st.fr.set j _).length/\_
         rw [List.mem_cons,iL,h.rw i,List.length_set];refine ⟨fun hh=>?_,fun ⟨hi,hh⟩=>?_⟩
         . rcases hh with rfl|⟨⟨hi,hh⟩,hne⟩
           . refine ⟨aU hf,fun g hg'=>?_⟩
             rcases hg i g hg' with ⟨_,rfl⟩|⟨e,_⟩
             . rfl
             . exact absurd rfl e
           . refine ⟨hi,fun g hg'=>?_⟩
             rcases hg i g hg' with ⟨e,_⟩|⟨_,hi'⟩
             . exact absurd e hne
             . exact hh g hi'
         . by_cases e:i=j
           . exact .inl e
           . exact .inr ⟨⟨hi,fun g hg'=>hh g (by rw [dK e];exact hg')⟩,e⟩
       . exact List.nodup_cons.2 ⟨gT _ _,BN h.nd j⟩
       . obtain ⟨y,z,e,hy,hz⟩:=h.sp
         refine ⟨j::del y j,del z j,by rw [e,wz];rfl,fun i hi=>?_,fun i hi=>?_⟩
         . rcases List.mem_cons.1 hi with rfl|hi
           . exact ⟨_,fJ hf⟩
           . obtain ⟨hi,hne⟩:=iL.1 hi
             obtain ⟨g,hg'⟩:=hy i hi;exact ⟨g,by rw [dK hne];exact hg'⟩
         . obtain ⟨hi,hne⟩:=iL.1 hi
           show (st.fr.set j _)[i]? =_;rw [dK hne];exact hz i hi
     . simp only [if_neg hp1]
       exact h.alter (f':=(b',x,d,p-1)) hf rfl (h.blk _ _ hf).2 (by simp;omega) rfl h.lm (fun hd=>by have:=h.cl _ _ hf;exact this hd) (fun i g _ hi hd=>h.cl i g hi hd) _ _
 . exact h
theorem Good.write (h:Good st) (b:Nat) (y:List UInt8):Good (dW st b y).2:=by
 unfold dW;split
 . rename_i j f hl
   obtain ⟨hf,he⟩:=aH hl;split
   . exact h
   . split
     . rename_i hy
       exact h.alter (f':=(f.1,y,true,f.2.2.2)) hf rfl (hy.trans (h.blk _ _ hf).2) Iff.rfl rfl h.lm (fun hd=>by cases hd) (fun i g _ hi hd=>h.cl i g hi hd) _ _
     . exact h
 . exact h
theorem Good.drop (h:Good st) (b:Nat):Good (iR st b).2:=by
 unfold iR;split
 . exact h
 . split
   . rename_i j f hl
     exact h.empty (aH hl).1
   . exact h
theorem Good.bq (h:Good st) (b:Nat):Good (bq st b):=by
 unfold Ca.bq;split
 . exact h.clean _
 . exact h
theorem Good.cleans (l:List Nat):∀{st:St},Good st->Good (l.foldl Ca.bq st):=by
 induction l with
 |nil=>exact fun h=>h
 |cons x r ih=>exact fun h=>ih (h.bq x)
theorem Good.flush (h:Good st):Good (eZ st):=Good.cleans _ h
end
end Ca
end Go.Proofs.YtjpjjnalpdpljaaGreatDoor
namespace Go.Proofs.YtjpjjnalpdpljaaGreatDoor
namespace Ca
open Cn (del gT)
structure Sm (st:St) (K:Nat):Prop where
 r:st.r<=K
 s:st.s<=K
 p:∀(j:Nat) (f:Fr),st.fr[j]? =some (some f)->f.2.2.2<=K
theorem Sm.mono {st:St} {K K':Nat} (h:Sm st K) (hK:K<=K'):Sm st K':=⟨Nat.le_trans h.r hK,Nat.le_trans h.s hK,fun j f hf=>Nat.le_trans (h.p j f hf) hK⟩
theorem uf (st:St) {a:Nat} {t:St} (hr:fV st=some (a,t)):t.r=st.r/\st.s<=t.s/\t.s<=st.s+1/\t.fr.length=st.fr.length/\t.ls.length=st.ls.length/\t.m=st.m:=by
 unfold fV at hr;split at hr
 . cases hr
 . split at hr
   . simp only [Option.some.injEq,Prod.mk.injEq] at hr
     obtain ⟨rfl,rfl⟩:=hr;obtain ⟨c1,c2,c3,c4,c5,c6⟩:=lZ st ‹_›;refine ⟨c3,?_,c4,by simpa [gF] using c6,c2,c1⟩;show st.s<=(bJ st _).s;unfold bJ;split<;>simp
   . simp only [Option.some.injEq,Prod.mk.injEq] at hr
     obtain ⟨rfl,rfl⟩:=hr;exact ⟨rfl,Nat.le_refl _,Nat.le_succ _,rfl,rfl,rfl⟩
structure iB (st t:St) (R S:Nat):Prop where
 r1:st.r<=t.r
 r2:t.r<=st.r+R
 s1:st.s<=t.s
 s2:t.s<=st.s+S
 fl:t.fr.length=st.fr.length
 ll:t.ls.length=st.ls.length
 m:t.m=st.m
section
variable {st t:St}
theorem iB.refl (st:St) (R S:Nat):iB st st R S:=⟨Nat.le_refl _,Nat.le_add_right _ _,Nat.le_refl _,Nat.le_add_right _ _,rfl,rfl,rfl⟩
theorem FV (st:St) (b:Nat):iB st (om st b).2 1 1:=by
 unfold om;split
 . split
   . exact ⟨Nat.le_refl _,Nat.le_succ _,Nat.le_refl _,Nat.le_succ _,by simp [gB],rfl,rfl⟩
   . split
     . exact iB.refl _ _ _
     . rename_i a t hr
       obtain ⟨c1,c2,c3,c4,c5,c6⟩:=uf st hr;exact ⟨by show st.r<=t.r+1;omega,by show t.r+1<=st.r+1;omega,c2,c3,by simpa [gB,tZ] using c4,c5,c6⟩
 . exact iB.refl _ _ _
theorem zT (st:St) (b:Nat):iB st (eu st b).2 0 1:=by
 unfold eu;split
 . split
   . exact iB.refl _ _ _
   . split
     . exact ⟨Nat.le_refl _,Nat.le_refl _,Nat.le_refl _,Nat.le_succ _,by simp [gB],rfl,rfl⟩
     . split
       . exact iB.refl _ _ _
       . rename_i a t hr
         obtain ⟨c1,c2,c3,c4,c5,c6⟩:=uf st hr;exact ⟨by show st.r<=t.r;omega,by show t.r<=st.r;omega,c2,c3,by simpa [gB] using c4,c5,c6⟩
 . exact iB.refl _ _ _
theorem zU (st:St) (b:Nat):iB st (dV st b).2 0 0:=by
 unfold dV;split
 . split
   . exact iB.refl _ _ _
   . exact ⟨Nat.le_refl _,Nat.le_refl _,Nat.le_refl _,Nat.le_refl _,by simp,rfl,rfl⟩
 . exact iB.refl _ _ _
theorem zV (st:St) (b:Nat) (y:List UInt8):iB st (dW st b y).2 0 0:=by
 unfold dW;split
 . split
   . exact iB.refl _ _ _
   . split
     . exact ⟨Nat.le_refl _,Nat.le_refl _,Nat.le_refl _,Nat.le_refl _,by simp,rfl,rfl⟩
     . exact iB.refl _ _ _
 . exact iB.refl _ _ _
theorem BO (st:St) (b:Nat):iB st (iR st b).2 0 0:=by
 unfold iR;split
 . exact iB.refl _ _ _
 . split
   . exact ⟨Nat.le_refl _,Nat.le_refl _,Nat.le_refl _,Nat.le_refl _,by simp [gF],rfl,rfl⟩
   . exact iB.refl _ _ _
theorem iB.trans {u:St} {R S R' S':Nat} (h:iB st t R S) (k:iB t u R' S'):iB st u (R+R') (S+S'):=by
 obtain ⟨a1,a2,a3,a4,a5,a6,a7⟩:=h;obtain ⟨b1,b2,b3,b4,b5,b6,b7⟩:=k;exact ⟨by omega,by omega,by omega,by omega,b5.trans a5,b6.trans a6,b7.trans a7⟩
theorem wC (st:St) (b:Nat):iB st (bq st b) 0 1:=by
 unfold bq;split
 . unfold bJ
   split
   . exact ⟨Nat.le_refl _,Nat.le_refl _,Nat.le_succ _,Nat.le_refl _,by simp,by simp,rfl⟩
   . exact iB.refl _ _ _
 . exact iB.refl _ _ _
theorem wD (l:List Nat):∀(st:St),iB st (l.foldl bq st) 0 l.length:=by
 induction l with
 |nil=>exact fun st=>iB.refl _ _ _
 |cons x r ih=>
  intro st;have:=(wC st x).trans (ih (bq st x));rw [Nat.add_comm 1] at this;exact this
theorem Jv:∀{l l':List Nat},l.Nodup->(∀x,x∈l->x∈l')->l.length<=l'.length:=by
 intro l
 induction l with
 |nil=>intro l' _ _;exact Nat.zero_le _
 |cons x r ih=>
  intro l' hn hs;obtain ⟨a,b,rfl⟩:=List.append_of_mem (hs x (by simp));rw [List.nodup_cons] at hn
  have:=ih (l':=a++b) hn.2 fun y hy=>by
   have h1:=hs y (List.mem_cons_of_mem _ hy);have h2:y≠x:=(by rintro rfl;exact hn.1 hy);simp only [List.mem_append,List.mem_cons] at h1 ⊢;rcases h1 with h1|h1|h1
   . exact .inl h1
   . exact absurd h1 h2
   . exact .inr h1
  simp at this ⊢;omega
theorem oo (st:St):(dh st).length<=occ st.fr:=by
 have:(dh st).length<=((st.fr.filterMap id).map (·.1)).length:=Jv (List.nodup_range.filter _) fun x hx=>by
  unfold dh dX at hx;rw [List.mem_filter] at hx;cases e:look st.fr x with
  |none=>rw [e] at hx;exact absurd hx.2 (by simp)
  |some y=>
   obtain ⟨hf,hb⟩:=aH (j:=y.1) (f:=y.2) e;rw [List.mem_map];exact ⟨y.2,by rw [List.mem_filterMap];exact ⟨some y.2,List.mem_of_getElem? hf,rfl⟩,hb⟩
 simpa [occ] using this
theorem qw (st:St):iB st (eZ st) 0 (dh st).length:=wD _ st
theorem Sm.set {K K':Nat} (h:Sm st K) {a:Nat} {x:Option Fr} (hK:K<=K') (hx:∀f:Fr,x=some f->f.2.2.2<=K') (r s:Nat) (hr:r<=K') (hs:s<=K') (ls:List (List UInt8)) (row:List Nat):Sm { st with ls:=ls,r:=r,s:=s,fr:=st.fr.set a x,row:=row } K':=by
 refine ⟨hr,hs,fun j f hf=>?_⟩;have hf':(st.fr.set a x)[j]? =some (some f):=hf;rw [List.getElem?_set] at hf';split at hf'
 . split at hf'
   . exact hx f (by simpa using hf')
   . cases hf'
 . exact Nat.le_trans (h.p j f hf') hK
theorem Sm.clean {K:Nat} (h:Sm st K) (a:Nat):Sm (bJ st a) (K+1):=by
 unfold bJ;split
 . rename_i b x p hf
   have hp:p<=K:=h.p _ _ hf
   exact h.set (Nat.le_succ _) (fun f e=>by
    obtain rfl:(b,x,false,p)=f:=by simpa using e
    exact Nat.le_trans hp (Nat.le_succ K)) _ _ (Nat.le_trans h.r (Nat.le_succ _)) (Nat.succ_le_succ h.s) _ _
 . exact h.mono (Nat.le_succ _)
theorem Sm.room {K a:Nat} (h:Sm st K) (hr:fV st=some (a,t)):Sm t (K+1):=by
 unfold fV at hr;split at hr
 . cases hr
 . rename_i i hi
   split at hr
   . simp only [Option.some.injEq,Prod.mk.injEq] at hr
     obtain ⟨rfl,rfl⟩:=hr;have hc:=h.clean i;exact hc.set (a:=i) (x:=none) (Nat.le_refl _) (fun f e=>by cases e) _ _ hc.r hc.s _ _
   . simp only [Option.some.injEq,Prod.mk.injEq] at hr
     obtain ⟨rfl,rfl⟩:=hr;exact h.mono (Nat.le_succ _)
theorem Sm.pin {K:Nat} (h:Sm st K) (b:Nat):Sm (om st b).2 (K+2):=by
 unfold om;split
 . split
   . rename_i j f hl
     have hp:=h.p j f (aH hl).1
     exact h.set (by omega) (fun g e=>by
      obtain rfl:(f.1,f.2.1,f.2.2.1,f.2.2.2+1)=g:=(by simpa using e);show f.2.2.2+1<=K+2
      omega) _ _ (Nat.le_trans h.r (by omega)) (Nat.le_trans h.s (by omega)) _ _
   . split
     . exact h.mono (by omega)
     . rename_i a t hr
       have hc:=h.room hr
       exact hc.set (a:=a) (by omega) (fun g e=>by
        obtain rfl:(b,(t.ls[b]?).getD [],false,1)=g:=(by simpa using e);show 1<=K+2
        omega) _ _ (by have:=hc.r;show t.r+1<=K+2;omega) (by have:=hc.s;show t.s<=K+2;omega) _ _
 . exact h.mono (by omega)
theorem Sm.fresh {K:Nat} (h:Sm st K) (b:Nat):Sm (eu st b).2 (K+2):=by
 unfold eu;split
 . split
   . exact h.mono (by omega)
   . split
     . rename_i j f hl
       exact h.set (by omega) (fun g e=>by
        obtain rfl:(b,List.replicate st.m 0,true,1)=g:=(by simpa using e);show 1<=K+2
        omega) _ _ (Nat.le_trans h.r (by omega)) (Nat.le_trans h.s (by omega)) _ _
     . split
       . exact h.mono (by omega)
       . rename_i a t hr
         have hc:=h.room hr
         exact hc.set (a:=a) (by omega) (fun g e=>by
          obtain rfl:(b,List.replicate st.m 0,true,1)=g:=(by simpa using e);show 1<=K+2
          omega) _ _ (by have:=hc.r;omega) (by have:=hc.s;omega) _ _
 . exact h.mono (by omega)
theorem Sm.qW {K:Nat} (h:Sm st K) (b:Nat):Sm (dV st b).2 K:=by
 unfold dV;split
 . rename_i j f hl
   have hp:=h.p j f (aH hl).1;split
   . exact h
   . exact h.set (Nat.le_refl _) (fun g e=>by
      obtain rfl:(f.1,f.2.1,f.2.2.1,f.2.2.2-1)=g:=(by simpa using e);show f.2.2.2-1<=K
      omega) _ _ h.r h.s _ _
 . exact h
theorem Sm.write {K:Nat} (h:Sm st K) (b:Nat) (y:List UInt8):Sm (dW st b y).2 K:=by
 unfold dW;split
 . rename_i j f hl
   have hp:=h.p j f (aH hl).1;split
   . exact h
   . split
     . exact h.set (Nat.le_refl _) (fun g e=>by
        obtain rfl:(f.1,y,true,f.2.2.2)=g:=by simpa using e
        exact hp) _ _ h.r h.s _ _
     . exact h
 . exact h
theorem Sm.drop {K:Nat} (h:Sm st K) (b:Nat):Sm (iR st b).2 K:=by
 unfold iR;split
 . exact h
 . split
   . exact h.set (x:=none) (Nat.le_refl _) (fun g e=>by cases e) _ _ h.r h.s _ _
   . exact h
theorem Sm.cleans (l:List Nat):∀{st:St} {K:Nat},Sm st K->Sm (l.foldl bq st) (K+l.length):=by
 induction l with
 |nil=>exact fun h=>h
 |cons x r ih=>
  intro st K h
  have h1:Sm (bq st x) (K+1):=by
   unfold bq;split
   . exact h.clean _
   . exact h.mono (Nat.le_succ _)
  have:=ih h1;simp only [List.foldl_cons,List.length_cons];exact this.mono (by omega)
theorem Sm.flush {K:Nat} (h:Sm st K):Sm (eZ st) (K+(dh st).length):=Sm.cleans _ h
end
def stepT (st:St) (k:Int) (b:Nat) (y:List UInt8):Int × St:=
 if k=0\/k=1 then om st b else if k=2 then eu st b else if k=3\/k=4 then dV st b else if k=5\/k=6 then dW st b y
 else if k=7 then iR st b else if k=8 then (0,eZ st) else if k=9 then ((OB st b).2,st) else (0,st)
theorem Sm.step {st:St} {K:Nat} (h:Sm st K) (hl:st.ls.length<=12) (k:Int) (b:Nat) (y:List UInt8):Sm (stepT st k b y).2 (K+12):=by
 unfold stepT;split
 . exact (h.pin b).mono (by omega)
 split
 . exact (h.fresh b).mono (by omega)
 split
 . exact (h.qW b).mono (by omega)
 split
 . exact (h.write b y).mono (by omega)
 split
 . exact (h.drop b).mono (by omega)
 split
 . have:(dh st).length<=(List.range st.ls.length).length:=List.length_filter_le _ _
   rw [List.length_range] at this;exact h.flush.mono (by omega)
 split
 . exact h.mono (by omega)
 . exact h.mono (by omega)
theorem Good.step {st:St} (h:Good st) (k:Int) (b:Nat) (y:List UInt8):Good (stepT st k b y).2:=by
 unfold stepT;split
 . exact h.pin b
 split
 . exact h.fresh b
 split
 . exact h.qW b
 split
 . exact h.write b y
 split
 . exact h.drop b
 split
 . exact h.flush
 split
 . exact h
 . exact h
end Ca
end Go.Proofs.YtjpjjnalpdpljaaGreatDoor
namespace Go.Proofs.YtjpjjnalpdpljaaGreatDoor
namespace Ca
open Cn (del gT)
theorem kP {fr:List (Option Fr)} (hU:Uq fr) {a:Nat} {f:Fr} (ha:a<fr.length) (ho:∀(j:Nat) (g:Fr),fr[j]? =some (some g)->g.1=f.1->j=a) (hn:∀g:Fr,fr[a]? =some (some g)->g.1=f.1) (x:Nat):
 look (fr.set a (some f)) x=if x=f.1 then some (a,f) else look fr x:=by
 by_cases hx:x=f.1
 . subst hx
   rw [if_pos rfl];exact gU (og hU ho) (by rw [fA,if_pos rfl,if_pos ha])
 . rw [if_neg hx]
   cases h:look fr x with
   |none=>
    refine dJ fun j g hj=>?_;rw [fA] at hj;by_cases h1:a=j
    . subst h1
      rw [if_pos rfl,if_pos ha] at hj;obtain rfl:f=g:=(by simpa using hj);exact fun e=>hx e.symm
    . rw [if_neg h1] at hj
      exact bS h j g hj
   |some y=>
    obtain ⟨j,g⟩:=y;obtain ⟨hg,rfl⟩:=aH h;refine gU (og hU ho) ?_;rw [fA];by_cases h1:a=j
    . subst h1;exact absurd (hn g hg) hx
    . rw [if_neg h1];exact hg
theorem l5 {fr:List (Option Fr)} (hU:Uq fr) {a:Nat} {f:Fr} (hf:fr[a]? =some (some f)) (x:Nat):look (fr.set a none) x=if x=f.1 then none else look fr x:=by
 by_cases hx:x=f.1
 . subst hx
   rw [if_pos rfl];refine dJ fun j g hj e=>?_;rw [fA] at hj;by_cases h1:a=j
   . rw [if_pos h1] at hj;split at hj<;>cases hj
   . rw [if_neg h1] at hj
     exact h1 (hU a j f g hf hj e.symm)
 . rw [if_neg hx]
   cases h:look fr x with
   |none=>
    refine dJ fun j g hj=>?_;rw [fA] at hj;by_cases h1:a=j
    . rw [if_pos h1] at hj;split at hj<;>cases hj
    . rw [if_neg h1] at hj
      exact bS h j g hj
   |some y=>
    obtain ⟨j,g⟩:=y;obtain ⟨hg,rfl⟩:=aH h;refine gU (qU hU a) ?_;rw [fA];by_cases h1:a=j
    . subst h1
      rw [hf] at hg;obtain rfl:f=g:=(by simpa using hg);exact absurd rfl hx
    . rw [if_neg h1];exact hg
theorem dM {fr:List (Option Fr)} (hU:Uq fr) {a:Nat} {f f':Fr} (hf:fr[a]? =some (some f)) (h1:f'.1=f.1) (x:Nat):look (fr.set a (some f')) x=if x=f.1 then some (a,f') else look fr x:=by
 rw [kP hU (aU hf) (fun j g hj e=>hU j a g f hj hf (e.trans h1)) (fun g hg=>by rw [hf] at hg;cases hg;exact h1.symm),h1]
def cur (st:St) (i:Nat):List UInt8:=match look st.fr i with
 |some (_,f)=>f.2.1
 |none=>(st.ls[i]?).getD []
section
variable {st t:St}
theorem qX {i j:Nat} {f:Fr} (h:look st.fr i=some (j,f)):cur st i=f.2.1:=by unfold cur;rw [h]
theorem qY {i:Nat} (h:look st.fr i=none):cur st i=(st.ls[i]?).getD []:=by unfold cur;rw [h]
theorem ug (h:Good st) (a i:Nat):cur (bJ st a) i=cur st i:=by
 unfold bJ;split
 . rename_i b x p hf
   have hl:=dM (f':=(b,x,false,p)) h.uq hf rfl i;unfold cur;simp only [hl];by_cases e:i=b
   . subst e
     rw [if_pos rfl,gU h.uq hf]
   . rw [if_neg e]
     cases look st.fr i with
     |none=>simp only;rw [List.getElem?_set,if_neg (fun e'=>e e'.symm)]
     |some y=>rfl
 . rfl
theorem BP (h:Good st) {a:Nat} {f:Fr} (hf:st.fr[a]? =some (some f)) (hd:f.2.2.1=false) (i:Nat):cur (gF st a) i=cur st i:=by
 have hl:=l5 h.uq hf i;unfold gF cur;simp only [hl];by_cases e:i=f.1
 . subst e
   rw [if_pos rfl,gU h.uq hf];simp only;rw [h.cl _ _ hf hd];rfl
 . rw [if_neg e]
theorem yC (h:Good st) {a:Nat} (hr:fV st=some (a,t)) (i:Nat):cur t i=cur st i:=by
 unfold fV at hr;split at hr
 . cases hr
 . split at hr
   . rename_i f hf
     simp only [Option.some.injEq,Prod.mk.injEq] at hr;obtain ⟨rfl,rfl⟩:=hr;obtain ⟨b,x,d,p⟩:=f;rw [BP (h.clean _) (nP hf) rfl,ug h]
   . simp only [Option.some.injEq,Prod.mk.injEq] at hr
     obtain ⟨rfl,rfl⟩:=hr;rfl
theorem Jw (h:Good st) (b i:Nat):cur (om st b).2 i=cur st i:=by
 unfold om;split
 . rename_i hb
   split
   . rename_i j f hl
     obtain ⟨hf,rfl⟩:=aH hl;have:=dM (f':=(f.1,f.2.1,f.2.2.1,f.2.2.2+1)) h.uq hf rfl i;unfold gB cur;simp only [this];by_cases e:i=f.1
     . subst e
       rw [if_pos rfl,hl]
     . rw [if_neg e]
   . rename_i hl
     split
     . rfl
     . rename_i a t hr
       obtain ⟨g1,g2,g3,g4,g5,g6,g7⟩:=fZ h hr;have hn:=bS hl;have hlt:look t.fr b=none:=dJ fun j g hj=>hn j g (g5 j g hj);have:=kP (f:=(b,(t.ls[b]?).getD [],false,1)) g1.uq (aU g2) (fun j g hj e=>absurd e (hn j g (g5 j g hj))) (fun g hg=>by rw [g2] at hg;cases hg) i;rw [<-yC h hr i];show cur (gB (tZ t) a (b,(t.ls[b]?).getD [],false,1)) i=_;unfold gB tZ cur;simp only [this];by_cases e:i=b
       . subst e
         rw [if_pos rfl,hlt]
       . rw [if_neg e]
 . rfl
theorem BQ (h:Good st) (b i:Nat):cur (eu st b).2 i=if (eu st b).1=0/\i=b then List.replicate st.m 0 else cur st i:=by
 unfold eu;split
 . rename_i hb
   split
   . simp
   . split
     . rename_i j f hl
       obtain ⟨hf,rfl⟩:=aH hl;have:=dM (f':=(f.1,List.replicate st.m 0,true,1)) h.uq hf rfl i;unfold gB;simp only [true_and];unfold cur;simp only [this];by_cases e:i=f.1
       . subst e
         rw [if_pos rfl,if_pos rfl]
       . rw [if_neg e,if_neg e]
     . rename_i hl
       split
       . simp
       . rename_i a t hr
         obtain ⟨g1,g2,g3,g4,g5,g6,g7⟩:=fZ h hr;have hn:=bS hl;have:=kP (f:=(b,List.replicate st.m 0,true,1)) g1.uq (aU g2) (fun j g hj e=>absurd e (hn j g (g5 j g hj))) (fun g hg=>by rw [g2] at hg;cases hg) i;rw [<-yC h hr i];unfold gB;simp only [true_and];unfold cur;simp only [this];by_cases e:i=b
         . subst e
           rw [if_pos rfl,if_pos rfl]
         . rw [if_neg e,if_neg e]
 . simp
theorem BR (h:Good st) (b i:Nat):cur (dV st b).2 i=cur st i:=by
 unfold dV;split
 . rename_i j f hl
   obtain ⟨hf,rfl⟩:=aH hl;split
   . rfl
   . have:=dM (f':=(f.1,f.2.1,f.2.2.1,f.2.2.2-1)) h.uq hf rfl i
     unfold cur;simp only [this];by_cases e:i=f.1
     . subst e
       rw [if_pos rfl,hl]
     . rw [if_neg e]
 . rfl
theorem BS (h:Good st) (b:Nat) (y:List UInt8) (i:Nat):cur (dW st b y).2 i=if (dW st b y).1=0/\i=b then y else cur st i:=by
 unfold dW;split
 . rename_i j f hl
   obtain ⟨hf,rfl⟩:=aH hl;split
   . simp
   . split
     . have:=dM (f':=(f.1,y,true,f.2.2.2)) h.uq hf rfl i
       simp only [true_and];unfold cur;simp only [this];by_cases e:i=f.1
       . subst e
         rw [if_pos rfl,if_pos rfl]
       . rw [if_neg e,if_neg e]
     . simp
 . simp
theorem zW (h:Good st) (b i:Nat):cur (bq st b) i=cur st i:=by
 unfold bq;split
 . exact ug h _ _
 . rfl
theorem uh (h:Good st) (b i:Nat):dX (bq st b) i=(dX st i&& !decide (i=b)):=by
 unfold bq;cases hl:look st.fr b with
 |none=>
  simp only;unfold dX;by_cases e:i=b
  . subst e;rw [hl];rfl
  . simp [e]
 |some y=>
  obtain ⟨a,f⟩:=y;obtain ⟨hf,rfl⟩:=aH hl;obtain ⟨b,x,d,p⟩:=f;simp only;unfold bJ;rw [hf];cases d with
  |true=>
   simp only;have:=dM (f':=(b,x,false,p)) h.uq hf rfl i;unfold dX;simp only [this];by_cases e:i=b
   . subst e;simp
   . simp [e]
  |false=>
   simp only;by_cases e:i=b
   . subst e
     unfold dX;rw [hl];rfl
   . simp [e]
theorem zX (l:List Nat):∀{st:St},Good st->(∀i,cur (l.foldl bq st) i=cur st i)/\∀i,dX (l.foldl bq st) i=(dX st i&& !decide (i∈l)):=by
 induction l with
 |nil=>intro st _;simp
 |cons x r ih=>
  intro st h;obtain ⟨h1,h2⟩:=ih (h.bq x);refine ⟨fun i=>(h1 i).trans (zW h x i),fun i=>?_⟩;rw [List.foldl_cons,h2 i,uh h x i];simp only [List.mem_cons,Bool.decide_or,Bool.not_or,Bool.and_assoc]
theorem FW (h:Good st) {i:Nat} (hd:dX st i=true):i<st.ls.length:=by
 unfold dX at hd;cases hl:look st.fr i with
 |none=>rw [hl] at hd;cases hd
 |some y=>
  obtain ⟨hf,hb⟩:=aH (j:=y.1) (f:=y.2) hl;rw [<-hb];exact (h.blk _ _ hf).1
theorem BU (h:Good st):(∀i,cur (eZ st) i=cur st i)/\dh (eZ st)=[]/\(eZ st).ls=(List.range st.ls.length).map (cur st):=by
 obtain ⟨h1,h2⟩:=zX (dh st) h
 have hnd:∀i,dX (eZ st) i=false:=fun i=>by
  have:=h2 i;unfold eZ;rw [this];cases hd:dX st i with
  |false=>rfl
  |true=>
   have hm:i∈dh st:=by
    unfold dh;rw [List.mem_filter,List.mem_range];exact ⟨FW h hd,hd⟩
   simp [hm]
 have hc:∀i,cur (eZ st) i=cur st i:=h1
 have hlen:(eZ st).ls.length=st.ls.length:=(qw st).ll;refine ⟨hc,?_,?_⟩
 . unfold dh
   rw [List.filter_eq_nil_iff];intro i _;rw [hnd i];simp
 . apply List.ext_getElem?
   intro i;by_cases hi:i<st.ls.length
   . rw [List.getElem?_map,List.getElem?_range hi]
     simp only [Option.map_some];rw [<-hc i];have hi':i<(eZ st).ls.length:=(by rw [hlen];exact hi);have hgd:=h.flush;cases hl:look (eZ st).fr i with
     |none=>
      rw [qY hl,List.getElem?_eq_getElem hi'];rfl
     |some y=>
      obtain ⟨j,f⟩:=y;obtain ⟨hf,hb⟩:=aH hl;rw [qX hl]
      have hdf:f.2.2.1=false:=by
       have:=hnd i;unfold dX at this;rw [hl] at this;exact this
      have:=hgd.cl _ _ hf hdf;rw [hb] at this;exact this
   . rw [List.getElem?_eq_none (by rw [hlen];omega),List.getElem?_eq_none (by simp;omega)]
end
end Ca
end Go.Proofs.YtjpjjnalpdpljaaGreatDoor
