import Derived.ProofKit
namespace Go.Proofs.YtjpjjnalpdpljaaGreatDoor
namespace Cn
def upd (f:Nat->Nat) (k v:Nat):Nat->Nat:=fun x=>if x=k then v else f x
theorem upd_same (f:Nat->Nat) (k v:Nat):upd f k v k=v:=by simp [upd]
theorem upd_other (f:Nat->Nat) {k x:Nat} (v:Nat) (h:x≠k):upd f k v x=f x:=by simp [upd,h]
def lst:Nat->List Nat->Nat
 |x,[]=>x
 |_,y::r=>lst y r
def hd:List Nat->Nat->Nat
 |[],z=>z
 |y::_,_=>y
def Lk (A B:Nat->Nat):Nat->List Nat->Nat->Prop
 |x,[],z=>B x=z/\A z=x
 |x,y::r,z=>B x=y/\A y=x/\Lk A B y r z
def Pre (A B:Nat->Nat):Nat->List Nat->Prop
 |_,[]=>True
 |x,y::r=>B x=y/\A y=x/\Pre A B y r
def Tail (A B:Nat->Nat):List Nat->Nat->Prop
 |[],_=>True
 |y::r,z=>Lk A B y r z
theorem lst_mem:∀(x:Nat) (l:List Nat),lst x l∈x::l
 |x,[]=>by simp [lst]
 |x,y::r=>by
  have:=lst_mem y r
  simp only [lst]
  exact List.mem_cons_of_mem _ this
theorem hd_mem:∀(l:List Nat) (z:Nat),hd l z=z\/hd l z∈l
 |[],z=> .inl rfl
 |y::r,z=> .inr (by simp [hd])
theorem lk_split {A B:Nat->Nat}:∀{x:Nat} {l1 l2:List Nat} {z:Nat},Lk A B x (l1++l2) z↔Pre A B x l1/\B (lst x l1)=hd l2 z/\A (hd l2 z)=lst x l1/\Tail A B l2 z
 |x,[],[],z=>by simp [Lk,Pre,lst,hd,Tail]
 |x,[],y::r,z=>by simp [Lk,Pre,lst,hd,Tail]
 |x,u::l1,l2,z=>by
  have:= @lk_split A B u l1 l2 z
  simp only [List.cons_append,Lk,Pre,lst,this,and_assoc]
theorem tail_cons {A B:Nat->Nat} {i z:Nat} {l:List Nat}:Tail A B (i::l) z↔B i=hd l z/\A (hd l z)=i/\Tail A B l z:=by
 have:= @lk_split A B i [] l z
 simpa [Pre,lst,Tail] using this
theorem pre_congr {A B A' B':Nat->Nat}:∀{x:Nat} {l:List Nat},(x::l).Nodup->(∀y∈x::l,y≠lst x l->B' y=B y)->(∀y∈l,A' y=A y)->Pre A B x l->Pre A' B' x l
 |x,[],_,_,_,_=>trivial
 |x,y::r,hn,hB,hA,⟨h1,h2,h3⟩=>by
  have hx:x≠lst y r:=by
   have h:=lst_mem y r
   rw [List.nodup_cons] at hn
   rintro rfl
   exact hn.1 h
  refine ⟨by rw [hB x (by simp) hx,h1],by rw [hA y (by simp),h2],pre_congr (List.nodup_cons.1 hn).2 (fun u hu hne=>hB u (List.mem_cons_of_mem _ hu) hne) (fun u hu=>hA u (List.mem_cons_of_mem _ hu)) h3⟩
theorem lk_congr {A B A' B':Nat->Nat}:∀{x:Nat} {l:List Nat} {z:Nat},(∀y∈x::l,B' y=B y)->(∀y∈l,A' y=A y)->A' z=A z->Lk A B x l z->Lk A' B' x l z
 |x,[],z,hB,_,hz,⟨h1,h2⟩=>⟨by rw [hB x (by simp),h1],by rw [hz,h2]⟩
 |x,y::r,z,hB,hA,hz,⟨h1,h2,h3⟩=>⟨by rw [hB x (by simp),h1],by rw [hA y (by simp),h2],lk_congr (fun u hu=>hB u (List.mem_cons_of_mem _ hu)) (fun u hu=>hA u (List.mem_cons_of_mem _ hu)) hz h3⟩
theorem tail_congr {A B A' B':Nat->Nat} {l:List Nat} {z:Nat} (hd':(l++[z]).Nodup) (hB:∀y∈l,B' y=B y) (hA:∀y,y∈l\/y=z->y≠hd l z->A' y=A y) (h:Tail A B l z):Tail A' B' l z:=by
 cases l with
 |nil=>trivial
 |cons y r=>
  have hn:=hd'
  simp only [List.cons_append,List.nodup_cons,List.mem_append,List.mem_singleton,not_or] at hn
  refine lk_congr (A:=A) (B:=B) hB (fun u hu=>hA u (.inl (List.mem_cons_of_mem _ hu)) ?_) (hA z (.inr rfl) ?_) h
  . rintro rfl;exact hn.1.1 hu
  . rintro rfl;exact hn.1.2 rfl
structure Ring (n:Nat) (A B:Nat->Nat) (l:List Nat):Prop where
 lt:∀x∈l,x<n
 nd:l.Nodup
 lk:Lk A B n l n
 out:∀x,x<n->x∉l->B x=x
section
variable {n:Nat} {A B:Nat->Nat} {l l1 l2:List Nat} {i:Nat}
theorem Ring.notin (h:Ring n A B l):n∉l:=fun hn=>Nat.lt_irrefl _ (h.lt n hn)
theorem Ring.next (h:Ring n A B (l1++i::l2)):B i=hd l2 n/\A (hd l2 n)=i/\A i=lst n l1/\B (lst n l1)=i:=by
 obtain ⟨_,h1,h2,h3⟩:=lk_split.1 h.lk
 obtain ⟨h4,h5,_⟩:=tail_cons.1 h3
 exact ⟨h4,h5,h2,h1⟩
theorem Ring.ends (h:Ring n A B l):B n=hd l n/\A n=lst n l:=by
 have h1:=lk_split (l1:=[]).1 h.lk
 have h2:=(lk_split (l1:=l) (l2:=[])).1 (by simpa using h.lk)
 exact ⟨h1.2.1,h2.2.2.1⟩
theorem hd_lt (h:∀x∈l,x<n):hd l n<=n:=by
 rcases hd_mem l n with h1|h1
 . omega
 . have:=h _ h1;omega
theorem lst_lt (h:∀x∈l,x<n):lst n l<=n:=by
 have h1:=lst_mem n l
 rcases List.mem_cons.1 h1 with h1|h1
 . omega
 . have:=h _ h1;omega
theorem Ring.has (h:Ring n A B l) (hi:i<n):(B i≠i)=(i∈l):=by
 by_cases hm:i∈l
 . refine propext ⟨fun _=>hm,fun _=>?_⟩
   obtain ⟨l1,l2,rfl⟩:=List.append_of_mem hm
   rw [h.next.1]
   have hn:=h.nd
   simp only [List.nodup_append,List.nodup_cons] at hn
   rcases hd_mem l2 n with h1|h1
   . omega
   . rintro h2
     rw [h2] at h1
     exact hn.2.1.1 h1
 . exact propext ⟨fun hh=>absurd (h.out i hi hm) hh,fun hh=>absurd hh hm⟩
theorem split_facts (h:Ring n A B (l1++i::l2)):i∉l1/\i∉l2/\(∀x∈l1,x∉l2)/\l1.Nodup/\l2.Nodup/\n∉l1/\n∉l2/\i<n:=by
 have hn:=h.nd
 have hx:=h.notin
 have hi:=h.lt i (by simp)
 simp only [List.nodup_append,List.nodup_cons,List.mem_cons] at hn
 simp only [List.mem_append,List.mem_cons,not_or] at hx
 obtain ⟨a1,⟨a2,a3⟩,a4⟩:=hn
 refine ⟨fun hh=>(a4 i hh i (.inl rfl)) rfl,a2,fun x hx1 hx2=>a4 x hx1 x (.inr hx2) rfl,a1,a3,hx.1,hx.2.2,hi⟩
theorem Ring.loosen (h:Ring n A B (l1++i::l2)):Ring n (upd (upd A (B i) (A i)) i i) (upd (upd B (A i) (B i)) i i) (l1++l2):=by
 obtain ⟨e1,e2,e3,e4⟩:=h.next
 obtain ⟨f1,f2,f3,f4,f5,f6,f7,f8⟩:=split_facts h
 obtain ⟨h1,_,_,h2⟩:=lk_split.1 h.lk
 obtain ⟨_,_,h3⟩:=tail_cons.1 h2
 have hp:=lst_mem n l1
 have hq:=hd_mem l2 n
 rw [e1,e3]
 have hpi:lst n l1≠i:=by
  rintro he;rw [he] at hp
  rcases List.mem_cons.1 hp with hp|hp
  . omega
  . exact f1 hp
 have hqi:hd l2 n≠i:=by
  rintro he;rw [he] at hq
  rcases hq with hq|hq
  . omega
  . exact f2 hq
 refine ⟨fun x hx=>h.lt x (by simp at hx ⊢;rcases hx with hx|hx<;>simp [hx]),?_,?_,?_⟩
 . exact List.nodup_append.2 ⟨f4,f5,fun x hx y hy he=>f3 x hx (he▸hy)⟩
 . refine lk_split.2 ⟨pre_congr (List.nodup_cons.2 ⟨f6,f4⟩) (fun y hy hne=>?_) (fun y hy=>?_) h1,?_,?_,tail_congr ?_ (fun y hy=>?_) (fun y hy hne=>?_) h3⟩
   . have hyi:y≠i:=by
      rintro rfl
      rcases List.mem_cons.1 hy with hy|hy
      . omega
      . exact f1 hy
     rw [upd_other _ _ hyi,upd_other _ _ hne]
   . have hyi:y≠i:=by rintro rfl;exact f1 hy
     have hyq:y≠hd l2 n:=by
      rintro he
      rcases hq with hq|hq
      . rw [he,hq] at hy;exact f6 hy
      . exact f3 y hy (he▸hq)
     rw [upd_other _ _ hyi,upd_other _ _ hyq]
   . rw [upd_other _ _ hpi,upd_same]
   . rw [upd_other _ _ hqi,upd_same]
   . exact List.nodup_append.2 ⟨f5,by simp,fun x hx y hy he=>by simp at hy;subst hy he;exact f7 hx⟩
   . have hyi:y≠i:=by rintro rfl;exact f2 hy
     have hyp:y≠lst n l1:=by
      rintro he
      rw [<-he] at hp
      rcases List.mem_cons.1 hp with hp|hp
      . subst hp;exact f7 hy
      . exact f3 y hp hy
     rw [upd_other _ _ hyi,upd_other _ _ hyp]
   . have hyi:y≠i:=by
      rintro rfl
      rcases hy with hy|hy
      . exact f2 hy
      . omega
     rw [upd_other _ _ hyi,upd_other _ _ hne]
 . intro x hx hm
   by_cases hxi:x=i
   . subst hxi;exact upd_same _ _ _
   . have hxp:x≠lst n l1:=by
      rintro he
      rw [<-he] at hp
      rcases List.mem_cons.1 hp with hp|hp
      . omega
      . exact hm (List.mem_append_left _ hp)
     rw [upd_other _ _ hxi,upd_other _ _ hxp]
     refine h.out x hx fun hh=>hm ?_
     simp only [List.mem_append,List.mem_cons] at hh ⊢
     rcases hh with hh|hh|hh
     . exact .inl hh
     . exact absurd hh hxi
     . exact .inr hh
theorem Ring.join (h:Ring n A B (l1++l2)) (hi:i<n) (hm:i∉l1++l2) {a b:Nat} (ha:a=lst n l1) (hb:b=B a):Ring n (upd (upd A i a) b i) (upd (upd B i b) a i) (l1++i::l2):=by
 obtain ⟨h1,h2,h3,h4⟩:=lk_split.1 h.lk
 rw [<-ha] at h2 h3
 rw [<-hb] at h2
 subst h2
 have hp:=lst_mem n l1
 have hq:=hd_mem l2 n
 rw [<-ha] at hp
 have hn:=h.nd
 have hx:=h.notin
 have hm':=hm
 simp only [List.mem_append,not_or] at hm' hx
 obtain ⟨g1,g2⟩:=hm'
 obtain ⟨k1,k2⟩:=hx
 obtain ⟨f4,f5,f3⟩:=List.nodup_append.1 hn
 have hai:i≠a:=by
  rintro rfl
  rcases List.mem_cons.1 hp with hp|hp
  . omega
  . exact g1 hp
 have hbi:i≠hd l2 n:=by
  rintro he
  rcases hq with hq|hq
  . omega
  . rw [<-he] at hq;exact g2 hq
 refine ⟨fun x hx=>?_,?_,?_,?_⟩
 . simp only [List.mem_append,List.mem_cons] at hx
   rcases hx with hx|hx|hx
   . exact h.lt x (List.mem_append_left _ hx)
   . omega
   . exact h.lt x (List.mem_append_right _ hx)
 . refine List.nodup_append.2 ⟨f4,List.nodup_cons.2 ⟨g2,f5⟩,fun x hx y hy he=>?_⟩
   subst he
   rcases List.mem_cons.1 hy with hy|hy
   . subst hy;exact g1 hx
   . exact f3 x hx x hy rfl
 . refine lk_split.2 ⟨pre_congr (List.nodup_cons.2 ⟨k1,f4⟩) (fun y hy hne=>?_) (fun y hy=>?_) h1,?_,?_,tail_cons.2 ⟨?_,?_,tail_congr ?_ (fun y hy=>?_) (fun y hy hne=>?_) h4⟩⟩
   . have hyi:y≠i:=by
      rintro rfl
      rcases List.mem_cons.1 hy with hy|hy
      . omega
      . exact g1 hy
     rw [<-ha] at hne
     rw [upd_other _ _ hne,upd_other _ _ hyi]
   . have hyi:y≠i:=by rintro rfl;exact g1 hy
     have hyq:y≠hd l2 n:=by
      rintro he
      rcases hq with hq|hq
      . rw [he,hq] at hy;exact k1 hy
      . exact f3 y hy y (he▸hq) rfl
     rw [upd_other _ _ hyq,upd_other _ _ hyi]
   . rw [<-ha];exact upd_same _ _ _
   . show upd (upd A i a) (hd l2 n) i i=_
     rw [upd_other _ _ hbi,upd_same,ha]
   . rw [upd_other _ _ hai,upd_same]
   . exact upd_same _ _ _
   . exact List.nodup_append.2 ⟨f5,by simp,fun x hx y hy he=>by simp at hy;subst hy he;exact k2 hx⟩
   . have hyi:y≠i:=by rintro rfl;exact g2 hy
     have hyp:y≠a:=by
      rintro he
      rw [<-he] at hp
      rcases List.mem_cons.1 hp with hp|hp
      . subst hp;exact k2 hy
      . exact f3 y hp y hy rfl
     rw [upd_other _ _ hyp,upd_other _ _ hyi]
   . have hyi:y≠i:=by
      rintro rfl
      rcases hy with hy|hy
      . exact g2 hy
      . omega
     rw [upd_other _ _ hne,upd_other _ _ hyi]
 . intro x hx hm2
   simp only [List.mem_append,List.mem_cons,not_or] at hm2
   have hxa:x≠a:=by
    rintro rfl
    rcases List.mem_cons.1 hp with hp|hp
    . omega
    . exact hm2.1 hp
   rw [upd_other _ _ hxa,upd_other _ _ hm2.2.1]
   exact h.out x hx (by simp [hm2])
theorem Ring.front (h:Ring n A B l) (hi:i<n) (hm:i∉l) {b:Nat} (hb:b=B n):Ring n (upd (upd A i n) b i) (upd (upd B i b) n i) (i::l):=
 Ring.join (l1:=[]) (l2:=l) h hi hm rfl hb
theorem Ring.back (h:Ring n A B l) (hi:i<n) (hm:i∉l) {a b:Nat} (ha:a=A n) (hb:b=B a):Ring n (upd (upd A i a) b i) (upd (upd B i b) a i) (l++[i]):=
 Ring.join (l1:=l) (l2:=[]) (by simpa using h) hi (by simpa using hm) (ha.trans h.ends.2) hb
def del (l:List Nat) (i:Nat):List Nat:=l.filter (· != i)
theorem del_none (h:i∉l):del l i=l:=List.filter_eq_self.2 fun x hx=>by
 have:x≠i:=by rintro rfl;exact h hx
 simpa using this
theorem del_split (h1:i∉l1) (h2:i∉l2):del (l1++i::l2) i=l1++l2:=by
 unfold del
 rw [List.filter_append,List.filter_cons_of_neg (by simp)]
 exact congr (congrArg _ (del_none h1)) (del_none h2)
theorem del_notin (l:List Nat) (i:Nat):i∉del l i:=by simp [del]
theorem len_nodup:∀(n:Nat) (l:List Nat),l.Nodup->(∀x∈l,x<n)->l.length<=n
 |0,l,_,h=>by
  cases l with
  |nil=>exact Nat.le_refl _
  |cons x r=>exact absurd (h x (by simp)) (by omega)
 |n+1,l,hn,h=>by
  by_cases hm:n∈l
  . obtain ⟨l1,l2,rfl⟩:=List.append_of_mem hm
    simp only [List.nodup_append,List.nodup_cons,List.mem_cons] at hn
    obtain ⟨a1,⟨a2,a3⟩,a4⟩:=hn
    have:=len_nodup n (l1++l2) (List.nodup_append.2 ⟨a1,a3,fun x hx y hy he=>a4 x hx y (.inr hy) he⟩) (fun x hx=>by
     have h1:=h x (by simp at hx ⊢;rcases hx with hx|hx<;>simp [hx])
     have h2:x≠n:=by
      rintro rfl
      rcases List.mem_append.1 hx with hx|hx
      . exact a4 x hx x (.inl rfl) rfl
      . exact a2 hx
     omega)
    simp at this ⊢
    omega
  . have:=len_nodup n l hn (fun x hx=>by
     have h1:=h x hx
     have h2:x≠n:=by rintro rfl;exact hm hx
     omega)
    omega
theorem Ring.len_le (h:Ring n A B l):l.length<=n:=len_nodup n l h.nd h.lt
end
end Cn
end Go.Proofs.YtjpjjnalpdpljaaGreatDoor
namespace Go.Proofs.YtjpjjnalpdpljaaGreatDoor
namespace Ca
open Cn (del del_notin)
abbrev Fr:=Nat × List UInt8 × Bool × Nat
structure St where
 m:Nat
 ls:List (List UInt8)
 r:Nat
 s:Nat
 fr:List (Option Fr)
 row:List Nat
def Uq (fr:List (Option Fr)):Prop:=∀(i j:Nat) (f f':Fr),fr[i]? =some (some f)->fr[j]? =some (some f')->f.1=f'.1->i=j
def look:List (Option Fr)->Nat->Option (Nat × Fr)
 |[],_=>none
 |none::l,b=>(look l b).map fun y=>(y.1+1,y.2)
 |some f::l,b=>if f.1=b then some (0,f) else (look l b).map fun y=>(y.1+1,y.2)
theorem look_some {b j:Nat} {f:Fr}:∀{fr:List (Option Fr)},look fr b=some (j,f)->fr[j]? =some (some f)/\f.1=b:=by
 intro fr
 induction fr generalizing j with
 |nil=>intro h;cases h
 |cons x l ih=>
  intro h
  cases x with
  |none=>
   simp only [look,Option.map_eq_some_iff] at h
   obtain ⟨y,hy,he⟩:=h
   cases he
   simpa using ih hy
  |some g=>
   simp only [look] at h
   split at h
   . rename_i hg
     cases h
     exact ⟨rfl,hg⟩
   . simp only [Option.map_eq_some_iff] at h
     obtain ⟨y,hy,he⟩:=h
     cases he
     simpa using ih hy
theorem look_none {b:Nat}:∀{fr:List (Option Fr)},look fr b=none->∀(j:Nat) (f:Fr),fr[j]? =some (some f)->f.1≠b:=by
 intro fr
 induction fr with
 |nil=>intro _ j f h;simp at h
 |cons x l ih=>
  intro h j f hj
  cases x with
  |none=>
   simp only [look,Option.map_eq_none_iff] at h
   cases j with
   |zero=>simp at hj
   |succ j=>exact ih h j f (by simpa using hj)
  |some g=>
   simp only [look] at h
   split at h
   . cases h
   . rename_i hg
     simp only [Option.map_eq_none_iff] at h
     cases j with
     |zero=>
      obtain rfl:g=f:=by simpa using hj
      exact hg
     |succ j=>exact ih h j f (by simpa using hj)
theorem look_at {fr:List (Option Fr)} (hU:Uq fr) {j:Nat} {f:Fr} (h:fr[j]? =some (some f)):look fr f.1=some (j,f):=by
 cases hl:look fr f.1 with
 |none=>exact absurd rfl (look_none hl j f h)
 |some y=>
  obtain ⟨i,g⟩:=y
  obtain ⟨h1,h2⟩:=look_some hl
  obtain rfl:=hU i j g f h1 h h2
  rw [h1] at h
  obtain rfl:g=f:=by simpa using h
  rfl
theorem look_none_of {fr:List (Option Fr)} {b:Nat} (h:∀(j:Nat) (f:Fr),fr[j]? =some (some f)->f.1≠b):look fr b=none:=by
 cases hl:look fr b with
 |none=>rfl
 |some y=>
  obtain ⟨h1,h2⟩:=look_some (j:=y.1) (f:=y.2) hl
  exact absurd h2 (h _ _ h1)
def ix (fr:List (Option Fr)) (b:Nat):Option Nat:=(look fr b).map (·.1)
theorem set_get {α:Type} {l:List α} {i j:Nat} {x:α}:(l.set i x)[j]? =if i=j then (if j<l.length then some x else none) else l[j]? :=by
 rw [List.getElem?_set]
 by_cases h:i=j
 . subst h;simp
 . simp [h]
theorem lt_of_get {α:Type} {l:List α} {i:Nat} {x:α} (h:l[i]? =some x):i<l.length:=(List.getElem?_eq_some_iff.1 h).1
theorem uq_set {fr:List (Option Fr)} (hU:Uq fr) {a:Nat} {f:Fr} (ho:∀(j:Nat) (g:Fr),fr[j]? =some (some g)->g.1=f.1->j=a):Uq (fr.set a (some f)):=by
 intro i j g g' hi hj e
 rw [set_get] at hi hj
 by_cases h1:a=i
 . by_cases h2:a=j
   . omega
   . rw [if_neg h2] at hj
     subst h1
     rw [if_pos rfl] at hi
     split at hi
     . obtain rfl:f=g:=by simpa using hi
       exact (ho j g' hj e.symm).symm
     . cases hi
 . rw [if_neg h1] at hi
   by_cases h2:a=j
   . subst h2
     rw [if_pos rfl] at hj
     split at hj
     . obtain rfl:f=g':=by simpa using hj
       exact ho i g hi e
     . cases hj
   . rw [if_neg h2] at hj
     exact hU i j g g' hi hj e
theorem uq_unset {fr:List (Option Fr)} (hU:Uq fr) (a:Nat):Uq (fr.set a none):=by
 intro i j g g' hi hj e
 rw [set_get] at hi hj
 by_cases h1:a=i
 . rw [if_pos h1] at hi;split at hi<;>cases hi
 . by_cases h2:a=j
   . rw [if_pos h2] at hj;split at hj<;>cases hj
   . rw [if_neg h1] at hi
     rw [if_neg h2] at hj
     exact hU i j g g' hi hj e
theorem ix_at {fr:List (Option Fr)} (hU:Uq fr) {j:Nat} {f:Fr} (h:fr[j]? =some (some f)):ix fr f.1=some j:=by
 unfold ix;rw [look_at hU h];rfl
theorem ix_none_of {fr:List (Option Fr)} {b:Nat} (h:∀(j:Nat) (f:Fr),fr[j]? =some (some f)->f.1≠b):ix fr b=none:=by
 unfold ix;rw [look_none_of h];rfl
theorem ix_some {fr:List (Option Fr)} {b j:Nat} (h:ix fr b=some j):∃f:Fr,fr[j]? =some (some f)/\f.1=b:=by
 unfold ix at h
 simp only [Option.map_eq_some_iff] at h
 obtain ⟨y,hy,he⟩:=h
 subst he
 exact ⟨y.2,look_some (j:=y.1) (f:=y.2) hy⟩
theorem ix_none {fr:List (Option Fr)} {b:Nat} (h:ix fr b=none):∀(j:Nat) (f:Fr),fr[j]? =some (some f)->f.1≠b:=by
 unfold ix at h
 simp only [Option.map_eq_none_iff] at h
 exact look_none h
theorem ix_set {fr:List (Option Fr)} (hU:Uq fr) {a:Nat} {f:Fr} (ha:a<fr.length) (ho:∀(j:Nat) (g:Fr),fr[j]? =some (some g)->g.1=f.1->j=a) (hn:∀g:Fr,fr[a]? =some (some g)->g.1=f.1) (x:Nat):
 ix (fr.set a (some f)) x=if x=f.1 then some a else ix fr x:=by
 by_cases hx:x=f.1
 . subst hx
   rw [if_pos rfl]
   exact ix_at (uq_set hU ho) (by rw [set_get,if_pos rfl,if_pos ha])
 . rw [if_neg hx]
   cases h:ix fr x with
   |none=>
    refine ix_none_of fun j g hj=>?_
    rw [set_get] at hj
    by_cases h1:a=j
    . subst h1
      rw [if_pos rfl,if_pos ha] at hj
      obtain rfl:f=g:=by simpa using hj
      exact fun e=>hx e.symm
    . rw [if_neg h1] at hj
      exact ix_none h j g hj
   |some j=>
    obtain ⟨g,hg,rfl⟩:=ix_some h
    refine ix_at (uq_set hU ho) ?_
    rw [set_get]
    by_cases h1:a=j
    . subst h1;exact absurd (hn g hg) hx
    . rw [if_neg h1];exact hg
theorem ix_unset {fr:List (Option Fr)} (hU:Uq fr) {a:Nat} {f:Fr} (hf:fr[a]? =some (some f)) (x:Nat):ix (fr.set a none) x=if x=f.1 then none else ix fr x:=by
 by_cases hx:x=f.1
 . subst hx
   rw [if_pos rfl]
   refine ix_none_of fun j g hj e=>?_
   rw [set_get] at hj
   by_cases h1:a=j
   . rw [if_pos h1] at hj;split at hj<;>cases hj
   . rw [if_neg h1] at hj
     exact h1 (hU a j f g hf hj e.symm)
 . rw [if_neg hx]
   cases h:ix fr x with
   |none=>
    refine ix_none_of fun j g hj=>?_
    rw [set_get] at hj
    by_cases h1:a=j
    . rw [if_pos h1] at hj;split at hj<;>cases hj
    . rw [if_neg h1] at hj
      exact ix_none h j g hj
   |some j=>
    obtain ⟨g,hg,rfl⟩:=ix_some h
    refine ix_at (uq_unset hU a) ?_
    rw [set_get]
    by_cases h1:a=j
    . subst h1
      rw [hf] at hg
      obtain rfl:f=g:=by simpa using hg
      exact absurd rfl hx
    . rw [if_neg h1];exact hg
def occ (fr:List (Option Fr)):Nat:=(fr.filterMap id).length
theorem occ_set:∀{fr:List (Option Fr)} {a:Nat} {x y:Option Fr},fr[a]? =some x->occ (fr.set a y)+(if x.isSome then 1 else 0)=occ fr+(if y.isSome then 1 else 0):=by
 intro fr
 induction fr with
 |nil=>intro a x y h;simp at h
 |cons z l ih=>
  intro a x y h
  cases a with
  |zero=>
   obtain rfl:z=x:=by simpa using h
   cases z<;>cases y<;>simp [occ]
  |succ a=>
   have:= @ih a x y (by simpa using h)
   unfold occ at this ⊢
   cases z<;>simp<;>omega
theorem occ_le (fr:List (Option Fr)):occ fr<=fr.length:=List.length_filterMap_le _ _
section
variable (st:St)
def pinsP (b:Nat):Nat:=match look st.fr b with
 |some (_,f)=>f.2.2.2
 |none=>0
def cleanT (a:Nat):St:=match st.fr[a]? with
 |some (some (b,x,true,p))=>{ st with ls:=st.ls.set b x,s:=st.s+1,fr:=st.fr.set a (some (b,x,false,p)) }
 |_=>st
def emptyT (a:Nat):St:={ st with fr:=st.fr.set a none,row:=del st.row a++[a] }
def fillT (a:Nat) (f:Fr):St:={ st with fr:=st.fr.set a (some f),row:=del st.row a }
def readT:St:={ st with r:=st.r+1 }
def roomT:Option (Nat × St):=match st.row.getLast? with
 |none=>none
 |some a=>match st.fr[a]? with
  |some (some _)=>some (a,emptyT (cleanT st a) a)
  |_=>some (a,st)
def pinT (b:Nat):Int × St:=
 if b<st.ls.length then
  match look st.fr b with
  |some (j,f)=>(0,fillT st j (f.1,f.2.1,f.2.2.1,f.2.2.2+1))
  |none=>match roomT st with
   |none=>(7,st)
   |some (a,t)=>(0,fillT (readT t) a (b,(t.ls[b]?).getD [],false,1))
 else (4,st)
def freshT (b:Nat):Int × St:=
 if b<st.ls.length then
  if 0<pinsP st b then (8,st) else
  match look st.fr b with
  |some (j,_)=>(0,fillT st j (b,List.replicate st.m 0,true,1))
  |none=>match roomT st with
   |none=>(7,st)
   |some (a,t)=>(0,fillT t a (b,List.replicate st.m 0,true,1))
 else (4,st)
def unpinT (b:Nat):Int × St:=match look st.fr b with
 |some (j,f)=>if f.2.2.2=0 then (8,st) else (0,{ st with fr:=st.fr.set j (some (f.1,f.2.1,f.2.2.1,f.2.2.2-1)),row:=if f.2.2.2=1 then j::del st.row j else st.row })
 |none=>(8,st)
def readP (b:Nat):List UInt8 × Int:=match look st.fr b with
 |some (_,f)=>if f.2.2.2=0 then ([],8) else (f.2.1,0)
 |none=>([],8)
def writeT (b:Nat) (y:List UInt8):Int × St:=match look st.fr b with
 |some (j,f)=>if f.2.2.2=0 then (8,st) else if y.length=f.2.1.length then (0,{ st with fr:=st.fr.set j (some (f.1,y,true,f.2.2.2)) }) else (3,st)
 |none=>(8,st)
def dropT (b:Nat):Int × St:=if 0<pinsP st b then (8,st) else match look st.fr b with
 |some (j,_)=>(0,emptyT st j)
 |none=>(0,st)
def dirtyP (b:Nat):Bool:=match look st.fr b with
 |some (_,f)=>f.2.2.1
 |none=>false
def dirtyL:List Nat:=(List.range st.ls.length).filter (dirtyP st)
def cleanB (b:Nat):St:=match look st.fr b with
 |some (j,_)=>cleanT st j
 |none=>st
def flushT:St:=(dirtyL st).foldl cleanB st
end
structure Good (st:St):Prop where
 n1:1<=st.fr.length
 n2:st.fr.length<=64
 uq:Uq st.fr
 blk:∀(j:Nat) (f:Fr),st.fr[j]? =some (some f)->f.1<st.ls.length/\f.2.1.length=st.m
 cl:∀(j:Nat) (f:Fr),st.fr[j]? =some (some f)->f.2.2.1=false->st.ls[f.1]? =some f.2.1
 rw:∀j:Nat,j∈st.row↔j<st.fr.length/\∀f:Fr,st.fr[j]? =some (some f)->f.2.2.2=0
 nd:st.row.Nodup
 sp:∃a e,st.row=a++e/\(∀j∈a,∃f:Fr,st.fr[j]? =some (some f))/\∀j∈e,st.fr[j]? =some none
 lm:∀l,l∈st.ls->l.length=st.m
 l32:st.ls.length<=65536
end Ca
end Go.Proofs.YtjpjjnalpdpljaaGreatDoor
namespace Go.Proofs.YtjpjjnalpdpljaaGreatDoor
namespace Ca
open Cn (del del_notin)
theorem mem_del {l:List Nat} {a j:Nat}:j∈del l a↔j∈l/\j≠a:=by simp [del]
theorem del_app (l l':List Nat) (a:Nat):del (l++l') a=del l a++del l' a:=by simp [del]
theorem del_nd {l:List Nat} (h:l.Nodup) (a:Nat):(del l a).Nodup:=h.filter _
section
variable {st:St}
theorem set_ne {α:Type} {l:List α} {a j:Nat} {x:α} (h:j≠a):(l.set a x)[j]? =l[j]? :=by
 rw [List.getElem?_set,if_neg (fun e=>h e.symm)]
theorem set_eq {α:Type} {l:List α} {a:Nat} {x y:α} (h:l[a]? =some y):(l.set a x)[a]? =some x:=by
 rw [List.getElem?_set,if_pos rfl,if_pos (lt_of_get h)]
theorem set_len {ls:List (List UInt8)} {m b:Nat} {x:List UInt8} (h:∀l,l∈ls->l.length=m) (hx:x.length=m):∀l,l∈ls.set b x->l.length=m:=fun l hl=>by
 rcases List.mem_or_eq_of_mem_set hl with h'|rfl
 . exact h l h'
 . exact hx
theorem Good.alter (h:Good st) {a:Nat} {f f':Fr} (hf:st.fr[a]? =some (some f)) (h1:f'.1=f.1) (h2:f'.2.1.length=st.m) (hp:f'.2.2.2=0↔f.2.2.2=0) {ls':List (List UInt8)} (hl:ls'.length=st.ls.length) (hlm:∀l,l∈ls'->l.length=st.m)
 (hc:f'.2.2.1=false->ls'[f'.1]? =some f'.2.1) (hc2:∀(j:Nat) (g:Fr),j≠a->st.fr[j]? =some (some g)->g.2.2.1=false->ls'[g.1]? =some g.2.1) (r s:Nat):Good { st with ls:=ls',r:=r,s:=s,fr:=st.fr.set a (some f') }:=by
 have hg:∀(j:Nat) (g:Fr),(st.fr.set a (some f'))[j]? =some (some g)->(j=a/\g=f')\/(j≠a/\st.fr[j]? =some (some g)):=fun j g hj=>by
  by_cases e:j=a
  . subst e
    rw [set_eq hf] at hj
    exact .inl ⟨rfl,by simpa using hj.symm⟩
  . rw [set_ne e] at hj
    exact .inr ⟨e,hj⟩
 refine ⟨by simpa using h.n1,by simpa using h.n2,uq_set h.uq fun j g hj e=>?_,fun j g hj=>?_,fun j g hj hd=>?_,fun j=>?_,h.nd,?_,hlm,by rw [hl];exact h.l32⟩
 . exact h.uq j a g f hj hf (e.trans h1)
 . show g.1<ls'.length/\_
   rw [hl]
   rcases hg j g hj with ⟨rfl,rfl⟩|⟨_,hj⟩
   . exact ⟨by rw [h1];exact (h.blk _ _ hf).1,h2⟩
   . exact h.blk j g hj
 . rcases hg j g hj with ⟨rfl,rfl⟩|⟨e,hj⟩
   . exact hc hd
   . exact hc2 j g e hj hd
 . show j∈st.row↔j<(st.fr.set a (some f')).length/\_
   rw [h.rw j,List.length_set]
   refine and_congr_right fun hj=>⟨fun hh g hg'=>?_,fun hh g hg'=>?_⟩
   . rcases hg j g hg' with ⟨rfl,rfl⟩|⟨_,hj'⟩
     . exact hp.2 (hh f hf)
     . exact hh g hj'
   . by_cases e:j=a
     . subst e
       rw [hf] at hg'
       obtain rfl:f=g:=by simpa using hg'
       exact hp.1 (hh f' (set_eq hf))
     . exact hh g (by rw [set_ne e];exact hg')
 . obtain ⟨x,y,e,hx,hy⟩:=h.sp
   refine ⟨x,y,e,fun j hj=>?_,fun j hj=>?_⟩
   . obtain ⟨g,hg'⟩:=hx j hj
     by_cases ej:j=a
     . subst ej;exact ⟨f',set_eq hf⟩
     . exact ⟨g,by rw [set_ne ej];exact hg'⟩
   . have hn:=hy j hj
     have ej:j≠a:=by rintro rfl;rw [hf] at hn;cases hn
     show (st.fr.set a (some f'))[j]? =_
     rw [set_ne ej];exact hn
theorem Good.clean (h:Good st) (a:Nat):Good (cleanT st a):=by
 unfold cleanT
 split
 . rename_i b x p hf
   obtain ⟨hb,hx⟩:=h.blk _ _ hf
   refine h.alter (f':=(b,x,false,p)) hf rfl hx Iff.rfl (by simp) (set_len h.lm hx) (fun _=>?_) (fun j g e hj hd=>?_) _ _
   . rw [List.getElem?_set,if_pos rfl,if_pos hb]
   . have hne:g.1≠b:=fun e'=>e (h.uq j a g _ hj hf e')
     rw [set_ne hne]
     exact h.cl j g hj hd
 . exact h
theorem Good.fill (h:Good st) {a:Nat} {y:Option Fr} (hy:st.fr[a]? =some y) {f:Fr} (h1:f.1<st.ls.length) (h2:f.2.1.length=st.m) (h3:0<f.2.2.2) (hc:f.2.2.1=false->st.ls[f.1]? =some f.2.1) (ho:∀(j:Nat) (g:Fr),st.fr[j]? =some (some g)->g.1=f.1->j=a):Good (fillT st a f):=by
 have hg:∀(j:Nat) (g:Fr),(st.fr.set a (some f))[j]? =some (some g)->(j=a/\g=f)\/(j≠a/\st.fr[j]? =some (some g)):=fun j g hj=>by
  by_cases e:j=a
  . subst e
    rw [set_eq hy] at hj
    exact .inl ⟨rfl,by simpa using hj.symm⟩
  . rw [set_ne e] at hj
    exact .inr ⟨e,hj⟩
 unfold fillT
 refine ⟨by simpa using h.n1,by simpa using h.n2,uq_set h.uq ho,fun j g hj=>?_,fun j g hj hd=>?_,fun j=>?_,del_nd h.nd a,?_,h.lm,h.l32⟩
 . rcases hg j g hj with ⟨rfl,rfl⟩|⟨_,hj⟩
   . exact ⟨h1,h2⟩
   . exact h.blk j g hj
 . rcases hg j g hj with ⟨rfl,rfl⟩|⟨e,hj⟩
   . exact hc hd
   . exact h.cl j g hj hd
 . show j∈del st.row a↔j<(st.fr.set a (some f)).length/\_
   rw [mem_del,h.rw j,List.length_set]
   refine ⟨fun ⟨⟨hj,hh⟩,hne⟩=>⟨hj,fun g hg'=>?_⟩,fun ⟨hj,hh⟩=>?_⟩
   . rcases hg j g hg' with ⟨e,_⟩|⟨_,hj'⟩
     . exact absurd e hne
     . exact hh g hj'
   . have hne:j≠a:=by
      rintro rfl
      have:=hh f (set_eq hy)
      omega
     exact ⟨⟨hj,fun g hg'=>hh g (by rw [set_ne hne];exact hg')⟩,hne⟩
 . obtain ⟨x,z,e,hx,hz⟩:=h.sp
   refine ⟨del x a,del z a,by rw [e,del_app],fun j hj=>?_,fun j hj=>?_⟩
   . obtain ⟨hj,hne⟩:=mem_del.1 hj
     obtain ⟨g,hg'⟩:=hx j hj
     exact ⟨g,by rw [set_ne hne];exact hg'⟩
   . obtain ⟨hj,hne⟩:=mem_del.1 hj
     show (st.fr.set a (some f))[j]? =_
     rw [set_ne hne];exact hz j hj
theorem Good.empty (h:Good st) {a:Nat} {f:Fr} (hf:st.fr[a]? =some (some f)):Good (emptyT st a):=by
 have hg:∀(j:Nat) (g:Fr),(st.fr.set a none)[j]? =some (some g)->j≠a/\st.fr[j]? =some (some g):=fun j g hj=>by
  by_cases e:j=a
  . subst e
    rw [set_eq hf] at hj
    cases hj
  . rw [set_ne e] at hj
    exact ⟨e,hj⟩
 unfold emptyT
 refine ⟨by simpa using h.n1,by simpa using h.n2,uq_unset h.uq a,fun j g hj=>h.blk j g (hg j g hj).2,fun j g hj hd=>h.cl j g (hg j g hj).2 hd,fun j=>?_,?_,?_,h.lm,h.l32⟩
 . show j∈del st.row a++[a]↔j<(st.fr.set a none).length/\_
   rw [List.mem_append,List.mem_singleton,mem_del,h.rw j,List.length_set]
   refine ⟨fun hh=>?_,fun ⟨hj,hh⟩=>?_⟩
   . rcases hh with ⟨⟨hj,hh⟩,hne⟩|rfl
     . exact ⟨hj,fun g hg'=>hh g (hg j g hg').2⟩
     . exact ⟨lt_of_get hf,fun g hg'=>absurd rfl (hg j g hg').1⟩
   . by_cases e:j=a
     . exact .inr e
     . exact .inl ⟨⟨hj,fun g hg'=>hh g (by rw [set_ne e];exact hg')⟩,e⟩
 . refine List.nodup_append.2 ⟨del_nd h.nd a,by simp,fun x hx y hy e=>?_⟩
   obtain rfl:y=a:=by simpa using hy
   exact (mem_del.1 hx).2 e
 . obtain ⟨x,z,e,hx,hz⟩:=h.sp
   refine ⟨del x a,del z a++[a],by rw [e,del_app,List.append_assoc],fun j hj=>?_,fun j hj=>?_⟩
   . obtain ⟨hj,hne⟩:=mem_del.1 hj
     obtain ⟨g,hg'⟩:=hx j hj
     exact ⟨g,by rw [set_ne hne];exact hg'⟩
   . show (st.fr.set a none)[j]? =_
     rcases List.mem_append.1 hj with hj|hj
     . obtain ⟨hj,hne⟩:=mem_del.1 hj
       rw [set_ne hne];exact hz j hj
     . obtain rfl:j=a:=by simpa using hj
       exact set_eq hf
theorem Good.read (h:Good st):Good (readT st):=⟨h.n1,h.n2,h.uq,h.blk,h.cl,h.rw,h.nd,h.sp,h.lm,h.l32⟩
theorem clean_spec (st:St) (a:Nat):(cleanT st a).m=st.m/\(cleanT st a).ls.length=st.ls.length/\(cleanT st a).r=st.r/\(cleanT st a).s<=st.s+1/\(cleanT st a).row=st.row/\(cleanT st a).fr.length=st.fr.length:=by
 unfold cleanT
 split<;>simp
theorem clean_other {a j:Nat} (h:j≠a):(cleanT st a).fr[j]? =st.fr[j]? :=by
 unfold cleanT
 split
 . exact set_ne h
 . rfl
theorem clean_at {a b p:Nat} {x:List UInt8} {d:Bool} (hf:st.fr[a]? =some (some (b,x,d,p))):(cleanT st a).fr[a]? =some (some (b,x,false,p)):=by
 unfold cleanT
 rw [hf]
 cases d with
 |true=>exact set_eq hf
 |false=>exact hf
theorem room_spec (h:Good st) {a:Nat} {t:St} (hr:roomT st=some (a,t)):Good t/\t.fr[a]? =some none/\t.m=st.m/\t.ls.length=st.ls.length/\(∀(j:Nat) (g:Fr),t.fr[j]? =some (some g)->st.fr[j]? =some (some g))/\t.r=st.r/\t.s<=st.s+1:=by
 unfold roomT at hr
 split at hr
 . cases hr
 . rename_i i hi
   have hm:i∈st.row:=List.mem_of_getLast? hi
   split at hr
   . rename_i f hf
     simp only [Option.some.injEq,Prod.mk.injEq] at hr
     obtain ⟨rfl,rfl⟩:=hr
     obtain ⟨b,x,d,p⟩:=f
     have hc:=clean_at hf
     obtain ⟨c1,c2,c3,c4,c5,c6⟩:=clean_spec st i
     refine ⟨(h.clean i).empty hc,set_eq hc,c1,c2,fun j g hj=>?_,c3,c4⟩
     by_cases e:j=i
     . subst e
       have:(emptyT (cleanT st j) j).fr[j]? =some none:=set_eq hc
       rw [this] at hj;cases hj
     . have:(emptyT (cleanT st i) i).fr[j]? =(cleanT st i).fr[j]? :=set_ne e
       rw [this,clean_other e] at hj
       exact hj
   . rename_i hf
     simp only [Option.some.injEq,Prod.mk.injEq] at hr
     obtain ⟨rfl,rfl⟩:=hr
     refine ⟨h,?_,rfl,rfl,fun _ _ hj=>hj,rfl,Nat.le_succ _⟩
     have hlt:=((h.rw i).1 hm).1
     cases e:st.fr[i]? with
     |none=>rw [List.getElem?_eq_none_iff] at e;omega
     |some y=>
      cases y with
      |none=>rfl
      |some f=>exact absurd e (hf f)
theorem Good.pin (h:Good st) (b:Nat):Good (pinT st b).2:=by
 unfold pinT
 split
 . rename_i hb
   split
   . rename_i j f hl
     obtain ⟨hf,he⟩:=look_some hl
     obtain ⟨k1,k2⟩:=h.blk _ _ hf
     exact h.fill hf k1 k2 (by simp) (fun hd=>by have:=h.cl _ _ hf;exact this hd) (fun i g hi e=>h.uq i j g f hi hf e)
   . rename_i hl
     have hn:=look_none hl
     split
     . exact h
     . rename_i a t hr
       obtain ⟨g1,g2,g3,g4,g5,g6,g7⟩:=room_spec h hr
       have hbt:b<t.ls.length:=by rw [g4];exact hb
       have hx:t.ls[b]? =some (t.ls[b]):=List.getElem?_eq_getElem hbt
       refine Good.fill g1.read g2 hbt ?_ (by simp) (fun _=>?_) (fun i g hi e=>absurd e (hn i g (g5 i g hi)))
       . show ((t.ls[b]?).getD []).length=t.m
         rw [hx]
         exact g1.lm _ (List.getElem_mem hbt)
       . show t.ls[b]? =some ((t.ls[b]?).getD [])
         rw [hx];rfl
 . exact h
theorem Good.fresh (h:Good st) (b:Nat):Good (freshT st b).2:=by
 unfold freshT
 split
 . rename_i hb
   split
   . exact h
   . split
     . rename_i j f hl
       obtain ⟨hf,he⟩:=look_some hl
       exact h.fill hf hb (by simp) (by simp) (fun hd=>by cases hd) (fun i g hi e=>h.uq i j g f hi hf (e.trans he.symm))
     . rename_i hl
       have hn:=look_none hl
       split
       . exact h
       . rename_i a t hr
         obtain ⟨g1,g2,g3,g4,g5,g6,g7⟩:=room_spec h hr
         exact g1.fill g2 (by rw [g4];exact hb) (by simp [g3]) (by simp) (fun hd=>by cases hd) (fun i g hi e=>absurd e (hn i g (g5 i g hi)))
 . exact h
theorem Good.unpin (h:Good st) (b:Nat):Good (unpinT st b).2:=by
 unfold unpinT
 split
 . rename_i j f hl
   obtain ⟨hf,he⟩:=look_some hl
   obtain ⟨b',x,d,p⟩:=f
   split
   . exact h
   . rename_i hp
     simp only at hp ⊢
     by_cases hp1:p=1
     . subst hp1
       simp only [if_true]
       have hg:∀(i:Nat) (g:Fr),(st.fr.set j (some (b',x,d,1-1)))[i]? =some (some g)->(i=j/\g=(b',x,d,0))\/(i≠j/\st.fr[i]? =some (some g)):=fun i g hi=>by
        by_cases e:i=j
        . subst e
          rw [set_eq hf] at hi
          exact .inl ⟨rfl,by simpa using hi.symm⟩
        . rw [set_ne e] at hi
          exact .inr ⟨e,hi⟩
       refine ⟨by simpa using h.n1,by simpa using h.n2,uq_set h.uq fun i g hi e=>h.uq i j g _ hi hf e,fun i g hi=>?_,fun i g hi hd=>?_,fun i=>?_,?_,?_,h.lm,h.l32⟩
       . rcases hg i g hi with ⟨rfl,rfl⟩|⟨_,hi⟩
         . have:=h.blk _ _ hf
           exact this
         . exact h.blk i g hi
       . rcases hg i g hi with ⟨rfl,rfl⟩|⟨_,hi⟩
         . have:=h.cl _ _ hf
           exact this hd
         . exact h.cl i g hi hd
       . show i∈j::del st.row j↔i<(st.fr.set j _).length/\_
         rw [List.mem_cons,mem_del,h.rw i,List.length_set]
         refine ⟨fun hh=>?_,fun ⟨hi,hh⟩=>?_⟩
         . rcases hh with rfl|⟨⟨hi,hh⟩,hne⟩
           . refine ⟨lt_of_get hf,fun g hg'=>?_⟩
             rcases hg i g hg' with ⟨_,rfl⟩|⟨e,_⟩
             . rfl
             . exact absurd rfl e
           . refine ⟨hi,fun g hg'=>?_⟩
             rcases hg i g hg' with ⟨e,_⟩|⟨_,hi'⟩
             . exact absurd e hne
             . exact hh g hi'
         . by_cases e:i=j
           . exact .inl e
           . exact .inr ⟨⟨hi,fun g hg'=>hh g (by rw [set_ne e];exact hg')⟩,e⟩
       . exact List.nodup_cons.2 ⟨del_notin _ _,del_nd h.nd j⟩
       . obtain ⟨y,z,e,hy,hz⟩:=h.sp
         refine ⟨j::del y j,del z j,by rw [e,del_app];rfl,fun i hi=>?_,fun i hi=>?_⟩
         . rcases List.mem_cons.1 hi with rfl|hi
           . exact ⟨_,set_eq hf⟩
           . obtain ⟨hi,hne⟩:=mem_del.1 hi
             obtain ⟨g,hg'⟩:=hy i hi
             exact ⟨g,by rw [set_ne hne];exact hg'⟩
         . obtain ⟨hi,hne⟩:=mem_del.1 hi
           show (st.fr.set j _)[i]? =_
           rw [set_ne hne];exact hz i hi
     . simp only [if_neg hp1]
       exact h.alter (f':=(b',x,d,p-1)) hf rfl (h.blk _ _ hf).2 (by simp;omega) rfl h.lm (fun hd=>by have:=h.cl _ _ hf;exact this hd) (fun i g _ hi hd=>h.cl i g hi hd) _ _
 . exact h
theorem Good.write (h:Good st) (b:Nat) (y:List UInt8):Good (writeT st b y).2:=by
 unfold writeT
 split
 . rename_i j f hl
   obtain ⟨hf,he⟩:=look_some hl
   split
   . exact h
   . split
     . rename_i hy
       exact h.alter (f':=(f.1,y,true,f.2.2.2)) hf rfl (hy.trans (h.blk _ _ hf).2) Iff.rfl rfl h.lm (fun hd=>by cases hd) (fun i g _ hi hd=>h.cl i g hi hd) _ _
     . exact h
 . exact h
theorem Good.drop (h:Good st) (b:Nat):Good (dropT st b).2:=by
 unfold dropT
 split
 . exact h
 . split
   . rename_i j f hl
     exact h.empty (look_some hl).1
   . exact h
theorem Good.cleanB (h:Good st) (b:Nat):Good (cleanB st b):=by
 unfold Ca.cleanB
 split
 . exact h.clean _
 . exact h
theorem Good.cleans (l:List Nat):∀{st:St},Good st->Good (l.foldl Ca.cleanB st):=by
 induction l with
 |nil=>exact fun h=>h
 |cons x r ih=>exact fun h=>ih (h.cleanB x)
theorem Good.flush (h:Good st):Good (flushT st):=Good.cleans _ h
end
end Ca
end Go.Proofs.YtjpjjnalpdpljaaGreatDoor
namespace Go.Proofs.YtjpjjnalpdpljaaGreatDoor
namespace Ca
open Cn (del del_notin)
structure Sm (st:St) (K:Nat):Prop where
 r:st.r<=K
 s:st.s<=K
 p:∀(j:Nat) (f:Fr),st.fr[j]? =some (some f)->f.2.2.2<=K
theorem Sm.mono {st:St} {K K':Nat} (h:Sm st K) (hK:K<=K'):Sm st K':=⟨Nat.le_trans h.r hK,Nat.le_trans h.s hK,fun j f hf=>Nat.le_trans (h.p j f hf) hK⟩
theorem room_cost (st:St) {a:Nat} {t:St} (hr:roomT st=some (a,t)):t.r=st.r/\st.s<=t.s/\t.s<=st.s+1/\t.fr.length=st.fr.length/\t.ls.length=st.ls.length/\t.m=st.m:=by
 unfold roomT at hr
 split at hr
 . cases hr
 . split at hr
   . simp only [Option.some.injEq,Prod.mk.injEq] at hr
     obtain ⟨rfl,rfl⟩:=hr
     obtain ⟨c1,c2,c3,c4,c5,c6⟩:=clean_spec st ‹_›
     refine ⟨c3,?_,c4,by simpa [emptyT] using c6,c2,c1⟩
     show st.s<=(cleanT st _).s
     unfold cleanT
     split<;>simp
   . simp only [Option.some.injEq,Prod.mk.injEq] at hr
     obtain ⟨rfl,rfl⟩:=hr
     exact ⟨rfl,Nat.le_refl _,Nat.le_succ _,rfl,rfl,rfl⟩
structure Cost (st t:St) (R S:Nat):Prop where
 r1:st.r<=t.r
 r2:t.r<=st.r+R
 s1:st.s<=t.s
 s2:t.s<=st.s+S
 fl:t.fr.length=st.fr.length
 ll:t.ls.length=st.ls.length
 m:t.m=st.m
section
variable {st t:St}
theorem Cost.refl (st:St) (R S:Nat):Cost st st R S:=⟨Nat.le_refl _,Nat.le_add_right _ _,Nat.le_refl _,Nat.le_add_right _ _,rfl,rfl,rfl⟩
theorem cost_pin (st:St) (b:Nat):Cost st (pinT st b).2 1 1:=by
 unfold pinT
 split
 . split
   . exact ⟨Nat.le_refl _,Nat.le_succ _,Nat.le_refl _,Nat.le_succ _,by simp [fillT],rfl,rfl⟩
   . split
     . exact Cost.refl _ _ _
     . rename_i a t hr
       obtain ⟨c1,c2,c3,c4,c5,c6⟩:=room_cost st hr
       exact ⟨by show st.r<=t.r+1;omega,by show t.r+1<=st.r+1;omega,c2,c3,by simpa [fillT,readT] using c4,c5,c6⟩
 . exact Cost.refl _ _ _
theorem cost_fresh (st:St) (b:Nat):Cost st (freshT st b).2 0 1:=by
 unfold freshT
 split
 . split
   . exact Cost.refl _ _ _
   . split
     . exact ⟨Nat.le_refl _,Nat.le_refl _,Nat.le_refl _,Nat.le_succ _,by simp [fillT],rfl,rfl⟩
     . split
       . exact Cost.refl _ _ _
       . rename_i a t hr
         obtain ⟨c1,c2,c3,c4,c5,c6⟩:=room_cost st hr
         exact ⟨by show st.r<=t.r;omega,by show t.r<=st.r;omega,c2,c3,by simpa [fillT] using c4,c5,c6⟩
 . exact Cost.refl _ _ _
theorem cost_unpin (st:St) (b:Nat):Cost st (unpinT st b).2 0 0:=by
 unfold unpinT
 split
 . split
   . exact Cost.refl _ _ _
   . exact ⟨Nat.le_refl _,Nat.le_refl _,Nat.le_refl _,Nat.le_refl _,by simp,rfl,rfl⟩
 . exact Cost.refl _ _ _
theorem cost_write (st:St) (b:Nat) (y:List UInt8):Cost st (writeT st b y).2 0 0:=by
 unfold writeT
 split
 . split
   . exact Cost.refl _ _ _
   . split
     . exact ⟨Nat.le_refl _,Nat.le_refl _,Nat.le_refl _,Nat.le_refl _,by simp,rfl,rfl⟩
     . exact Cost.refl _ _ _
 . exact Cost.refl _ _ _
theorem cost_drop (st:St) (b:Nat):Cost st (dropT st b).2 0 0:=by
 unfold dropT
 split
 . exact Cost.refl _ _ _
 . split
   . exact ⟨Nat.le_refl _,Nat.le_refl _,Nat.le_refl _,Nat.le_refl _,by simp [emptyT],rfl,rfl⟩
   . exact Cost.refl _ _ _
theorem Cost.trans {u:St} {R S R' S':Nat} (h:Cost st t R S) (k:Cost t u R' S'):Cost st u (R+R') (S+S'):=by
 obtain ⟨a1,a2,a3,a4,a5,a6,a7⟩:=h
 obtain ⟨b1,b2,b3,b4,b5,b6,b7⟩:=k
 exact ⟨by omega,by omega,by omega,by omega,b5.trans a5,b6.trans a6,b7.trans a7⟩
theorem cost_cleanB (st:St) (b:Nat):Cost st (cleanB st b) 0 1:=by
 unfold cleanB
 split
 . unfold cleanT
   split
   . exact ⟨Nat.le_refl _,Nat.le_refl _,Nat.le_succ _,Nat.le_refl _,by simp,by simp,rfl⟩
   . exact Cost.refl _ _ _
 . exact Cost.refl _ _ _
theorem cost_cleans (l:List Nat):∀(st:St),Cost st (l.foldl cleanB st) 0 l.length:=by
 induction l with
 |nil=>exact fun st=>Cost.refl _ _ _
 |cons x r ih=>
  intro st
  have:=(cost_cleanB st x).trans (ih (cleanB st x))
  rw [Nat.add_comm 1] at this
  exact this
theorem sub_len:∀{l l':List Nat},l.Nodup->(∀x,x∈l->x∈l')->l.length<=l'.length:=by
 intro l
 induction l with
 |nil=>intro l' _ _;exact Nat.zero_le _
 |cons x r ih=>
  intro l' hn hs
  obtain ⟨a,b,rfl⟩:=List.append_of_mem (hs x (by simp))
  rw [List.nodup_cons] at hn
  have:=ih (l':=a++b) hn.2 fun y hy=>by
   have h1:=hs y (List.mem_cons_of_mem _ hy)
   have h2:y≠x:=by rintro rfl;exact hn.1 hy
   simp only [List.mem_append,List.mem_cons] at h1 ⊢
   rcases h1 with h1|h1|h1
   . exact .inl h1
   . exact absurd h1 h2
   . exact .inr h1
  simp at this ⊢
  omega
theorem dirty_occ (st:St):(dirtyL st).length<=occ st.fr:=by
 have:(dirtyL st).length<=((st.fr.filterMap id).map (·.1)).length:=sub_len (List.nodup_range.filter _) fun x hx=>by
  unfold dirtyL dirtyP at hx
  rw [List.mem_filter] at hx
  cases e:look st.fr x with
  |none=>rw [e] at hx;exact absurd hx.2 (by simp)
  |some y=>
   obtain ⟨hf,hb⟩:=look_some (j:=y.1) (f:=y.2) e
   rw [List.mem_map]
   exact ⟨y.2,by rw [List.mem_filterMap];exact ⟨some y.2,List.mem_of_getElem? hf,rfl⟩,hb⟩
 simpa [occ] using this
theorem cost_flush (st:St):Cost st (flushT st) 0 (dirtyL st).length:=cost_cleans _ st
theorem Sm.set {K K':Nat} (h:Sm st K) {a:Nat} {x:Option Fr} (hK:K<=K') (hx:∀f:Fr,x=some f->f.2.2.2<=K') (r s:Nat) (hr:r<=K') (hs:s<=K') (ls:List (List UInt8)) (row:List Nat):Sm { st with ls:=ls,r:=r,s:=s,fr:=st.fr.set a x,row:=row } K':=by
 refine ⟨hr,hs,fun j f hf=>?_⟩
 have hf':(st.fr.set a x)[j]? =some (some f):=hf
 rw [List.getElem?_set] at hf'
 split at hf'
 . split at hf'
   . exact hx f (by simpa using hf')
   . cases hf'
 . exact Nat.le_trans (h.p j f hf') hK
theorem Sm.clean {K:Nat} (h:Sm st K) (a:Nat):Sm (cleanT st a) (K+1):=by
 unfold cleanT
 split
 . rename_i b x p hf
   have hp:p<=K:=h.p _ _ hf
   exact h.set (Nat.le_succ _) (fun f e=>by
    obtain rfl:(b,x,false,p)=f:=by simpa using e
    exact Nat.le_trans hp (Nat.le_succ K)) _ _ (Nat.le_trans h.r (Nat.le_succ _)) (Nat.succ_le_succ h.s) _ _
 . exact h.mono (Nat.le_succ _)
theorem Sm.room {K a:Nat} (h:Sm st K) (hr:roomT st=some (a,t)):Sm t (K+1):=by
 unfold roomT at hr
 split at hr
 . cases hr
 . rename_i i hi
   split at hr
   . simp only [Option.some.injEq,Prod.mk.injEq] at hr
     obtain ⟨rfl,rfl⟩:=hr
     have hc:=h.clean i
     exact hc.set (a:=i) (x:=none) (Nat.le_refl _) (fun f e=>by cases e) _ _ hc.r hc.s _ _
   . simp only [Option.some.injEq,Prod.mk.injEq] at hr
     obtain ⟨rfl,rfl⟩:=hr
     exact h.mono (Nat.le_succ _)
theorem Sm.pin {K:Nat} (h:Sm st K) (b:Nat):Sm (pinT st b).2 (K+2):=by
 unfold pinT
 split
 . split
   . rename_i j f hl
     have hp:=h.p j f (look_some hl).1
     exact h.set (by omega) (fun g e=>by
      obtain rfl:(f.1,f.2.1,f.2.2.1,f.2.2.2+1)=g:=by simpa using e
      show f.2.2.2+1<=K+2
      omega) _ _ (Nat.le_trans h.r (by omega)) (Nat.le_trans h.s (by omega)) _ _
   . split
     . exact h.mono (by omega)
     . rename_i a t hr
       have hc:=h.room hr
       exact hc.set (a:=a) (by omega) (fun g e=>by
        obtain rfl:(b,(t.ls[b]?).getD [],false,1)=g:=by simpa using e
        show 1<=K+2
        omega) _ _ (by have:=hc.r;show t.r+1<=K+2;omega) (by have:=hc.s;show t.s<=K+2;omega) _ _
 . exact h.mono (by omega)
theorem Sm.fresh {K:Nat} (h:Sm st K) (b:Nat):Sm (freshT st b).2 (K+2):=by
 unfold freshT
 split
 . split
   . exact h.mono (by omega)
   . split
     . rename_i j f hl
       exact h.set (by omega) (fun g e=>by
        obtain rfl:(b,List.replicate st.m 0,true,1)=g:=by simpa using e
        show 1<=K+2
        omega) _ _ (Nat.le_trans h.r (by omega)) (Nat.le_trans h.s (by omega)) _ _
     . split
       . exact h.mono (by omega)
       . rename_i a t hr
         have hc:=h.room hr
         exact hc.set (a:=a) (by omega) (fun g e=>by
          obtain rfl:(b,List.replicate st.m 0,true,1)=g:=by simpa using e
          show 1<=K+2
          omega) _ _ (by have:=hc.r;omega) (by have:=hc.s;omega) _ _
 . exact h.mono (by omega)
theorem Sm.unpin {K:Nat} (h:Sm st K) (b:Nat):Sm (unpinT st b).2 K:=by
 unfold unpinT
 split
 . rename_i j f hl
   have hp:=h.p j f (look_some hl).1
   split
   . exact h
   . exact h.set (Nat.le_refl _) (fun g e=>by
      obtain rfl:(f.1,f.2.1,f.2.2.1,f.2.2.2-1)=g:=by simpa using e
      show f.2.2.2-1<=K
      omega) _ _ h.r h.s _ _
 . exact h
theorem Sm.write {K:Nat} (h:Sm st K) (b:Nat) (y:List UInt8):Sm (writeT st b y).2 K:=by
 unfold writeT
 split
 . rename_i j f hl
   have hp:=h.p j f (look_some hl).1
   split
   . exact h
   . split
     . exact h.set (Nat.le_refl _) (fun g e=>by
        obtain rfl:(f.1,y,true,f.2.2.2)=g:=by simpa using e
        exact hp) _ _ h.r h.s _ _
     . exact h
 . exact h
theorem Sm.drop {K:Nat} (h:Sm st K) (b:Nat):Sm (dropT st b).2 K:=by
 unfold dropT
 split
 . exact h
 . split
   . exact h.set (x:=none) (Nat.le_refl _) (fun g e=>by cases e) _ _ h.r h.s _ _
   . exact h
theorem Sm.cleans (l:List Nat):∀{st:St} {K:Nat},Sm st K->Sm (l.foldl cleanB st) (K+l.length):=by
 induction l with
 |nil=>exact fun h=>h
 |cons x r ih=>
  intro st K h
  have h1:Sm (cleanB st x) (K+1):=by
   unfold cleanB
   split
   . exact h.clean _
   . exact h.mono (Nat.le_succ _)
  have:=ih h1
  simp only [List.foldl_cons,List.length_cons]
  exact this.mono (by omega)
theorem Sm.flush {K:Nat} (h:Sm st K):Sm (flushT st) (K+(dirtyL st).length):=Sm.cleans _ h
end
def stepT (st:St) (k:Int) (b:Nat) (y:List UInt8):Int × St:=
 if k=0\/k=1 then pinT st b else if k=2 then freshT st b else if k=3\/k=4 then unpinT st b else if k=5\/k=6 then writeT st b y
 else if k=7 then dropT st b else if k=8 then (0,flushT st) else if k=9 then ((readP st b).2,st) else (0,st)
theorem Sm.step {st:St} {K:Nat} (h:Sm st K) (hl:st.ls.length<=12) (k:Int) (b:Nat) (y:List UInt8):Sm (stepT st k b y).2 (K+12):=by
 unfold stepT
 split
 . exact (h.pin b).mono (by omega)
 split
 . exact (h.fresh b).mono (by omega)
 split
 . exact (h.unpin b).mono (by omega)
 split
 . exact (h.write b y).mono (by omega)
 split
 . exact (h.drop b).mono (by omega)
 split
 . have:(dirtyL st).length<=(List.range st.ls.length).length:=List.length_filter_le _ _
   rw [List.length_range] at this
   exact h.flush.mono (by omega)
 split
 . exact h.mono (by omega)
 . exact h.mono (by omega)
theorem Good.step {st:St} (h:Good st) (k:Int) (b:Nat) (y:List UInt8):Good (stepT st k b y).2:=by
 unfold stepT
 split
 . exact h.pin b
 split
 . exact h.fresh b
 split
 . exact h.unpin b
 split
 . exact h.write b y
 split
 . exact h.drop b
 split
 . exact h.flush
 split
 . exact h
 . exact h
end Ca
end Go.Proofs.YtjpjjnalpdpljaaGreatDoor
