import Derived.Test.YtmcbidhpkpmalaaGreatDoorPkAA
import Derived.WalkLawsBesides
import Derived.WalkSpells
import Derived.BigQuiet
namespace Go.Proofs.YtmcbidhpkpmalaaGreatDoor
namespace Ca
open Cn (del gV)
abbrev Fr:=Nat × List UInt8 × Bool × Nat
structure St where
 m:Nat
 ls:List (List UInt8)
 r:Nat
 s:Nat
 fr:List (Option Fr)
 row:List Nat
def Uq(fr:List (Option Fr)):Prop:=∀(i j:Nat) (f f':Fr),fr[i]? =some (some f)->fr[j]? =some (some f')->f.1=f'.1->i=j
def look:List (Option Fr)->Nat->Option (Nat × Fr)
 |[],_=>none
 |none::l,b=>(look l b).map fun y=>(y.1+1,y.2)
 |some f::l,b=>if f.1=b then some (0,f)else(look l b).map fun y=>(y.1+1,y.2)
theorem aL{b j:Nat}{f:Fr}:∀{fr:List (Option Fr)},look fr b=some (j,f)->fr[j]? =some (some f)/\f.1=b:=by intro fr;induction fr generalizing j with|nil=>intro h;cases h|cons x l ih=>(intro h;cases x with|none=>simp only[look,Option.map_eq_some_iff]at h;obtain⟨y,hy,he⟩:=h;(cases he);simpa using ih hy|some g=>simp only[look]at h;split at h;(. rename_i hg;(cases h);exact⟨rfl,hg⟩);. simp only[Option.map_eq_some_iff]at h;obtain⟨y,hy,he⟩:=h;(cases he);simpa using ih hy)
theorem bL{b:Nat}:∀{fr:List (Option Fr)},look fr b=none->∀(j:Nat) (f:Fr),fr[j]? =some (some f)->f.1≠b:=by intro fr;induction fr with|nil=>intro _ j f h;simp at h|cons x l ih=>(intro h j f hj;cases x with|none=>(simp only[look,Option.map_eq_none_iff]at h;cases j with|zero=>simp at hj|succ j=>exact ih h j f (by simpa using hj))|some g=>(simp only[look]at h;split at h;(. cases h);. rename_i hg;simp only[Option.map_eq_none_iff]at h;cases j with|zero=>obtain rfl:g=f:=(by simpa using hj);exact hg|succ j=>exact ih h j f (by simpa using hj)))
theorem jd{fr:List (Option Fr)}(hU:Uq fr){j:Nat}{f:Fr}(h:fr[j]? =some (some f)):look fr f.1=some (j,f):=by cases hl:look fr f.1 with|none=>exact absurd rfl (bL hl j f h)|some y=>(obtain⟨i,g⟩:=y;obtain⟨h1,h2⟩:=aL hl;obtain rfl:=hU i j g f h1 h h2;rw[h1]at h;obtain rfl:g=f:=by simpa using h);rfl
theorem dP{fr:List (Option Fr)}{b:Nat}(h:∀(j:Nat) (f:Fr),fr[j]? =some (some f)->f.1≠b):look fr b=none:=by cases hl:look fr b with|none=>rfl|some y=>obtain⟨h1,h2⟩:=aL (j:=y.1) (f:=y.2) hl;exact absurd h2 (h _ _ h1)
def ix(fr:List (Option Fr))(b:Nat):Option Nat:=(look fr b).map (·.1)
theorem fF{α:Type}{l:List α}{i j:Nat}{x:α}:(l.set i x)[j]? =if i=j then(if j<l.length then some x else none)else l[j]? :=by rw[List.getElem?_set];by_cases h:i=j;(. subst h;simp);. simp[h]
theorem aR{α:Type}{l:List α}{i:Nat}{x:α}(h:l[i]? =some x):i<l.length:=(List.getElem?_eq_some_iff.1 h).1
theorem pK{fr:List (Option Fr)}(hU:Uq fr){a:Nat}{f:Fr}(ho:∀(j:Nat) (g:Fr),fr[j]? =some (some g)->g.1=f.1->j=a):Uq (fr.set a (some f)):=by intro i j g g' hi hj e;rw[fF]at hi hj;by_cases h1:a=i;(. by_cases h2:a=j;(. omega);. rw[if_neg h2]at hj;subst h1;rw[if_pos rfl]at hi;split at hi;(. (obtain rfl:f=g:=by simpa using hi);exact(ho j g' hj e.symm).symm);. cases hi);. rw[if_neg h1]at hi;by_cases h2:a=j;(. subst h2;rw[if_pos rfl]at hj;split at hj;(. (obtain rfl:f=g':=by simpa using hj);exact ho i g hi e);. cases hj);. rw[if_neg h2]at hj;exact hU i j g g' hi hj e
theorem sS{fr:List (Option Fr)}(hU:Uq fr)(a:Nat):Uq (fr.set a none):=by intro i j g g' hi hj e;rw[fF]at hi hj;by_cases h1:a=i;(. rw[if_pos h1]at hi;split at hi<;>cases hi);. by_cases h2:a=j;(. rw[if_pos h2]at hj;split at hj<;>cases hj);. rw[if_neg h1]at hi;rw[if_neg h2]at hj;exact hU i j g g' hi hj e
theorem kI{fr:List (Option Fr)}(hU:Uq fr){j:Nat}{f:Fr}(h:fr[j]? =some (some f)):ix fr f.1=some j:=by unfold ix;rw[jd hU h];rfl
theorem fq{fr:List (Option Fr)}{b:Nat}(h:∀(j:Nat) (f:Fr),fr[j]? =some (some f)->f.1≠b):ix fr b=none:=by unfold ix;rw[dP h];rfl
theorem Co{fr:List (Option Fr)}{b j:Nat}(h:ix fr b=some j):∃f:Fr,fr[j]? =some (some f)/\f.1=b:=by unfold ix at h;simp only[Option.map_eq_some_iff]at h;obtain⟨y,hy,he⟩:=h;subst he;exact⟨y.2,aL (j:=y.1) (f:=y.2) hy⟩
theorem Cq{fr:List (Option Fr)}{b:Nat}(h:ix fr b=none):∀(j:Nat) (f:Fr),fr[j]? =some (some f)->f.1≠b:=by unfold ix at h;simp only[Option.map_eq_none_iff]at h;exact bL h
theorem Cr{fr:List (Option Fr)}(hU:Uq fr){a:Nat}{f:Fr}(ha:a<fr.length)(ho:∀(j:Nat) (g:Fr),fr[j]? =some (some g)->g.1=f.1->j=a)(hn:∀g:Fr,fr[a]? =some (some g)->g.1=f.1)(x:Nat):
 ix (fr.set a (some f)) x=if x=f.1 then some a else ix fr x:=by
 by_cases hx:x=f.1
 . subst hx
   rw[if_pos rfl];exact kI (pK hU ho) (by rw[fF,if_pos rfl,if_pos ha])
 . rw[if_neg hx]
   cases h:ix fr x with
   |none=>
    refine fq fun j g hj=>?_;rw[fF]at hj;by_cases h1:a=j
    . subst h1
      rw[if_pos rfl,if_pos ha]at hj;obtain rfl:f=g:=(by simpa using hj);exact fun e=>hx e.symm
    . rw[if_neg h1]at hj
      exact Cq h j g hj
   |some j=>
    obtain⟨g,hg,rfl⟩:=Co h;refine kI (pK hU ho) ?_;rw[fF];by_cases h1:a=j
    . subst h1;exact absurd (hn g hg) hx
    . rw[if_neg h1];exact hg
theorem Gt{fr:List (Option Fr)}(hU:Uq fr){a:Nat}{f:Fr}(hf:fr[a]? =some (some f))(x:Nat):ix (fr.set a none) x=if x=f.1 then none else ix fr x:=by by_cases hx:x=f.1;(. subst hx;rw[if_pos rfl];refine fq fun j g hj e=>?_;rw[fF]at hj;by_cases h1:a=j;(. rw[if_pos h1]at hj;split at hj<;>cases hj);. rw[if_neg h1]at hj;exact h1 (hU a j f g hf hj e.symm));. rw[if_neg hx];cases h:ix fr x with|none=>refine fq fun j g hj=>?_;rw[fF]at hj;by_cases h1:a=j;(. rw[if_pos h1]at hj;split at hj<;>cases hj);. rw[if_neg h1]at hj;exact Cq h j g hj|some j=>obtain⟨g,hg,rfl⟩:=Co h;refine kI (sS hU a) ?_;rw[fF];by_cases h1:a=j;(. subst h1;rw[hf]at hg;obtain rfl:f=g:=(by simpa using hg);exact absurd rfl hx);. rw[if_neg h1];exact hg
def occ(fr:List (Option Fr)):Nat:=(fr.filterMap id).length
theorem sU:∀{fr:List (Option Fr)} {a:Nat} {x y:Option Fr},fr[a]? =some x->occ (fr.set a y)+(if x.isSome then 1 else 0)=occ fr+(if y.isSome then 1 else 0):=by intro fr;induction fr with|nil=>intro a x y h;simp at h|cons z l ih=>(intro a x y h;cases a with|zero=>obtain rfl:z=x:=(by simpa using h);cases z<;>cases y<;>simp[occ]|succ a=>have:= @ih a x y (by simpa using h);unfold occ at this ⊢;cases z<;>simp<;>omega)
theorem M6(fr:List (Option Fr)):occ fr<=fr.length:=List.length_filterMap_le _ _
section
variable(st:St)
def bH(b:Nat):Nat:=match look st.fr b with
 |some (_,f)=>f.2.2.2
 |none=>0
def bM(a:Nat):St:=match st.fr[a]? with
 |some (some (b,x,true,p))=>{ st with ls:=st.ls.set b x,s:=st.s+1,fr:=st.fr.set a (some (b,x,false,p)) }
 |_=>st
def jy(a:Nat):St:={ st with fr:=st.fr.set a none,row:=del st.row a++[a] }
def gI(a:Nat)(f:Fr):St:={ st with fr:=st.fr.set a (some f),row:=del st.row a }
def vC:St:={ st with r:=st.r+1 }
def gq:Option (Nat × St):=match st.row.getLast? with
 |none=>none
 |some a=>match st.fr[a]? with
  |some (some _)=>some (a,jy (bM st a) a)
  |_=>some (a,st)
def rC(b:Nat):Int × St:=
 if b<st.ls.length then
  match look st.fr b with
  |some (j,f)=>(0,gI st j (f.1,f.2.1,f.2.2.1,f.2.2.2+1))
  |none=>match gq st with
   |none=>(7,st)
   |some (a,t)=>(0,gI (vC t) a (b,(t.ls[b]?).getD [],false,1))
 else(4,st)
def fB(b:Nat):Int × St:=
 if b<st.ls.length then
  if 0<bH st b then(8,st)else
  match look st.fr b with
  |some (j,_)=>(0,gI st j (b,List.replicate st.m 0,true,1))
  |none=>match gq st with
   |none=>(7,st)
   |some (a,t)=>(0,gI t a (b,List.replicate st.m 0,true,1))
 else(4,st)
def eu(b:Nat):Int × St:=match look st.fr b with
 |some (j,f)=>if f.2.2.2=0 then(8,st)else(0,{ st with fr:=st.fr.set j (some (f.1,f.2.1,f.2.2.1,f.2.2.2-1)),row:=if f.2.2.2=1 then j::del st.row j else st.row })
 |none=>(8,st)
def eB(b:Nat)(y:List UInt8):Int × St:=match look st.fr b with
 |some (j,f)=>if f.2.2.2=0 then(8,st)else if y.length=f.2.1.length then(0,{ st with fr:=st.fr.set j (some (f.1,y,true,f.2.2.2)) })else(3,st)
 |none=>(8,st)
end
structure Good(st:St):Prop where
 n1:1<=st.fr.length
 n2:st.fr.length<=64
 uq:Uq st.fr
 blk:∀(j:Nat) (f:Fr),st.fr[j]? =some (some f)->f.1<st.ls.length/\f.2.1.length=st.m
 cl:∀(j:Nat) (f:Fr),st.fr[j]? =some (some f)->f.2.2.1=false->st.ls[f.1]? =some f.2.1
 rw:∀j:Nat,j∈st.row↔j<st.fr.length/\∀f:Fr,st.fr[j]? =some (some f)->f.2.2.2=0
 nd:st.row.Nodup
 sp:∃a e,st.row=a++e/\(∀j∈a,∃f:Fr,st.fr[j]? =some (some f))/\∀j∈e,st.fr[j]? =some none
 lm:∀l,l∈st.ls->l.length=st.m
 l32:st.ls.length<=65536
end Ca
namespace Ca
open Cn (del gV)
theorem iF{l:List Nat}{a j:Nat}:j∈del l a↔j∈l/\j≠a:=by simp[del]
theorem xG(l l':List Nat)(a:Nat):del (l++l') a=del l a++del l' a:=by simp[del]
theorem Ct{l:List Nat}(h:l.Nodup)(a:Nat):(del l a).Nodup:=h.filter _
section
variable{st:St}
theorem dQ{α:Type}{l:List α}{a j:Nat}{x:α}(h:j≠a):(l.set a x)[j]? =l[j]? :=by rw[List.getElem?_set,if_neg (fun e=>h e.symm)]
theorem fM{α:Type}{l:List α}{a:Nat}{x y:α}(h:l[a]? =some y):(l.set a x)[a]? =some x:=by rw[List.getElem?_set,if_pos rfl,if_pos (aR h)]
theorem Ke{ls:List (List UInt8)}{m b:Nat}{x:List UInt8}(h:∀l,l∈ls->l.length=m)(hx:x.length=m):∀l,l∈ls.set b x->l.length=m:=fun l hl=>by rcases List.mem_or_eq_of_mem_set hl with h'|rfl;(. exact h l h');. exact hx
theorem Good.alter(h:Good st){a:Nat}{f f':Fr}(hf:st.fr[a]? =some (some f))(h1:f'.1=f.1)(h2:f'.2.1.length=st.m)(hp:f'.2.2.2=0↔f.2.2.2=0){ls':List (List UInt8)}(hl:ls'.length=st.ls.length)(hlm:∀l,l∈ls'->l.length=st.m)
 (hc:f'.2.2.1=false->ls'[f'.1]? =some f'.2.1) (hc2:∀(j:Nat) (g:Fr),j≠a->st.fr[j]? =some (some g)->g.2.2.1=false->ls'[g.1]? =some g.2.1) (r s:Nat):Good { st with ls:=ls',r:=r,s:=s,fr:=st.fr.set a (some f') }:=by
 have hg:∀(j:Nat) (g:Fr),(st.fr.set a (some f'))[j]? =some (some g)->(j=a/\g=f')\/(j≠a/\st.fr[j]? =some (some g)):=fun j g hj=>by
  by_cases e:j=a
  . subst e
    rw[fM hf]at hj;exact .inl ⟨rfl,by simpa using hj.symm⟩
  . rw[dQ e]at hj
    exact .inr ⟨e,hj⟩
 refine⟨by simpa using h.n1,by simpa using h.n2,pK h.uq fun j g hj e=>?_,fun j g hj=>?_,fun j g hj hd=>?_,fun j=>?_,h.nd,?_,hlm,by rw[hl];exact h.l32⟩
 . exact h.uq j a g f hj hf (e.trans h1)
 . show g.1<ls'.length/\_
   rw[hl];rcases hg j g hj with⟨rfl,rfl⟩|⟨_,hj⟩
   . exact⟨by rw[h1];exact(h.blk _ _ hf).1,h2⟩
   . exact h.blk j g hj
 . rcases hg j g hj with⟨rfl,rfl⟩|⟨e,hj⟩
   . exact hc hd
   . exact hc2 j g e hj hd
 . show j∈st.row↔j<(st.fr.set a (some f')).length/\_
   rw[h.rw j,List.length_set];refine and_congr_right fun hj=>⟨fun hh g hg'=>?_,fun hh g hg'=>?_⟩
   . rcases hg j g hg' with⟨rfl,rfl⟩|⟨_,hj'⟩
     . exact hp.2 (hh f hf)
     . exact hh g hj'
   . by_cases e:j=a
     . subst e
       rw[hf]at hg';obtain rfl:f=g:=(by simpa using hg');exact hp.1 (hh f' (fM hf))
     . exact hh g (by rw[dQ e];exact hg')
 . obtain⟨x,y,e,hx,hy⟩:=h.sp
   refine⟨x,y,e,fun j hj=>?_,fun j hj=>?_⟩
   . obtain⟨g,hg'⟩:=hx j hj
     by_cases ej:j=a
     . subst ej;exact⟨f',fM hf⟩
     . exact⟨g,by rw[dQ ej];exact hg'⟩
   . have hn:=hy j hj
     have ej:j≠a:=(by rintro rfl;rw[hf]at hn;cases hn);show(st.fr.set a (some f'))[j]? =_;rw[dQ ej];exact hn
theorem Good.clean(h:Good st)(a:Nat):Good (bM st a):=by unfold bM;split;(. rename_i b x p hf;obtain⟨hb,hx⟩:=h.blk _ _ hf;refine h.alter (f':=(b,x,false,p)) hf rfl hx Iff.rfl (by simp) (Ke h.lm hx) (fun _=>?_) (fun j g e hj hd=>?_) _ _;(. rw[List.getElem?_set,if_pos rfl,if_pos hb]);. have hne:g.1≠b:=fun e'=>e (h.uq j a g _ hj hf e');rw[dQ hne];exact h.cl j g hj hd);. exact h
theorem Good.fill(h:Good st){a:Nat}{y:Option Fr}(hy:st.fr[a]? =some y){f:Fr}(h1:f.1<st.ls.length)(h2:f.2.1.length=st.m)(h3:0<f.2.2.2)(hc:f.2.2.1=false->st.ls[f.1]? =some f.2.1)(ho:∀(j:Nat) (g:Fr),st.fr[j]? =some (some g)->g.1=f.1->j=a):Good (gI st a f):=by (have hg:∀(j:Nat) (g:Fr),(st.fr.set a (some f))[j]? =some (some g)->(j=a/\g=f)\/(j≠a/\st.fr[j]? =some (some g)):=fun j g hj=>by by_cases e:j=a;(. subst e;rw[fM hy]at hj;exact .inl ⟨rfl,by simpa using hj.symm⟩);. rw[dQ e]at hj;exact .inr ⟨e,hj⟩);unfold gI;refine⟨by simpa using h.n1,by simpa using h.n2,pK h.uq ho,fun j g hj=>?_,fun j g hj hd=>?_,fun j=>?_,Ct h.nd a,?_,h.lm,h.l32⟩;(. (rcases hg j g hj with⟨rfl,rfl⟩|⟨_,hj⟩);(. exact⟨h1,h2⟩);. exact h.blk j g hj);(. (rcases hg j g hj with⟨rfl,rfl⟩|⟨e,hj⟩);(. exact hc hd);. exact h.cl j g hj hd);(. show j∈del st.row a↔j<(st.fr.set a (some f)).length/\_;rw[iF,h.rw j,List.length_set];refine⟨fun⟨⟨hj,hh⟩,hne⟩=>⟨hj,fun g hg'=>?_⟩,fun⟨hj,hh⟩=>?_⟩;(. (rcases hg j g hg' with⟨e,_⟩|⟨_,hj'⟩);(. exact absurd e hne);. exact hh g hj');. (have hne:j≠a:=by rintro rfl;have:=hh f (fM hy);omega);exact⟨⟨hj,fun g hg'=>hh g (by rw[dQ hne];exact hg')⟩,hne⟩);. obtain⟨x,z,e,hx,hz⟩:=h.sp;refine⟨del x a,del z a,by rw[e,xG],fun j hj=>?_,fun j hj=>?_⟩;(. obtain⟨hj,hne⟩:=iF.1 hj;obtain⟨g,hg'⟩:=hx j hj;exact⟨g,by rw[dQ hne];exact hg'⟩);. obtain⟨hj,hne⟩:=iF.1 hj;show(st.fr.set a (some f))[j]? =_;rw[dQ hne];exact hz j hj
theorem Good.empty(h:Good st){a:Nat}{f:Fr}(hf:st.fr[a]? =some (some f)):Good (jy st a):=by (have hg:∀(j:Nat) (g:Fr),(st.fr.set a none)[j]? =some (some g)->j≠a/\st.fr[j]? =some (some g):=fun j g hj=>by by_cases e:j=a;(. subst e;rw[fM hf]at hj;cases hj);. rw[dQ e]at hj;exact⟨e,hj⟩);unfold jy;refine⟨by simpa using h.n1,by simpa using h.n2,sS h.uq a,fun j g hj=>h.blk j g (hg j g hj).2,fun j g hj hd=>h.cl j g (hg j g hj).2 hd,fun j=>?_,?_,?_,h.lm,h.l32⟩;(. show j∈del st.row a++[a]↔j<(st.fr.set a none).length/\_;rw[List.mem_append,List.mem_singleton,iF,h.rw j,List.length_set];refine⟨fun hh=>?_,fun⟨hj,hh⟩=>?_⟩;(. (rcases hh with⟨⟨hj,hh⟩,hne⟩|rfl);(. exact⟨hj,fun g hg'=>hh g (hg j g hg').2⟩);. exact⟨aR hf,fun g hg'=>absurd rfl (hg j g hg').1⟩);. by_cases e:j=a;(. exact .inr e);. exact .inl ⟨⟨hj,fun g hg'=>hh g (by rw[dQ e];exact hg')⟩,e⟩);(. refine List.nodup_append.2 ⟨Ct h.nd a,by simp,fun x hx y hy e=>?_⟩;obtain rfl:y=a:=(by simpa using hy);exact(iF.1 hx).2 e);. obtain⟨x,z,e,hx,hz⟩:=h.sp;refine⟨del x a,del z a++[a],by rw[e,xG,List.append_assoc],fun j hj=>?_,fun j hj=>?_⟩;(. obtain⟨hj,hne⟩:=iF.1 hj;obtain⟨g,hg'⟩:=hx j hj;exact⟨g,by rw[dQ hne];exact hg'⟩);. show(st.fr.set a none)[j]? =_;rcases List.mem_append.1 hj with hj|hj;(. obtain⟨hj,hne⟩:=iF.1 hj;rw[dQ hne];exact hz j hj);. (obtain rfl:j=a:=by simpa using hj);exact fM hf
theorem Good.read(h:Good st):Good (vC st):=⟨h.n1,h.n2,h.uq,h.blk,h.cl,h.rw,h.nd,h.sp,h.lm,h.l32⟩
theorem rV(st:St)(a:Nat):(bM st a).m=st.m/\(bM st a).ls.length=st.ls.length/\(bM st a).r=st.r/\(bM st a).s<=st.s+1/\(bM st a).row=st.row/\(bM st a).fr.length=st.fr.length:=by unfold bM;split<;>simp
theorem xH{a j:Nat}(h:j≠a):(bM st a).fr[j]? =st.fr[j]? :=by unfold bM;split;(. exact dQ h);. rfl
theorem oN{a b p:Nat}{x:List UInt8}{d:Bool}(hf:st.fr[a]? =some (some (b,x,d,p))):(bM st a).fr[a]? =some (some (b,x,false,p)):=by unfold bM;rw[hf];cases d with|true=>exact fM hf|false=>exact hf
theorem gu(h:Good st){a:Nat}{t:St}(hr:gq st=some (a,t)):Good t/\t.fr[a]? =some none/\t.m=st.m/\t.ls.length=st.ls.length/\(∀(j:Nat) (g:Fr),t.fr[j]? =some (some g)->st.fr[j]? =some (some g))/\t.r=st.r/\t.s<=st.s+1:=by unfold gq at hr;split at hr;(. cases hr);. rename_i i hi;have hm:i∈st.row:=List.mem_of_getLast? hi;split at hr;(. rename_i f hf;simp only[Option.some.injEq,Prod.mk.injEq]at hr;obtain⟨rfl,rfl⟩:=hr;obtain⟨b,x,d,p⟩:=f;have hc:=oN hf;obtain⟨c1,c2,c3,c4,c5,c6⟩:=rV st i;refine⟨(h.clean i).empty hc,fM hc,c1,c2,fun j g hj=>?_,c3,c4⟩;by_cases e:j=i;(. subst e;have:(jy (bM st j) j).fr[j]? =some none:=fM hc;rw[this]at hj;cases hj);. have:(jy (bM st i) i).fr[j]? =(bM st i).fr[j]? :=dQ e;rw[this,xH e]at hj;exact hj);. rename_i hf;simp only[Option.some.injEq,Prod.mk.injEq]at hr;obtain⟨rfl,rfl⟩:=hr;refine⟨h,?_,rfl,rfl,fun _ _ hj=>hj,rfl,Nat.le_succ _⟩;have hlt:=((h.rw i).1 hm).1;cases e:st.fr[i]? with|none=>rw[List.getElem?_eq_none_iff]at e;omega|some y=>(cases y with|none=>rfl|some f=>exact absurd e (hf f))
theorem Good.pin(h:Good st)(b:Nat):Good (rC st b).2:=by unfold rC;split;(. rename_i hb;split;(. rename_i j f hl;obtain⟨hf,he⟩:=aL hl;obtain⟨k1,k2⟩:=h.blk _ _ hf;exact h.fill hf k1 k2 (by simp) (fun hd=>by have:=h.cl _ _ hf;exact this hd) (fun i g hi e=>h.uq i j g f hi hf e));. rename_i hl;have hn:=bL hl;split;(. exact h);. rename_i a t hr;obtain⟨g1,g2,g3,g4,g5,g6,g7⟩:=gu h hr;have hbt:b<t.ls.length:=(by rw[g4];exact hb);have hx:t.ls[b]? =some (t.ls[b]):=List.getElem?_eq_getElem hbt;refine Good.fill g1.read g2 hbt ?_ (by simp) (fun _=>?_) (fun i g hi e=>absurd e (hn i g (g5 i g hi)));(. show((t.ls[b]?).getD []).length=t.m;rw[hx];exact g1.lm _ (List.getElem_mem hbt));. show t.ls[b]? =some ((t.ls[b]?).getD []);rw[hx];rfl);. exact h
theorem Good.fresh(h:Good st)(b:Nat):Good (fB st b).2:=by unfold fB;split;(. rename_i hb;split;(. exact h);. split;(. rename_i j f hl;obtain⟨hf,he⟩:=aL hl;exact h.fill hf hb (by simp) (by simp) (fun hd=>by cases hd) (fun i g hi e=>h.uq i j g f hi hf (e.trans he.symm)));. rename_i hl;have hn:=bL hl;split;(. exact h);. rename_i a t hr;obtain⟨g1,g2,g3,g4,g5,g6,g7⟩:=gu h hr;exact g1.fill g2 (by rw[g4];exact hb) (by simp[g3]) (by simp) (fun hd=>by cases hd) (fun i g hi e=>absurd e (hn i g (g5 i g hi))));. exact h
theorem Good.xI(h:Good st)(b:Nat):Good (eu st b).2:=by unfold eu;split;(. rename_i j f hl;obtain⟨hf,he⟩:=aL hl;obtain⟨b',x,d,p⟩:=f;split;(. exact h);. rename_i hp;simp only at hp ⊢;by_cases hp1:p=1;(. subst hp1;simp only[if_true];(have hg:∀(i:Nat) (g:Fr),(st.fr.set j (some (b',x,d,1-1)))[i]? =some (some g)->(i=j/\g=(b',x,d,0))\/(i≠j/\st.fr[i]? =some (some g)):=fun i g hi=>by by_cases e:i=j;(. subst e;rw[fM hf]at hi;exact .inl ⟨rfl,by simpa using hi.symm⟩);. rw[dQ e]at hi;exact .inr ⟨e,hi⟩);refine⟨by simpa using h.n1,by simpa using h.n2,pK h.uq fun i g hi e=>h.uq i j g _ hi hf e,fun i g hi=>?_,fun i g hi hd=>?_,fun i=>?_,?_,?_,h.lm,h.l32⟩;(. (rcases hg i g hi with⟨rfl,rfl⟩|⟨_,hi⟩);(. have:=h.blk _ _ hf;exact this);. exact h.blk i g hi);(. (rcases hg i g hi with⟨rfl,rfl⟩|⟨_,hi⟩);(. have:=h.cl _ _ hf;exact this hd);. exact h.cl i g hi hd);(. show i∈j::del st.row j↔i<(st.fr.set j _).length/\_;rw[List.mem_cons,iF,h.rw i,List.length_set];refine⟨fun hh=>?_,fun⟨hi,hh⟩=>?_⟩;(. rcases hh with rfl|⟨⟨hi,hh⟩,hne⟩;(. refine⟨aR hf,fun g hg'=>?_⟩;(rcases hg i g hg' with⟨_,rfl⟩|⟨e,_⟩);(. rfl);. exact absurd rfl e);. refine⟨hi,fun g hg'=>?_⟩;(rcases hg i g hg' with⟨e,_⟩|⟨_,hi'⟩);(. exact absurd e hne);. exact hh g hi');. by_cases e:i=j;(. exact .inl e);. exact .inr ⟨⟨hi,fun g hg'=>hh g (by rw[dQ e];exact hg')⟩,e⟩);(. exact List.nodup_cons.2 ⟨gV _ _,Ct h.nd j⟩);. obtain⟨y,z,e,hy,hz⟩:=h.sp;refine⟨j::del y j,del z j,by rw[e,xG];rfl,fun i hi=>?_,fun i hi=>?_⟩;(. rcases List.mem_cons.1 hi with rfl|hi;(. exact⟨_,fM hf⟩);. obtain⟨hi,hne⟩:=iF.1 hi;obtain⟨g,hg'⟩:=hy i hi;exact⟨g,by rw[dQ hne];exact hg'⟩);. obtain⟨hi,hne⟩:=iF.1 hi;show(st.fr.set j _)[i]? =_;rw[dQ hne];exact hz i hi);. simp only[if_neg hp1];exact h.alter (f':=(b',x,d,p-1)) hf rfl (h.blk _ _ hf).2 (by simp;omega) rfl h.lm (fun hd=>by have:=h.cl _ _ hf;exact this hd) (fun i g _ hi hd=>h.cl i g hi hd) _ _);. exact h
theorem Good.write(h:Good st)(b:Nat)(y:List UInt8):Good (eB st b y).2:=by unfold eB;split;(. rename_i j f hl;obtain⟨hf,he⟩:=aL hl;split;(. exact h);. split;(. rename_i hy;exact h.alter (f':=(f.1,y,true,f.2.2.2)) hf rfl (hy.trans (h.blk _ _ hf).2) Iff.rfl rfl h.lm (fun hd=>by cases hd) (fun i g _ hi hd=>h.cl i g hi hd) _ _);. exact h);. exact h
end
end Ca
namespace Ca
open Cn (del gV)
structure Sm(st:St)(K:Nat):Prop where
 r:st.r<=K
 s:st.s<=K
 p:∀(j:Nat) (f:Fr),st.fr[j]? =some (some f)->f.2.2.2<=K
theorem Sm.mono{st:St}{K K':Nat}(h:Sm st K)(hK:K<=K'):Sm st K':=⟨Nat.le_trans h.r hK,Nat.le_trans h.s hK,fun j f hf=>Nat.le_trans (h.p j f hf) hK⟩
theorem vD(st:St){a:Nat}{t:St}(hr:gq st=some (a,t)):t.r=st.r/\st.s<=t.s/\t.s<=st.s+1/\t.fr.length=st.fr.length/\t.ls.length=st.ls.length/\t.m=st.m:=by unfold gq at hr;split at hr;(. cases hr);. split at hr;(. simp only[Option.some.injEq,Prod.mk.injEq]at hr;obtain⟨rfl,rfl⟩:=hr;obtain⟨c1,c2,c3,c4,c5,c6⟩:=rV st ‹_›;refine⟨c3,?_,c4,by simpa[jy]using c6,c2,c1⟩;show st.s<=(bM st _).s;unfold bM;split<;>simp);. simp only[Option.some.injEq,Prod.mk.injEq]at hr;obtain⟨rfl,rfl⟩:=hr;exact⟨rfl,Nat.le_refl _,Nat.le_succ _,rfl,rfl,rfl⟩
structure lN(st t:St)(R S:Nat):Prop where
 r1:st.r<=t.r
 r2:t.r<=st.r+R
 s1:st.s<=t.s
 s2:t.s<=st.s+S
 fl:t.fr.length=st.fr.length
 ll:t.ls.length=st.ls.length
 m:t.m=st.m
section
variable{st t:St}
theorem lN.refl(st:St)(R S:Nat):lN st st R S:=⟨Nat.le_refl _,Nat.le_add_right _ _,Nat.le_refl _,Nat.le_add_right _ _,rfl,rfl,rfl⟩
theorem Gu(st:St)(b:Nat):lN st (rC st b).2 1 1:=by unfold rC;split;(. split;(. exact⟨Nat.le_refl _,Nat.le_succ _,Nat.le_refl _,Nat.le_succ _,by simp[gI],rfl,rfl⟩);. split;(. exact lN.refl _ _ _);. rename_i a t hr;obtain⟨c1,c2,c3,c4,c5,c6⟩:=vD st hr;exact⟨by show st.r<=t.r+1;omega,by show t.r+1<=st.r+1;omega,c2,c3,by simpa[gI,vC]using c4,c5,c6⟩);. exact lN.refl _ _ _
theorem Aw(st:St)(b:Nat):lN st (fB st b).2 0 1:=by unfold fB;split;(. split;(. exact lN.refl _ _ _);. split;(. exact⟨Nat.le_refl _,Nat.le_refl _,Nat.le_refl _,Nat.le_succ _,by simp[gI],rfl,rfl⟩);. split;(. exact lN.refl _ _ _);. rename_i a t hr;obtain⟨c1,c2,c3,c4,c5,c6⟩:=vD st hr;exact⟨by show st.r<=t.r;omega,by show t.r<=st.r;omega,c2,c3,by simpa[gI]using c4,c5,c6⟩);. exact lN.refl _ _ _
theorem Ay(st:St)(b:Nat):lN st (eu st b).2 0 0:=by unfold eu;split;(. split;(. exact lN.refl _ _ _);. exact⟨Nat.le_refl _,Nat.le_refl _,Nat.le_refl _,Nat.le_refl _,by simp,rfl,rfl⟩);. exact lN.refl _ _ _
theorem Az(st:St)(b:Nat)(y:List UInt8):lN st (eB st b y).2 0 0:=by unfold eB;split;(. split;(. exact lN.refl _ _ _);. split;(. exact⟨Nat.le_refl _,Nat.le_refl _,Nat.le_refl _,Nat.le_refl _,by simp,rfl,rfl⟩);. exact lN.refl _ _ _);. exact lN.refl _ _ _
theorem Sm.set{K K':Nat}(h:Sm st K){a:Nat}{x:Option Fr}(hK:K<=K')(hx:∀f:Fr,x=some f->f.2.2.2<=K')(r s:Nat)(hr:r<=K')(hs:s<=K')(ls:List (List UInt8))(row:List Nat):Sm { st with ls:=ls,r:=r,s:=s,fr:=st.fr.set a x,row:=row } K':=by refine⟨hr,hs,fun j f hf=>?_⟩;have hf':(st.fr.set a x)[j]? =some (some f):=hf;rw[List.getElem?_set]at hf';split at hf';(. split at hf';(. exact hx f (by simpa using hf'));. cases hf');. exact Nat.le_trans (h.p j f hf') hK
theorem Sm.clean{K:Nat}(h:Sm st K)(a:Nat):Sm (bM st a) (K+1):=by unfold bM;split;(. rename_i b x p hf;have hp:p<=K:=h.p _ _ hf;exact h.set (Nat.le_succ _) (fun f e=>by (obtain rfl:(b,x,false,p)=f:=by simpa using e);exact Nat.le_trans hp (Nat.le_succ K)) _ _ (Nat.le_trans h.r (Nat.le_succ _)) (Nat.succ_le_succ h.s) _ _);. exact h.mono (Nat.le_succ _)
theorem Sm.room{K a:Nat}(h:Sm st K)(hr:gq st=some (a,t)):Sm t (K+1):=by unfold gq at hr;split at hr;(. cases hr);. rename_i i hi;split at hr;(. simp only[Option.some.injEq,Prod.mk.injEq]at hr;obtain⟨rfl,rfl⟩:=hr;have hc:=h.clean i;exact hc.set (a:=i) (x:=none) (Nat.le_refl _) (fun f e=>by cases e) _ _ hc.r hc.s _ _);. simp only[Option.some.injEq,Prod.mk.injEq]at hr;obtain⟨rfl,rfl⟩:=hr;exact h.mono (Nat.le_succ _)
theorem Sm.pin{K:Nat}(h:Sm st K)(b:Nat):Sm (rC st b).2 (K+2):=by unfold rC;split;(. split;(. rename_i j f hl;have hp:=h.p j f (aL hl).1;exact h.set (by omega) (fun g e=>by obtain rfl:(f.1,f.2.1,f.2.2.1,f.2.2.2+1)=g:=(by simpa using e);show f.2.2.2+1<=K+2;omega) _ _ (Nat.le_trans h.r (by omega)) (Nat.le_trans h.s (by omega)) _ _);. split;(. exact h.mono (by omega));. rename_i a t hr;have hc:=h.room hr;exact hc.set (a:=a) (by omega) (fun g e=>by obtain rfl:(b,(t.ls[b]?).getD [],false,1)=g:=(by simpa using e);show 1<=K+2;omega) _ _ (by have:=hc.r;show t.r+1<=K+2;omega) (by have:=hc.s;show t.s<=K+2;omega) _ _);. exact h.mono (by omega)
theorem Sm.fresh{K:Nat}(h:Sm st K)(b:Nat):Sm (fB st b).2 (K+2):=by unfold fB;split;(. split;(. exact h.mono (by omega));. split;(. rename_i j f hl;exact h.set (by omega) (fun g e=>by obtain rfl:(b,List.replicate st.m 0,true,1)=g:=(by simpa using e);show 1<=K+2;omega) _ _ (Nat.le_trans h.r (by omega)) (Nat.le_trans h.s (by omega)) _ _);. split;(. exact h.mono (by omega));. rename_i a t hr;have hc:=h.room hr;exact hc.set (a:=a) (by omega) (fun g e=>by obtain rfl:(b,List.replicate st.m 0,true,1)=g:=(by simpa using e);show 1<=K+2;omega) _ _ (by have:=hc.r;omega) (by have:=hc.s;omega) _ _);. exact h.mono (by omega)
theorem Sm.xI{K:Nat}(h:Sm st K)(b:Nat):Sm (eu st b).2 K:=by unfold eu;split;(. rename_i j f hl;have hp:=h.p j f (aL hl).1;split;(. exact h);. exact h.set (Nat.le_refl _) (fun g e=>by obtain rfl:(f.1,f.2.1,f.2.2.1,f.2.2.2-1)=g:=(by simpa using e);show f.2.2.2-1<=K;omega) _ _ h.r h.s _ _);. exact h
theorem Sm.write{K:Nat}(h:Sm st K)(b:Nat)(y:List UInt8):Sm (eB st b y).2 K:=by unfold eB;split;(. rename_i j f hl;have hp:=h.p j f (aL hl).1;split;(. exact h);. split;(. exact h.set (Nat.le_refl _) (fun g e=>by (obtain rfl:(f.1,y,true,f.2.2.2)=g:=by simpa using e);exact hp) _ _ h.r h.s _ _);. exact h);. exact h
end
end Ca
namespace Ca
open Cn (del gV)
theorem lS{fr:List (Option Fr)}(hU:Uq fr){a:Nat}{f:Fr}(ha:a<fr.length)(ho:∀(j:Nat) (g:Fr),fr[j]? =some (some g)->g.1=f.1->j=a)(hn:∀g:Fr,fr[a]? =some (some g)->g.1=f.1)(x:Nat):
 look (fr.set a (some f)) x=if x=f.1 then some (a,f)else look fr x:=by
 by_cases hx:x=f.1
 . subst hx
   rw[if_pos rfl];exact jd (pK hU ho) (by rw[fF,if_pos rfl,if_pos ha])
 . rw[if_neg hx]
   cases h:look fr x with
   |none=>
    refine dP fun j g hj=>?_;rw[fF]at hj;by_cases h1:a=j
    . subst h1
      rw[if_pos rfl,if_pos ha]at hj;obtain rfl:f=g:=(by simpa using hj);exact fun e=>hx e.symm
    . rw[if_neg h1]at hj
      exact bL h j g hj
   |some y=>
    obtain⟨j,g⟩:=y;obtain⟨hg,rfl⟩:=aL h;refine jd (pK hU ho) ?_;rw[fF];by_cases h1:a=j
    . subst h1;exact absurd (hn g hg) hx
    . rw[if_neg h1];exact hg
theorem rW{fr:List (Option Fr)}(hU:Uq fr){a:Nat}{f:Fr}(hf:fr[a]? =some (some f))(x:Nat):look (fr.set a none) x=if x=f.1 then none else look fr x:=by by_cases hx:x=f.1;(. subst hx;rw[if_pos rfl];refine dP fun j g hj e=>?_;rw[fF]at hj;by_cases h1:a=j;(. rw[if_pos h1]at hj;split at hj<;>cases hj);. rw[if_neg h1]at hj;exact h1 (hU a j f g hf hj e.symm));. rw[if_neg hx];cases h:look fr x with|none=>refine dP fun j g hj=>?_;rw[fF]at hj;by_cases h1:a=j;(. rw[if_pos h1]at hj;split at hj<;>cases hj);. rw[if_neg h1]at hj;exact bL h j g hj|some y=>obtain⟨j,g⟩:=y;obtain⟨hg,rfl⟩:=aL h;refine jd (sS hU a) ?_;rw[fF];by_cases h1:a=j;(. subst h1;rw[hf]at hg;obtain rfl:f=g:=(by simpa using hg);exact absurd rfl hx);. rw[if_neg h1];exact hg
theorem eD{fr:List (Option Fr)}(hU:Uq fr){a:Nat}{f f':Fr}(hf:fr[a]? =some (some f))(h1:f'.1=f.1)(x:Nat):look (fr.set a (some f')) x=if x=f.1 then some (a,f')else look fr x:=by rw[lS hU (aR hf) (fun j g hj e=>hU j a g f hj hf (e.trans h1)) (fun g hg=>by rw[hf]at hg;cases hg;exact h1.symm),h1]
def cur(st:St)(i:Nat):List UInt8:=match look st.fr i with
 |some (_,f)=>f.2.1
 |none=>(st.ls[i]?).getD []
section
variable{st t:St}
theorem yY{i j:Nat}{f:Fr}(h:look st.fr i=some (j,f)):cur st i=f.2.1:=by unfold cur;rw[h]
theorem yZ{i:Nat}(h:look st.fr i=none):cur st i=(st.ls[i]?).getD []:=by unfold cur;rw[h]
theorem Cu(h:Good st)(a i:Nat):cur (bM st a) i=cur st i:=by unfold bM;split;(. rename_i b x p hf;have hl:=eD (f':=(b,x,false,p)) h.uq hf rfl i;unfold cur;simp only[hl];by_cases e:i=b;(. subst e;rw[if_pos rfl,jd h.uq hf]);. rw[if_neg e];cases look st.fr i with|none=>simp only;rw[List.getElem?_set,if_neg (fun e'=>e e'.symm)]|some y=>rfl);. rfl
theorem Cv(h:Good st){a:Nat}{f:Fr}(hf:st.fr[a]? =some (some f))(hd:f.2.2.1=false)(i:Nat):cur (jy st a) i=cur st i:=by have hl:=rW h.uq hf i;unfold jy cur;simp only[hl];by_cases e:i=f.1;(. subst e;rw[if_pos rfl,jd h.uq hf];simp only;rw[h.cl _ _ hf hd];rfl);. rw[if_neg e]
theorem y7(h:Good st){a:Nat}(hr:gq st=some (a,t))(i:Nat):cur t i=cur st i:=by unfold gq at hr;split at hr;(. cases hr);. split at hr;(. rename_i f hf;simp only[Option.some.injEq,Prod.mk.injEq]at hr;obtain⟨rfl,rfl⟩:=hr;obtain⟨b,x,d,p⟩:=f;rw[Cv (h.clean _) (oN hf) rfl,Cu h]);. simp only[Option.some.injEq,Prod.mk.injEq]at hr;obtain⟨rfl,rfl⟩:=hr;rfl
theorem Kg(h:Good st)(b i:Nat):cur (rC st b).2 i=cur st i:=by unfold rC;split;(. rename_i hb;split;(. rename_i j f hl;obtain⟨hf,rfl⟩:=aL hl;have:=eD (f':=(f.1,f.2.1,f.2.2.1,f.2.2.2+1)) h.uq hf rfl i;unfold gI cur;simp only[this];by_cases e:i=f.1;(. subst e;rw[if_pos rfl,hl]);. rw[if_neg e]);. rename_i hl;split;(. rfl);. rename_i a t hr;obtain⟨g1,g2,g3,g4,g5,g6,g7⟩:=gu h hr;have hn:=bL hl;have hlt:look t.fr b=none:=dP fun j g hj=>hn j g (g5 j g hj);have:=lS (f:=(b,(t.ls[b]?).getD [],false,1)) g1.uq (aR g2) (fun j g hj e=>absurd e (hn j g (g5 j g hj))) (fun g hg=>by rw[g2]at hg;cases hg) i;rw[<-y7 h hr i];show cur (gI (vC t) a (b,(t.ls[b]?).getD [],false,1)) i=_;unfold gI vC cur;simp only[this];by_cases e:i=b;(. subst e;rw[if_pos rfl,hlt]);. rw[if_neg e]);. rfl
theorem Cx(h:Good st)(b i:Nat):cur (fB st b).2 i=if (fB st b).1=0/\i=b then List.replicate st.m 0 else cur st i:=by unfold fB;split;(. rename_i hb;split;(. simp);. split;(. rename_i j f hl;obtain⟨hf,rfl⟩:=aL hl;have:=eD (f':=(f.1,List.replicate st.m 0,true,1)) h.uq hf rfl i;unfold gI;simp only[true_and];unfold cur;simp only[this];by_cases e:i=f.1;(. subst e;rw[if_pos rfl,if_pos rfl]);. rw[if_neg e,if_neg e]);. rename_i hl;split;(. simp);. rename_i a t hr;obtain⟨g1,g2,g3,g4,g5,g6,g7⟩:=gu h hr;have hn:=bL hl;have:=lS (f:=(b,List.replicate st.m 0,true,1)) g1.uq (aR g2) (fun j g hj e=>absurd e (hn j g (g5 j g hj))) (fun g hg=>by rw[g2]at hg;cases hg) i;rw[<-y7 h hr i];unfold gI;simp only[true_and];unfold cur;simp only[this];by_cases e:i=b;(. subst e;rw[if_pos rfl,if_pos rfl]);. rw[if_neg e,if_neg e]);. simp
theorem Cy(h:Good st)(b i:Nat):cur (eu st b).2 i=cur st i:=by unfold eu;split;(. rename_i j f hl;obtain⟨hf,rfl⟩:=aL hl;split;(. rfl);. have:=eD (f':=(f.1,f.2.1,f.2.2.1,f.2.2.2-1)) h.uq hf rfl i;unfold cur;simp only[this];by_cases e:i=f.1;(. subst e;rw[if_pos rfl,hl]);. rw[if_neg e]);. rfl
theorem Cz(h:Good st)(b:Nat)(y:List UInt8)(i:Nat):cur (eB st b y).2 i=if (eB st b y).1=0/\i=b then y else cur st i:=by unfold eB;split;(. rename_i j f hl;obtain⟨hf,rfl⟩:=aL hl;split;(. simp);. split;(. have:=eD (f':=(f.1,y,true,f.2.2.2)) h.uq hf rfl i;simp only[true_and];unfold cur;simp only[this];by_cases e:i=f.1;(. subst e;rw[if_pos rfl,if_pos rfl]);. rw[if_neg e,if_neg e]);. simp);. simp
end
end Ca
end Go.Proofs.YtmcbidhpkpmalaaGreatDoor
namespace Go.Proofs.YtmcbidhpkpmalaaGreatDoor
open Go.RowKit
namespace Po
open Mem
theorem Kh:(Tryz.prog.info? 30).map (fun i=>(i.zero,i.size,i.bytes))=some (some (.int .u32 0),1,4):=by kernel_rfl
def Qa(x:Nat):Value:= .int .u32 (x:Int)
end Po
end Go.Proofs.YtmcbidhpkpmalaaGreatDoor
namespace Go.Proofs.YtmcbidhpkpmalaaGreatDoor
namespace Hp
section
variable{α:Type}[Inhabited α]
def gt(l:List α)(i:Nat):α:=l.getD i default
def swp(l:List α)(i j:Nat):List α:=(l.set i (gt l j)).set j (gt l i)
theorem jG{l:List α}{i:Nat}(h:i<l.length):gt l i=l[i]:=by simp[gt,h]
theorem Ki(l:List α)(i j:Nat):(swp l i j).length=l.length:=by simp[swp]
theorem Gv{l:List α}{i j:Nat}(hi:i<l.length)(hj:j<l.length):(swp l i j).Perm l:=by unfold swp;rw[jG hi,jG hj];exact List.set_set_perm hi hj
theorem jH{l:List α}{i j:Nat}(hi:i<l.length)(hj:j<l.length)(k:Nat):gt (swp l i j) k=if k=j then gt l i else if k=i then gt l j else gt l k:=by unfold swp gt;by_cases h1:k=j;(. subst h1;simp[hj]);. rw[if_neg h1];by_cases h2:k=i;(. subst h2;have h3:¬j=k:=fun e=>h1 e.symm;simp[hi,h3]);. have h3:¬j=k:=fun e=>h1 e.symm;have h4:¬i=k:=fun e=>h2 e.symm;simp[h2,h3,h4]
structure Ord(lt:α->α->Bool):Prop where
 asym:∀a b,lt a b=true->lt b a=false
 trans:∀a b c,lt b a=false->lt c b=false->lt c a=false
def HpF(lt:α->α->Bool)(l:List α)(n k:Nat):Prop:=∀j,0<j->j<n->k<=(j-1) / 2->lt (gt l j) (gt l ((j-1) / 2))=false
structure Sf(lt:α->α->Bool)(l:List α)(n k i:Nat):Prop where
 le:k<=i
 most:∀j,0<j->j<n->k<=(j-1) / 2->(j-1) / 2≠i->lt (gt l j) (gt l ((j-1) / 2))=false
 over:k<i->∀j,0<j->j<n->(j-1) / 2=i->lt (gt l j) (gt l ((i-1) / 2))=false
variable{lt:α->α->Bool}{l:List α}{n k i:Nat}
theorem HpF.sf(h:HpF lt l n (k+1)):Sf lt l n k k:=⟨Nat.le_refl _,fun j h1 h2 h3 h4=>h j h1 h2 (by omega),fun h0=>by omega⟩
theorem Sf.stop(h:Sf lt l n k i)(hc:∀j,0<j->j<n->(j-1) / 2=i->lt (gt l j) (gt l i)=false):HpF lt l n k:=fun j h1 h2 h3=>by by_cases e:(j-1) / 2=i;(. rw[e];exact hc j h1 h2 e);. exact h.most j h1 h2 h3 e
theorem Sf.step(ho:Ord lt)(h:Sf lt l n k i)(hn:n<=l.length){j:Nat}(h0:0<j)(hj:j<n)(hp:(j-1) / 2=i)(hlt:lt (gt l j) (gt l i)=true)(hc:∀c,0<c->c<n->(c-1) / 2=i->lt (gt l c) (gt l j)=false):Sf lt (swp l i j) n k j:=by (have hij:i<j:=by omega);have hk:=h.le;have G:=jH (l:=l) (i:=i) (j:=j) (by omega) (by omega);refine⟨by omega,fun c h1 h2 h3 h4=>?_,fun _ c h1 h2 h3=>?_⟩;(. rw[G c,G ((c-1) / 2),if_neg h4];by_cases e:(c-1) / 2=i;(. rw[if_pos e];by_cases e2:c=j;(. rw[if_pos e2];exact ho.asym _ _ hlt);. rw[if_neg e2,if_neg (by omega)];exact hc c h1 h2 e);. rw[if_neg e,if_neg (by intro e2;subst e2;omega)];by_cases e2:c=i;(. rw[if_pos e2];subst e2;exact h.over (by omega) j h0 hj hp);. rw[if_neg e2];exact h.most c h1 h2 h3 e);. rw[G c,G ((j-1) / 2),hp,if_neg (by omega),if_neg (by omega),if_neg (by omega),if_pos rfl];have:=h.most c h1 h2 (by omega) (by omega);rw[h3]at this;exact this
theorem HpF.root(ho:Ord lt)(hs:∀a,lt a a=false)(h:HpF lt l n 0):∀m j,j<m->j<n->lt (gt l j) (gt l 0)=false
 |0,j,hm,_=>by omega
 |m+1,j,hm,hj=>by by_cases h0:j=0;(. subst h0;exact hs _);. exact ho.trans _ _ _ (HpF.root ho hs h m ((j-1) / 2) (by omega) (by omega)) (h j (by omega) hj (Nat.zero_le _))
theorem HpF.Gw(h:HpF lt l (n+1) 0)(hn:n<l.length):HpF lt (swp l 0 n) n 1:=fun j h1 h2 h3=>by have G:=jH (l:=l) (i:=0) (j:=n) (by omega) hn;rw[G j,G ((j-1) / 2),if_neg (by omega),if_neg (by omega),if_neg (by omega),if_neg (by omega)];exact h j h1 (by omega) (by omega)
end
end Hp
namespace Pq
open Hp
structure Mvd(l L:List Nat)(a b:Nat):Prop where
 perm:L.Perm l
 out:∀k,k<a\/b<=k->gt L k=gt l k
section
variable{l L M:List Nat}{a b:Nat}
theorem Mvd.refl(l:List Nat)(a b:Nat):Mvd l l a b:=⟨List.Perm.refl _,fun _ _=>rfl⟩
theorem Mvd.len(h:Mvd l L a b):L.length=l.length:=h.perm.length_eq
theorem Mvd.trans(h:Mvd l L a b)(g:Mvd L M a b):Mvd l M a b:=⟨g.perm.trans h.perm,fun k hk=>(g.out k hk).trans (h.out k hk)⟩
theorem Mvd.mono{a' b':Nat}(h:Mvd l L a b)(ha:a'<=a)(hb:b<=b'):Mvd l L a' b':=⟨h.perm,fun k hk=>h.out k (by omega)⟩
theorem Mvd.swp{i j:Nat}(hb:b<=l.length)(hi:a<=i)(hi2:i<b)(hj:a<=j)(hj2:j<b):Mvd l (swp l i j) a b:=
 ⟨Gv (by omega) (by omega),fun k hk=>by
   rw[jH (by omega) (by omega),if_neg (by omega),if_neg (by omega)]⟩
theorem Mvd.swap{i j:Nat}(h:Mvd l L a b)(hb:b<=l.length)(hi:a<=i)(hi2:i<b)(hj:a<=j)(hj2:j<b):Mvd l (Hp.swp L i j) a b:=
 h.trans (Mvd.swp (by rw[h.len];exact hb) hi hi2 hj hj2)
theorem y8{A B:List Nat}(hl:A.length=B.length)(h:∀k,k<A.length->gt A k=gt B k):A=B:=by refine List.ext_getElem hl fun k h1 h2=>?_;have:=h k h1;rwa [jG h1,jG h2]at this
theorem sV{n k:Nat}(hk:k<n):gt (l.take n) k=gt l k:=by unfold gt;rw[List.getD_eq_getElem?_getD,List.getD_eq_getElem?_getD,List.getElem?_take,if_pos hk]
theorem iG(n k:Nat):gt (l.drop n) k=gt l (n+k):=by unfold gt;rw[List.getD_eq_getElem?_getD,List.getD_eq_getElem?_getD,List.getElem?_drop]
theorem Mvd.ex(h:Mvd l L a b)(hb:b<=l.length){k:Nat}(hk:a<=k)(hk2:k<b):∃j,a<=j/\j<b/\gt L k=gt l j:=by have hl:=h.len;(have e1:L.take a=l.take a:=y8 (by simp[hl]) fun j hj=>by (have hja:j<a:=by simp at hj;omega);rw[sV hja,sV hja];exact h.out j (.inl hja));(have e2:L.drop b=l.drop b:=y8 (by simp[hl]) fun j _=>by rw[iG,iG];exact h.out _ (.inr (by omega)));(have s1:∀X:List Nat,X=X.take a++((X.drop a).take (b-a)++X.drop b):=fun X=>by (have:X.drop b=(X.drop a).drop (b-a):=by rw[List.drop_drop,show a+(b-a)=b by omega]);rw[this,List.take_append_drop,List.take_append_drop]);have hp:=h.perm;rw[s1 L,s1 l,e1,e2,List.perm_append_left_iff,List.perm_append_right_iff]at hp;(have hm:gt L k∈(L.drop a).take (b-a):=by (have:gt ((L.drop a).take (b-a)) (k-a)=gt L k:=by rw[sV (by omega),iG,show a+(k-a)=k by omega]);rw[<-this,jG (by simp;omega)];exact List.getElem_mem _);(obtain⟨i,hi,e⟩:=List.mem_iff_getElem.1 (hp.mem_iff.1 hm);have hi2:i<b-a:=by simp at hi;omega);refine⟨a+i,by omega,by omega,?_⟩;rw[<-e,<-jG hi,sV hi2,iG]
def Adj(l:List Nat)(a b:Nat):Prop:=∀i,a<i->i<b->gt l (i-1)<=gt l i
def y9(l:List Nat)(a b:Nat):Prop:=∀i j,a<=i->i<j->j<b->gt l i<=gt l j
theorem Adj.ord(h:Adj l a b):y9 l a b:=fun i j h1 h2 h3=>by induction j with|zero=>omega|succ j ih=>have:=h (j+1) (by omega) h3;rw[Nat.add_sub_cancel]at this;by_cases e:i=j;(. rw[e];exact this);. exact Nat.le_trans (ih (by omega) (by omega)) this
structure Ins(l:List Nat)(a i j:Nat):Prop where
 adj:∀k,a<k->k<=i->k≠j->gt l (k-1)<=gt l k
 gap:a<j->j<i->gt l (j-1)<=gt l (j+1)
theorem Ins.start{i:Nat}(h:Adj l a i):Ins l a i i:=⟨fun k h1 h2 h3=>h k h1 (by omega),fun _ h2=>by omega⟩
theorem Ins.stop{i j:Nat}(h:Ins l a i j)(hj:j<=a\/gt l (j-1)<=gt l j):Adj l a (i+1):=fun k h1 h2=>by by_cases e:k=j;(. subst e;rcases hj with hj|hj;(. omega);. exact hj);. exact h.adj k h1 (by omega) e
theorem Ins.step{i j:Nat}(h:Ins l a i (j+1))(haj:a<=j)(hji:j+1<=i)(hi:i<l.length)(hlt:gt l (j+1)<gt l j):Ins (Hp.swp l (j+1) j) a i j:=by have G:=jH (l:=l) (i:=j+1) (j:=j) (by omega) (by omega);refine⟨fun k h1 h2 h3=>?_,fun h1 h2=>?_⟩;(. by_cases e1:k=j+1;(. subst e1;rw[G,G,if_pos (by omega),if_neg (by omega),if_pos rfl];exact Nat.le_of_lt hlt);. by_cases e2:k=j+2;(. subst e2;rw[G,G,if_neg (by omega),if_pos (by omega),if_neg (by omega),if_neg (by omega)];have:=h.gap (by omega) (by omega);rwa [Nat.add_sub_cancel]at this);. rw[G,G,if_neg (by omega),if_neg (by omega),if_neg (by omega),if_neg (by omega)];exact h.adj k h1 h2 e1);. rw[G,G,if_neg (by omega),if_neg (by omega),if_neg (by omega),if_pos rfl];exact h.adj j h1 (by omega) (by omega)
structure Pt(l:List Nat)(a b i j:Nat):Prop where
 ai:a<i
 ij:i<=j+1
 jb:j<b
 lo:∀k,a<k->k<i->gt l k<gt l a
 hi:∀k,j<k->k<b->gt l a<=gt l k
theorem Pt.up{i j:Nat}(h:Pt l a b i j)(hij:i<=j)(hx:gt l i<gt l a):Pt l a b (i+1) j:=⟨by have:=h.ai;omega,by omega,h.jb,fun k h1 h2=>by by_cases e:k=i;(. rw[e];exact hx);. exact h.lo k h1 (by omega),h.hi⟩
theorem Pt.down{i j:Nat}(h:Pt l a b i (j+1))(hij:i<=j+1)(hx:gt l a<=gt l (j+1)):Pt l a b i j:=⟨h.ai,by omega,by have:=h.jb;omega,h.lo,fun k h1 h2=>by by_cases e:k=j+1;(. rw[e];exact hx);. exact h.hi k (by omega) h2⟩
theorem Pt.swap{i j:Nat}(h:Pt l a b i (j+1))(hij:i<=j+1)(hb:b<=l.length)(hx:¬gt l i<gt l a)(hy:¬gt l a<=gt l (j+1)):Pt (Hp.swp l i (j+1)) a b (i+1) j:=by have h1:=h.ai;have h2:=h.jb;(have hne:i≠j+1:=fun e=>by subst e;omega);(have G:=jH (l:=l) (i:=i) (j:=j+1) (by omega) (by omega);have ga:gt (Hp.swp l i (j+1)) a=gt l a:=by rw[G,if_neg (by omega),if_neg (by omega)]);refine⟨by omega,by omega,by omega,fun k h3 h4=>?_,fun k h3 h4=>?_⟩;(. rw[ga,G,if_neg (by omega)];by_cases e:k=i;(. rw[if_pos e];omega);. rw[if_neg e];exact h.lo k h3 (by omega));. rw[ga,G];by_cases e:k=j+1;(. rw[if_pos e];omega);. rw[if_neg e,if_neg (by omega)];exact h.hi k (by omega) h4
structure fO(l:List Nat)(a b m:Nat):Prop where
 am:a<=m
 mb:m<b
 lo:∀k,a<=k->k<m->gt l k<=gt l m
 hi:∀k,m<k->k<b->gt l m<=gt l k
theorem Pt.done{i j:Nat}(h:Pt l a b i j)(hij:j<i)(hb:b<=l.length):fO (Hp.swp l j a) a b j:=by have h1:=h.ai;have h2:=h.jb;have h3:=h.ij;have G:=jH (l:=l) (i:=j) (j:=a) (by omega) (by omega);(have gj:gt (Hp.swp l j a) j=gt l a:=by rw[G];by_cases e:j=a;(. rw[if_pos e,e]);. rw[if_neg e,if_pos rfl]);refine⟨by omega,h2,fun k h4 h5=>?_,fun k h4 h5=>?_⟩;(. rw[gj,G];by_cases e:k=a;(. rw[if_pos e];exact Nat.le_of_lt (h.lo j (by omega) (by omega)));. rw[if_neg e,if_neg (by omega)];exact Nat.le_of_lt (h.lo k (by omega) (by omega)));. rw[gj,G,if_neg (by omega),if_neg (by omega)];exact h.hi k h4 h5
structure Pe(l:List Nat)(a b i j:Nat):Prop where
 ai:a<i
 ij:i<=j+1
 jb:j<b
 lo:∀k,a<=k->k<i->gt l k<=gt l a
 hi:∀k,j<k->k<b->gt l a<gt l k
theorem Pe.up{i j:Nat}(h:Pe l a b i j)(hij:i<=j)(hx:gt l i<=gt l a):Pe l a b (i+1) j:=⟨by have:=h.ai;omega,by omega,h.jb,fun k h1 h2=>by by_cases e:k=i;(. rw[e];exact hx);. exact h.lo k h1 (by omega),h.hi⟩
theorem Pe.down{i j:Nat}(h:Pe l a b i (j+1))(hij:i<=j+1)(hx:gt l a<gt l (j+1)):Pe l a b i j:=⟨h.ai,by omega,by have:=h.jb;omega,h.lo,fun k h1 h2=>by by_cases e:k=j+1;(. rw[e];exact hx);. exact h.hi k (by omega) h2⟩
theorem Pe.swap{i j:Nat}(h:Pe l a b i (j+1))(hij:i<=j+1)(hb:b<=l.length)(hx:¬gt l i<=gt l a)(hy:¬gt l a<gt l (j+1)):Pe (Hp.swp l i (j+1)) a b (i+1) j:=by have h1:=h.ai;have h2:=h.jb;(have hne:i≠j+1:=fun e=>by subst e;omega);(have G:=jH (l:=l) (i:=i) (j:=j+1) (by omega) (by omega);have ga:gt (Hp.swp l i (j+1)) a=gt l a:=by rw[G,if_neg (by omega),if_neg (by omega)]);refine⟨by omega,by omega,by omega,fun k h3 h4=>?_,fun k h3 h4=>?_⟩;(. rw[ga,G,if_neg (by omega)];by_cases e:k=i;(. rw[if_pos e];omega);. rw[if_neg e];exact h.lo k h3 (by omega));. rw[ga,G];by_cases e:k=j+1;(. rw[if_pos e];omega);. rw[if_neg e,if_neg (by omega)];exact h.hi k (by omega) h4
def Rest(l:List Nat)(a0 b0 a b:Nat):Prop:=∀i j,a0<=i->i<j->j<b0->(i<a\/b<=j)->gt l i<=gt l j
theorem Rest.moved{a0 b0:Nat}(h:Rest l a0 b0 a b)(hm:Mvd l L a b)(hb:b<=l.length)(ha0:a0<=a)(hb0:b<=b0):Rest L a0 b0 a b:=fun i j h1 h2 h3 h4=>by rcases h4 with h4|h4;(. rw[hm.out i (.inl h4)];by_cases hj:j<a;(. rw[hm.out j (.inl hj)];exact h i j h1 h2 h3 (.inl h4));. by_cases hj2:b<=j;(. rw[hm.out j (.inr hj2)];exact h i j h1 h2 h3 (.inl h4));. obtain⟨j',h5,h6,e⟩:=hm.ex hb (show a<=j by omega) (by omega);rw[e];exact h i j' h1 (by omega) (by omega) (.inl h4));. rw[hm.out j (.inr h4)];by_cases hi:i<a;(. rw[hm.out i (.inl hi)];exact h i j h1 h2 h3 (.inr h4));. by_cases hi2:b<=i;(. rw[hm.out i (.inr hi2)];exact h i j h1 h2 h3 (.inr h4));. obtain⟨i',h5,h6,e⟩:=hm.ex hb (show a<=i by omega) (by omega);rw[e];exact h i' j (by omega) (by omega) h3 (.inr h4)
theorem Rest.start(l:List Nat)(a b:Nat):Rest l a b a b:=fun i j h1 h2 h3 h4=>by omega
theorem Rest.done{a0 b0:Nat}(h:Rest l a0 b0 a b)(ho:y9 l a b):y9 l a0 b0:=fun i j h1 h2 h3=>by by_cases h4:i<a\/b<=j;(. exact h i j h1 h2 h3 h4);. exact ho i j (by omega) h2 (by omega)
def Blw(l:List Nat)(a b:Nat):Prop:=0<a->∀k,a<=k->k<b->gt l (a-1)<=gt l k
theorem Blw.moved(h:Blw l a b)(hm:Mvd l L a b)(hb:b<=l.length):Blw L a b:=fun h0 k h1 h2=>by obtain⟨j,h3,h4,e⟩:=hm.ex hb h1 h2;rw[e,hm.out (a-1) (.inl (by omega))];exact h h0 j h3 h4
theorem Rest.left{a0 b0 m:Nat}(h:Rest l a0 b0 a b)(hp:fO l a b m)(ho:y9 l a m):Rest l a0 b0 (m+1) b:=fun i j h1 h2 h3 h4=>by have:=hp.am;have:=hp.mb;by_cases h5:i<a\/b<=j;(. exact h i j h1 h2 h3 h5);. by_cases e:i=m;(. rw[e];exact hp.hi j (by omega) (by omega));. by_cases hj:j<m;(. exact ho i j (by omega) h2 hj);. by_cases e2:j=m;(. rw[e2];exact hp.lo i (by omega) (by omega));. exact Nat.le_trans (hp.lo i (by omega) (by omega)) (hp.hi j (by omega) (by omega))
theorem Rest.right{a0 b0 m:Nat}(h:Rest l a0 b0 a b)(hp:fO l a b m)(ho:y9 l (m+1) b):Rest l a0 b0 a m:=fun i j h1 h2 h3 h4=>by have:=hp.am;have:=hp.mb;by_cases h5:i<a\/b<=j;(. exact h i j h1 h2 h3 h5);. by_cases e:j=m;(. rw[e];exact hp.lo i (by omega) (by omega));. by_cases e2:i=m;(. rw[e2];exact hp.hi j (by omega) (by omega));. by_cases hi:i<m;(. exact Nat.le_trans (hp.lo i (by omega) hi) (hp.hi j (by omega) (by omega)));. exact ho i j (by omega) h2 (by omega)
theorem fO.M7{m:Nat}(hp:fO l a b m)(hm:Mvd l L a m)(hb:b<=l.length):fO L a b m:=by have h1:=hp.am;have h2:=hp.mb;have e:=hm.out m (.inr (Nat.le_refl _));refine⟨h1,h2,fun k h3 h4=>?_,fun k h3 h4=>?_⟩;(. obtain⟨j,h5,h6,e2⟩:=hm.ex (by omega) h3 h4;rw[e2,e];exact hp.lo j h5 h6);. rw[e,hm.out k (.inr (by omega))];exact hp.hi k h3 h4
theorem fO.M8{m:Nat}(hp:fO l a b m)(hm:Mvd l L (m+1) b)(hb:b<=l.length):fO L a b m:=by have h1:=hp.am;have h2:=hp.mb;have e:=hm.out m (.inl (by omega));refine⟨h1,h2,fun k h3 h4=>?_,fun k h3 h4=>?_⟩;(. rw[e,hm.out k (.inl (by omega))];exact hp.lo k h3 h4);. obtain⟨j,h5,h6,e2⟩:=hm.ex (by omega) (show m+1<=k by omega) h4;rw[e2,e];exact hp.hi j (by omega) h6
theorem Rest.same{a0 b0 i:Nat}(h:Rest l a0 b0 a b)(_:a<i)(_:i<=b)(lo:∀k,a<=k->k<i->gt l k<=gt l a)(_:∀k,i<=k->k<b->gt l a<gt l k)(hall:∀k,a<=k->k<b->gt l a<=gt l k):Rest l a0 b0 i b:=fun x y h1 h2 h3 h4=>by by_cases h5:x<a\/b<=y;(. exact h x y h1 h2 h3 h5);. exact Nat.le_trans (lo x (by omega) (by omega)) (hall y (by omega) (by omega))
end
end Pq
end Go.Proofs.YtmcbidhpkpmalaaGreatDoor
namespace Go.Proofs.YtmcbidhpkpmalaaGreatDoor
open Go.RowKit
namespace Ca
theorem Kj{st:St}(h:Good st){i:Nat}(hi:i<st.ls.length):(cur st i).length=st.m:=by cases hl:look st.fr i with|none=>rw[yZ hl,List.getElem?_eq_getElem hi];exact h.lm _ (List.getElem_mem hi)|some y=>obtain⟨j,f⟩:=y;rw[yY hl];exact(h.blk _ _ (aL hl).1).2
end Ca
end Go.Proofs.YtmcbidhpkpmalaaGreatDoor
