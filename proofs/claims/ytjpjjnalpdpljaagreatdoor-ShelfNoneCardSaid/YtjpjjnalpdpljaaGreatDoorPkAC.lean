import Derived.Test.YtjpjjnalpdpljaaGreatDoorPkAB
import Derived.Test.YtjpjjnalpdpljaaGreatDoorChecked
import Derived.WalkKit
import Derived.WalkLawsBesides
import Derived.KernelRfl
import Derived.WalkSpells
import Derived.BigQuiet
import Derived.ProofKit
import Derived.Lib.AppendStr
import Derived.Lib.AppendZeros
namespace Go.Proofs.YtjpjjnalpdpljaaGreatDoor.Mem
open Go.RowKit
def VO (U:TypeId) (w:World) (B:Nat) (A:Option Addr) (c:Nat) (vs:List Value):Prop:=w.ownsRow B U 1 (.slice A vs.length c) vs.length vs
section
variable {U:TypeId} {w w':World} {B c:Nat} {A:Option Addr} {vs:List Value}
theorem VO.nil (U:TypeId) (w:World) (B:Nat):VO U w B none 0 []:=World.ownsRow_nil w B U 1
theorem VO.at_ (h:VO U w B A c vs):∀a,A=some a->B<=a.block/\a.block<w.heap.size:=by
 obtain ⟨_,h2⟩:=h
 rintro a rfl
 rcases h2 with ⟨h',_⟩|⟨g,cap,cur,he,hB,hh,_⟩
 . cases h'
 . obtain ⟨rfl,_⟩:a=⟨g,0,none⟩/\c=cap:=by simpa using he
   exact ⟨hB,(Array.getElem?_eq_some_iff.1 hh).1⟩
theorem VO.keep (h:VO U w B A c vs) (hk:∀a,A=some a->w'.heap[a.block]? =w.heap[a.block]?):VO U w' B A c vs:=by
 obtain ⟨h1,h2⟩:=h
 refine ⟨h1,?_⟩
 rcases h2 with h|⟨g,cap,cur,he,hB,hh,hr⟩
 . exact .inl h
 . obtain ⟨rfl,rfl⟩:A=some ⟨g,0,none⟩/\c=cap:=by simpa using he
   exact .inr ⟨g,c,cur,rfl,hB,(hk _ rfl).trans hh,hr⟩
theorem VO.kept (h:VO U w B A c vs) (hb:Below w.heap.size w w'):VO U w' B A c vs:=h.keep fun a ha=>hb.block _ (h.at_ a ha).2
theorem VO.into {S:List Nat} (h:VO U w B A c vs) (hb:Flow.Into S w w') (hn:∀a,A=some a->a.block∉S):VO U w' B A c vs:=h.keep fun a ha=>hb.block _ (h.at_ a ha).2 (hn a ha)
theorem VO.ow (h:VO U w B A c vs) (h0:0<vs.length):∃g,A=some ⟨g,0,none⟩/\B<=g/\Ow U w g c vs:=by
 have h':=h
 obtain ⟨_,h2⟩:=h'
 rcases h2 with ⟨_,h'⟩|⟨g,cap,cur,he,hB,_⟩
 . omega
 . obtain ⟨rfl,rfl⟩:A=some ⟨g,0,none⟩/\c=cap:=by simpa using he
   exact ⟨g,rfl,hB,(ow_of h).1⟩
end
structure Appd (U:TypeId) (B:Nat) (w w':World) (A A':Option Addr) (c':Nat) (vs:List Value):Prop where
 vo:VO U w' B A' c' vs
 block:∀k,k<w.heap.size->(∀a,A=some a->a.block≠k)->w'.heap[k]? =w.heap[k]?
 below:Below B w w'
 row:∀a',A'=some a'->(∃a,A=some a/\a'.block=a.block)\/a'.block=w.heap.size
theorem run_append_one {P:Program} {U:TypeId} {z:Value} {by_:Nat} (t ty:TypeId) (ht:P.underlying t=some (.slice U)) (hinfo:(P.info? U).map (fun i=>(i.zero,i.size,i.bytes))=some (some z,1,by_)) (hzc:z.cells= #[z]) (hby:by_<=24)
 {w:World} {B:Nat} {A:Option Addr} {c:Nat} {vs:List Value} (h:VO U w B A c vs) (xb cx:Nat) (u:Value) (hu:w.cell? ⟨xb,0,none⟩=some u) (h1:u.oneCell'=true) (hn:vs.length+1<=1048576) (hB:B<=w.heap.size):
 ∃A' c' w',(Builtin.append_ #[t,t] ty #[.slice A vs.length c, .slice (some ⟨xb,0,none⟩) 1 cx]).run P w= .ok (.slice A' (vs.length+1) c') w'/\Appd U B w w' A A' c' (vs++[u]):=by
 obtain ⟨i,hi,hz,hs1,hb1⟩:=info_parts hinfo
 have hmb:(vs.length+1)*by_<=25165824:=Nat.mul_le_mul hn hby
 obtain ⟨v',w',hrun,h2,h3,_,h5⟩:=run_append_own_at (P:=P) w B t ty U i z 1 by_ ht hi hz hs1 hb1 (by rw [hzc];rfl) (by decide) (.slice A vs.length c) vs.length vs h ⟨xb,0,none⟩ 1 cx [u] rfl (fun j x hj=>by
  have hj0:j=0:=by
   rcases Nat.lt_or_ge j 1 with h'|h'
   . omega
   . rw [List.getElem?_eq_none (by simpa using h')] at hj;cases hj
  subst hj0
  obtain rfl:u=x:=by simpa using hj
  simpa [Addr.add] using hu) (by intro x hx;obtain rfl:x=u:=by simpa using hx
                                 exact h1) (by unfold maxLen;omega) (by omega) hB
 have hv':∃A' c',v'= .slice A' (vs.length+1) c':=by
  rcases h2.2 with ⟨_,h0⟩|⟨g,cap,cur,rfl,_⟩
  . omega
  . exact ⟨_,_,rfl⟩
 obtain ⟨A',c',rfl⟩:=hv'
 refine ⟨A',c',w',hrun,⟨?_,?_,(Below.refl _ _).grown h3 hB fun k hk=>?_,?_⟩⟩
 . unfold VO
   rw [List.length_append]
   exact h2
 . intro k hk hne
   refine h3.block k hk ?_
   rcases A with _|a
   . simp [Value.ownBlock]
   . have:=hne a rfl
     simp only [Value.ownBlock,ne_eq,Option.some.injEq]
     exact fun e=>this e.symm
 . rcases A with _|a
   . cases hk
   . obtain rfl:a.block=k:=by simpa [Value.ownBlock] using hk
     exact (h.at_ _ rfl).1
 . rintro a' rfl
   rcases h5 with h5|h5
   . rcases A with _|a
     . simp [Value.ownBlock] at h5
     . left;exact ⟨a,rfl,by simpa [Value.ownBlock] using h5⟩
   . right;simpa [Value.ownBlock] using h5
theorem wpList_append_one {P:Program} {w:World} {ops:Array Oper} {rest:List Oper} {o:Oper} {a:Act} {Q:Exit->Act->World->Prop} (hgd:o.guard=none) (s x:Operand) (t:TypeId)
 (ho:o.op= .call { callee:= .builtin .append,args:= #[s,x],argTypes:= #[t,t] }) (U:TypeId) (ht:P.underlying t=some (.slice U)) (z:Value) (by_:Nat) (hinfo:(P.info? U).map (fun i=>(i.zero,i.size,i.bytes))=some (some z,1,by_)) (hzc:z.cells= #[z]) (hby:by_<=24)
 (B:Nat) (A:Option Addr) (n c:Nat) (vs:List Value) (hs:a.eval s= .slice A n c) (hvn:vs.length=n) (h:VO U w B A c vs) (xb cx:Nat) (u:Value) (hx:a.eval x= .slice (some ⟨xb,0,none⟩) 1 cx) (hu:w.cell? ⟨xb,0,none⟩=some u) (h1:u.oneCell'=true) (hn:n+1<=1048576) (hB:B<=w.heap.size)
 (hh:∀A' c' w',Hid (Appd U B w w' A A' c' (vs++[u]))->wpList P ops Q rest (a.put o.dst (.slice A' (n+1) c')) w'):wpList P ops Q (o::rest) a w:=by
 subst hvn
 refine wpList_plain hgd fun K hK=>?_
 obtain ⟨A',c',w',hrun,hd⟩:=run_append_one t o.type ht hinfo hzc hby h xb cx u hu h1 hn hB
 unfold Oper.wp execOp
 simp only [ho,resolve,invoke,builtin,Sem.run_bind,Sem.run_pure,Result.andThen_ok,List.map_toArray,List.map_cons,List.map_nil,hs,hx,hrun]
 exact hK _ _ (hh A' c' w' hd)
section
variable {U:TypeId} {w w':World} {B c:Nat} {A:Option Addr} {vs:List Value}
theorem VO.mono {B':Nat} (h:VO U w B A c vs) (hb:B'<=B):VO U w B' A c vs:=by
 obtain ⟨h1,h2⟩:=h
 refine ⟨h1,?_⟩
 rcases h2 with h|⟨g,cap,cur,he,hB,hr⟩
 . exact .inl h
 . exact .inr ⟨g,cap,cur,he,Nat.le_trans hb hB,hr⟩
theorem VO.cell (h:VO U w B A c vs) (h0:0<vs.length):∃g,A=some ⟨g,0,none⟩/\∀i (hi:i<vs.length),w.cell? ⟨g,i,none⟩=some vs[i]:=by
 obtain ⟨g,rfl,_,ho⟩:=h.ow h0
 exact ⟨g,rfl,fun i hi=>ho.cell hi⟩
end
theorem VO.none_ (U:TypeId) (w:World) (B:Nat) (hB:B<=w.heap.size):VO U (w.alloc (.cells #[] U)) B (some ⟨w.heap.size,0,none⟩) 0 []:=
 World.ownsRow_lit (base:=B) (e:=U) (size:=1) w #[] 0 hB (Nat.zero_le _) (by simp)
theorem VO.made (U:TypeId) (w:World) (B:Nat) (z:Value) (n:Nat) (hB:B<=w.heap.size) (hn:n<=1048576):VO U (w.alloc (.cells (List.replicate n z).toArray U)) B (some ⟨w.heap.size,0,none⟩) n []:=
 World.ownsRow_made w _ n hB (by unfold maxLen;omega) (by simp)
theorem run_make_empty {P:Program} {t e:TypeId} {z:Value} {by_:Nat} (ht:P.underlying t=some (.slice e)) (hinfo:(P.info? e).map (fun i=>(i.zero,i.size,i.bytes))=some (some z,1,by_)) (hzc:z.cells= #[z]) (hby:by_<=24) (n:Nat) (hn:n<=1048576) (w:World):
 (Instr.makeSlice t (.int .i64 0) (.int .i64 (n:Int))).run P w= .ok (.slice (some ⟨w.heap.size,0,none⟩) 0 n) (w.alloc (.cells (List.replicate n z).toArray e)):=by
 obtain ⟨i,hi,hz,hs,hb⟩:=info_parts hinfo
 have hr:=run_make (P:=P) w t e i z ht hi hz .i64 .i64 0 n (by omega) (by omega) (by rw [hb];have:(by_:Int)*(n:Int)<=24*1048576:=by have:=Nat.mul_le_mul hby hn;omega
                                                                                     omega) (by omega)
 rw [hr,hs]
 simp only [Int.toNat_natCast,Nat.mul_one,Int.toNat_zero]
 rw [hzc,<-toList_madeCells_one z n]
end Go.Proofs.YtjpjjnalpdpljaaGreatDoor.Mem
namespace Go.Proofs.YtjpjjnalpdpljaaGreatDoor
open Go.RowKit
namespace Po
open Mem
theorem u32info:(Tryz.prog.info? 25).map (fun i=>(i.zero,i.size,i.bytes))=some (some (.int .u32 0),1,4):=by kernel_rfl
def u32V (x:Nat):Value:= .int .u32 (x:Int)
def UL (w:World) (A:Option Addr) (l:List Nat):Prop:=0<l.length->∃b,A=some ⟨b,0,none⟩/\b<w.heap.size/\∀i (h:i<l.length),w.cell? ⟨b,i,none⟩=some (.int .u32 (l[i]:Int))
theorem UL.below {B:Nat} {w w':World} {A:Option Addr} {l:List Nat} (h:UL w A l) (hb:Below B w w') (hB:w.heap.size<=B):UL w' A l:=fun h0=>by
 obtain ⟨b,rfl,hlt,hc⟩:=h h0
 refine ⟨b,rfl,Nat.lt_of_lt_of_le hlt hb.size,fun i hi=>?_⟩
 rw [<-hc i hi]
 exact World.cell?_of_block (w:=w) (a:=⟨b,i,none⟩) (hb.block b (by omega))
theorem UL.kept {w w':World} {A:Option Addr} {l:List Nat} (h:UL w A l) (hb:Below w.heap.size w w'):UL w' A l:=h.below hb (Nat.le_refl _)
theorem UL.of_vo {w:World} {B c:Nat} {A:Option Addr} {l:List Nat} (h:VO 25 w B A c (l.map u32V)):UL w A l:=fun h0=>by
 obtain ⟨g,rfl,hc⟩:=h.cell (by simpa using h0)
 refine ⟨g,rfl,(h.at_ _ rfl).2,fun i hi=>?_⟩
 rw [hc i (by simpa using hi)]
 simp [u32V]
theorem UL.nil (w:World):UL w none []:=fun h=>absurd h (by simp)
theorem vo_ne_ow {U U':TypeId} {w:World} {B c h c':Nat} {A:Option Addr} {vs vs':List Value} (hv:VO U w B A c vs) (ho:Ow U' w h c' vs') (hU:U≠U'):∀a,A=some a->a.block≠h:=by
 rintro a rfl rfl
 obtain ⟨_,h2⟩:=hv
 obtain ⟨_,h4⟩:=ho
 rcases h2 with ⟨h2,_⟩|⟨g,cap,cur,he,_,hh,_⟩
 . cases h2
 rcases h4 with ⟨h4,_⟩|⟨g',cap',cur',he',_,hh',_⟩
 . cases h4
 obtain ⟨rfl,_⟩:a=⟨g,0,none⟩/\c=cap:=by simpa using he
 obtain ⟨rfl,_⟩:g=g'/\c'=cap':=by simpa using he'
 rw [hh] at hh'
 injection hh' with hh'
 injection hh' with _ e _
 exact hU e
end Po
end Go.Proofs.YtjpjjnalpdpljaaGreatDoor
namespace Go.Proofs.YtjpjjnalpdpljaaGreatDoor
namespace Hp
section
variable {α:Type} [Inhabited α]
def gt (l:List α) (i:Nat):α:=l.getD i default
def swp (l:List α) (i j:Nat):List α:=(l.set i (gt l j)).set j (gt l i)
theorem gt_eq {l:List α} {i:Nat} (h:i<l.length):gt l i=l[i]:=by simp [gt,h]
theorem swp_len (l:List α) (i j:Nat):(swp l i j).length=l.length:=by simp [swp]
theorem swp_perm {l:List α} {i j:Nat} (hi:i<l.length) (hj:j<l.length):(swp l i j).Perm l:=by
 unfold swp
 rw [gt_eq hi,gt_eq hj]
 exact List.set_set_perm hi hj
theorem gt_swp {l:List α} {i j:Nat} (hi:i<l.length) (hj:j<l.length) (k:Nat):gt (swp l i j) k=if k=j then gt l i else if k=i then gt l j else gt l k:=by
 unfold swp gt
 by_cases h1:k=j
 . subst h1
   simp [hj]
 . rw [if_neg h1]
   by_cases h2:k=i
   . subst h2
     have h3:¬j=k:=fun e=>h1 e.symm
     simp [hi,h3]
   . have h3:¬j=k:=fun e=>h1 e.symm
     have h4:¬i=k:=fun e=>h2 e.symm
     simp [h2,h3,h4]
structure Ord (lt:α->α->Bool):Prop where
 asym:∀a b,lt a b=true->lt b a=false
 trans:∀a b c,lt b a=false->lt c b=false->lt c a=false
def HpF (lt:α->α->Bool) (l:List α) (n k:Nat):Prop:=∀j,0<j->j<n->k<=(j-1) / 2->lt (gt l j) (gt l ((j-1) / 2))=false
structure Sf (lt:α->α->Bool) (l:List α) (n k i:Nat):Prop where
 le:k<=i
 most:∀j,0<j->j<n->k<=(j-1) / 2->(j-1) / 2≠i->lt (gt l j) (gt l ((j-1) / 2))=false
 over:k<i->∀j,0<j->j<n->(j-1) / 2=i->lt (gt l j) (gt l ((i-1) / 2))=false
variable {lt:α->α->Bool} {l:List α} {n k i:Nat}
theorem HpF.sf (h:HpF lt l n (k+1)):Sf lt l n k k:=⟨Nat.le_refl _,fun j h1 h2 h3 h4=>h j h1 h2 (by omega),fun h0=>by omega⟩
theorem Sf.stop (h:Sf lt l n k i) (hc:∀j,0<j->j<n->(j-1) / 2=i->lt (gt l j) (gt l i)=false):HpF lt l n k:=fun j h1 h2 h3=>by
 by_cases e:(j-1) / 2=i
 . rw [e]
   exact hc j h1 h2 e
 . exact h.most j h1 h2 h3 e
theorem Sf.step (ho:Ord lt) (h:Sf lt l n k i) (hn:n<=l.length) {j:Nat} (h0:0<j) (hj:j<n) (hp:(j-1) / 2=i) (hlt:lt (gt l j) (gt l i)=true) (hc:∀c,0<c->c<n->(c-1) / 2=i->lt (gt l c) (gt l j)=false):Sf lt (swp l i j) n k j:=by
 have hij:i<j:=by omega
 have hk:=h.le
 have G:=gt_swp (l:=l) (i:=i) (j:=j) (by omega) (by omega)
 refine ⟨by omega,fun c h1 h2 h3 h4=>?_,fun _ c h1 h2 h3=>?_⟩
 . rw [G c,G ((c-1) / 2),if_neg h4]
   by_cases e:(c-1) / 2=i
   . rw [if_pos e]
     by_cases e2:c=j
     . rw [if_pos e2]
       exact ho.asym _ _ hlt
     . rw [if_neg e2,if_neg (by omega)]
       exact hc c h1 h2 e
   . rw [if_neg e,if_neg (by intro e2;subst e2;omega)]
     by_cases e2:c=i
     . rw [if_pos e2]
       subst e2
       exact h.over (by omega) j h0 hj hp
     . rw [if_neg e2]
       exact h.most c h1 h2 h3 e
 . rw [G c,G ((j-1) / 2),hp,if_neg (by omega),if_neg (by omega),if_neg (by omega),if_pos rfl]
   have:=h.most c h1 h2 (by omega) (by omega)
   rw [h3] at this
   exact this
theorem HpF.root (ho:Ord lt) (hs:∀a,lt a a=false) (h:HpF lt l n 0):∀m j,j<m->j<n->lt (gt l j) (gt l 0)=false
 |0,j,hm,_=>by omega
 |m+1,j,hm,hj=>by
  by_cases h0:j=0
  . subst h0
    exact hs _
  . exact ho.trans _ _ _ (HpF.root ho hs h m ((j-1) / 2) (by omega) (by omega)) (h j (by omega) hj (Nat.zero_le _))
theorem HpF.congr {l':List α} (h:HpF lt l n k) (he:∀i,i<n->gt l' i=gt l i):HpF lt l' n k:=fun j h1 h2 h3=>by
 rw [he j h2,he ((j-1) / 2) (by omega)]
 exact h j h1 h2 h3
theorem HpF.swap_top (h:HpF lt l (n+1) 0) (hn:n<l.length):HpF lt (swp l 0 n) n 1:=fun j h1 h2 h3=>by
 have G:=gt_swp (l:=l) (i:=0) (j:=n) (by omega) hn
 rw [G j,G ((j-1) / 2),if_neg (by omega),if_neg (by omega),if_neg (by omega),if_neg (by omega)]
 exact h j h1 (by omega) (by omega)
structure Took (lt:α->α->Bool) (l:List α) (x:α) (l':List α):Prop where
 perm:l.Perm (x::l')
 heap:HpF lt l' l'.length 0
 least:∀y,y∈l'->lt y x=false
end
end Hp
end Go.Proofs.YtjpjjnalpdpljaaGreatDoor
namespace Go.Proofs.YtjpjjnalpdpljaaGreatDoor
namespace Pq
open Hp
structure Mvd (l L:List Nat) (a b:Nat):Prop where
 perm:L.Perm l
 out:∀k,k<a\/b<=k->gt L k=gt l k
section
variable {l L M:List Nat} {a b:Nat}
theorem Mvd.refl (l:List Nat) (a b:Nat):Mvd l l a b:=⟨List.Perm.refl _,fun _ _=>rfl⟩
theorem Mvd.len (h:Mvd l L a b):L.length=l.length:=h.perm.length_eq
theorem Mvd.trans (h:Mvd l L a b) (g:Mvd L M a b):Mvd l M a b:=⟨g.perm.trans h.perm,fun k hk=>(g.out k hk).trans (h.out k hk)⟩
theorem Mvd.mono {a' b':Nat} (h:Mvd l L a b) (ha:a'<=a) (hb:b<=b'):Mvd l L a' b':=⟨h.perm,fun k hk=>h.out k (by omega)⟩
theorem Mvd.swp {i j:Nat} (hb:b<=l.length) (hi:a<=i) (hi2:i<b) (hj:a<=j) (hj2:j<b):Mvd l (swp l i j) a b:=
 ⟨swp_perm (by omega) (by omega),fun k hk=>by
   rw [gt_swp (by omega) (by omega),if_neg (by omega),if_neg (by omega)]⟩
theorem Mvd.swap {i j:Nat} (h:Mvd l L a b) (hb:b<=l.length) (hi:a<=i) (hi2:i<b) (hj:a<=j) (hj2:j<b):Mvd l (Hp.swp L i j) a b:=
 h.trans (Mvd.swp (by rw [h.len];exact hb) hi hi2 hj hj2)
theorem eq_of_gt {A B:List Nat} (hl:A.length=B.length) (h:∀k,k<A.length->gt A k=gt B k):A=B:=by
 refine List.ext_getElem hl fun k h1 h2=>?_
 have:=h k h1
 rwa [gt_eq h1,gt_eq h2] at this
theorem gt_take {n k:Nat} (hk:k<n):gt (l.take n) k=gt l k:=by
 unfold gt
 rw [List.getD_eq_getElem?_getD,List.getD_eq_getElem?_getD,List.getElem?_take,if_pos hk]
theorem gt_drop (n k:Nat):gt (l.drop n) k=gt l (n+k):=by
 unfold gt
 rw [List.getD_eq_getElem?_getD,List.getD_eq_getElem?_getD,List.getElem?_drop]
theorem Mvd.ex (h:Mvd l L a b) (hb:b<=l.length) {k:Nat} (hk:a<=k) (hk2:k<b):∃j,a<=j/\j<b/\gt L k=gt l j:=by
 have hl:=h.len
 have e1:L.take a=l.take a:=eq_of_gt (by simp [hl]) fun j hj=>by
  have hja:j<a:=by simp at hj;omega
  rw [gt_take hja,gt_take hja]
  exact h.out j (.inl hja)
 have e2:L.drop b=l.drop b:=eq_of_gt (by simp [hl]) fun j _=>by
  rw [gt_drop,gt_drop]
  exact h.out _ (.inr (by omega))
 have s1:∀X:List Nat,X=X.take a++((X.drop a).take (b-a)++X.drop b):=fun X=>by
  have:X.drop b=(X.drop a).drop (b-a):=by rw [List.drop_drop,show a+(b-a)=b by omega]
  rw [this,List.take_append_drop,List.take_append_drop]
 have hp:=h.perm
 rw [s1 L,s1 l,e1,e2,List.perm_append_left_iff,List.perm_append_right_iff] at hp
 have hm:gt L k∈(L.drop a).take (b-a):=by
  have:gt ((L.drop a).take (b-a)) (k-a)=gt L k:=by
   rw [gt_take (by omega),gt_drop,show a+(k-a)=k by omega]
  rw [<-this,gt_eq (by simp;omega)]
  exact List.getElem_mem _
 obtain ⟨i,hi,e⟩:=List.mem_iff_getElem.1 (hp.mem_iff.1 hm)
 have hi2:i<b-a:=by simp at hi;omega
 refine ⟨a+i,by omega,by omega,?_⟩
 rw [<-e,<-gt_eq hi,gt_take hi2,gt_drop]
theorem Mvd.all {P:Nat->Prop} (h:Mvd l L a b) (hb:b<=l.length) (hp:∀k,a<=k->k<b->P (gt l k)):∀k,a<=k->k<b->P (gt L k):=fun k h1 h2=>by
 obtain ⟨j,h3,h4,e⟩:=h.ex hb h1 h2
 rw [e]
 exact hp j h3 h4
def Adj (l:List Nat) (a b:Nat):Prop:=∀i,a<i->i<b->gt l (i-1)<=gt l i
def Ord2 (l:List Nat) (a b:Nat):Prop:=∀i j,a<=i->i<j->j<b->gt l i<=gt l j
theorem Adj.ord (h:Adj l a b):Ord2 l a b:=fun i j h1 h2 h3=>by
 induction j with
 |zero=>omega
 |succ j ih=>
  have:=h (j+1) (by omega) h3
  rw [Nat.add_sub_cancel] at this
  by_cases e:i=j
  . rw [e]
    exact this
  . exact Nat.le_trans (ih (by omega) (by omega)) this
structure Ins (l:List Nat) (a i j:Nat):Prop where
 adj:∀k,a<k->k<=i->k≠j->gt l (k-1)<=gt l k
 gap:a<j->j<i->gt l (j-1)<=gt l (j+1)
theorem Ins.start {i:Nat} (h:Adj l a i):Ins l a i i:=⟨fun k h1 h2 h3=>h k h1 (by omega),fun _ h2=>by omega⟩
theorem Ins.stop {i j:Nat} (h:Ins l a i j) (hj:j<=a\/gt l (j-1)<=gt l j):Adj l a (i+1):=fun k h1 h2=>by
 by_cases e:k=j
 . subst e
   rcases hj with hj|hj
   . omega
   . exact hj
 . exact h.adj k h1 (by omega) e
theorem Ins.step {i j:Nat} (h:Ins l a i (j+1)) (haj:a<=j) (hji:j+1<=i) (hi:i<l.length) (hlt:gt l (j+1)<gt l j):Ins (Hp.swp l (j+1) j) a i j:=by
 have G:=gt_swp (l:=l) (i:=j+1) (j:=j) (by omega) (by omega)
 refine ⟨fun k h1 h2 h3=>?_,fun h1 h2=>?_⟩
 . by_cases e1:k=j+1
   . subst e1
     rw [G,G,if_pos (by omega),if_neg (by omega),if_pos rfl]
     exact Nat.le_of_lt hlt
   . by_cases e2:k=j+2
     . subst e2
       rw [G,G,if_neg (by omega),if_pos (by omega),if_neg (by omega),if_neg (by omega)]
       have:=h.gap (by omega) (by omega)
       rwa [Nat.add_sub_cancel] at this
     . rw [G,G,if_neg (by omega),if_neg (by omega),if_neg (by omega),if_neg (by omega)]
       exact h.adj k h1 h2 e1
 . rw [G,G,if_neg (by omega),if_neg (by omega),if_neg (by omega),if_pos rfl]
   exact h.adj j h1 (by omega) (by omega)
structure Pt (l:List Nat) (a b i j:Nat):Prop where
 ai:a<i
 ij:i<=j+1
 jb:j<b
 lo:∀k,a<k->k<i->gt l k<gt l a
 hi:∀k,j<k->k<b->gt l a<=gt l k
theorem Pt.up {i j:Nat} (h:Pt l a b i j) (hij:i<=j) (hx:gt l i<gt l a):Pt l a b (i+1) j:=⟨by have:=h.ai;omega,by omega,h.jb,fun k h1 h2=>by
 by_cases e:k=i
 . rw [e];exact hx
 . exact h.lo k h1 (by omega),h.hi⟩
theorem Pt.down {i j:Nat} (h:Pt l a b i (j+1)) (hij:i<=j+1) (hx:gt l a<=gt l (j+1)):Pt l a b i j:=⟨h.ai,by omega,by have:=h.jb;omega,h.lo,fun k h1 h2=>by
 by_cases e:k=j+1
 . rw [e];exact hx
 . exact h.hi k (by omega) h2⟩
theorem Pt.swap {i j:Nat} (h:Pt l a b i (j+1)) (hij:i<=j+1) (hb:b<=l.length) (hx:¬gt l i<gt l a) (hy:¬gt l a<=gt l (j+1)):Pt (Hp.swp l i (j+1)) a b (i+1) j:=by
 have h1:=h.ai
 have h2:=h.jb
 have hne:i≠j+1:=fun e=>by
  subst e
  omega
 have G:=gt_swp (l:=l) (i:=i) (j:=j+1) (by omega) (by omega)
 have ga:gt (Hp.swp l i (j+1)) a=gt l a:=by rw [G,if_neg (by omega),if_neg (by omega)]
 refine ⟨by omega,by omega,by omega,fun k h3 h4=>?_,fun k h3 h4=>?_⟩
 . rw [ga,G,if_neg (by omega)]
   by_cases e:k=i
   . rw [if_pos e]
     omega
   . rw [if_neg e]
     exact h.lo k h3 (by omega)
 . rw [ga,G]
   by_cases e:k=j+1
   . rw [if_pos e]
     omega
   . rw [if_neg e,if_neg (by omega)]
     exact h.hi k (by omega) h4
structure Parted (l:List Nat) (a b m:Nat):Prop where
 am:a<=m
 mb:m<b
 lo:∀k,a<=k->k<m->gt l k<=gt l m
 hi:∀k,m<k->k<b->gt l m<=gt l k
theorem Pt.done {i j:Nat} (h:Pt l a b i j) (hij:j<i) (hb:b<=l.length):Parted (Hp.swp l j a) a b j:=by
 have h1:=h.ai
 have h2:=h.jb
 have h3:=h.ij
 have G:=gt_swp (l:=l) (i:=j) (j:=a) (by omega) (by omega)
 have gj:gt (Hp.swp l j a) j=gt l a:=by
  rw [G]
  by_cases e:j=a
  . rw [if_pos e,e]
  . rw [if_neg e,if_pos rfl]
 refine ⟨by omega,h2,fun k h4 h5=>?_,fun k h4 h5=>?_⟩
 . rw [gj,G]
   by_cases e:k=a
   . rw [if_pos e]
     exact Nat.le_of_lt (h.lo j (by omega) (by omega))
   . rw [if_neg e,if_neg (by omega)]
     exact Nat.le_of_lt (h.lo k (by omega) (by omega))
 . rw [gj,G,if_neg (by omega),if_neg (by omega)]
   exact h.hi k h4 h5
structure Pe (l:List Nat) (a b i j:Nat):Prop where
 ai:a<i
 ij:i<=j+1
 jb:j<b
 lo:∀k,a<=k->k<i->gt l k<=gt l a
 hi:∀k,j<k->k<b->gt l a<gt l k
theorem Pe.up {i j:Nat} (h:Pe l a b i j) (hij:i<=j) (hx:gt l i<=gt l a):Pe l a b (i+1) j:=⟨by have:=h.ai;omega,by omega,h.jb,fun k h1 h2=>by
 by_cases e:k=i
 . rw [e];exact hx
 . exact h.lo k h1 (by omega),h.hi⟩
theorem Pe.down {i j:Nat} (h:Pe l a b i (j+1)) (hij:i<=j+1) (hx:gt l a<gt l (j+1)):Pe l a b i j:=⟨h.ai,by omega,by have:=h.jb;omega,h.lo,fun k h1 h2=>by
 by_cases e:k=j+1
 . rw [e];exact hx
 . exact h.hi k (by omega) h2⟩
theorem Pe.swap {i j:Nat} (h:Pe l a b i (j+1)) (hij:i<=j+1) (hb:b<=l.length) (hx:¬gt l i<=gt l a) (hy:¬gt l a<gt l (j+1)):Pe (Hp.swp l i (j+1)) a b (i+1) j:=by
 have h1:=h.ai
 have h2:=h.jb
 have hne:i≠j+1:=fun e=>by
  subst e
  omega
 have G:=gt_swp (l:=l) (i:=i) (j:=j+1) (by omega) (by omega)
 have ga:gt (Hp.swp l i (j+1)) a=gt l a:=by rw [G,if_neg (by omega),if_neg (by omega)]
 refine ⟨by omega,by omega,by omega,fun k h3 h4=>?_,fun k h3 h4=>?_⟩
 . rw [ga,G,if_neg (by omega)]
   by_cases e:k=i
   . rw [if_pos e]
     omega
   . rw [if_neg e]
     exact h.lo k h3 (by omega)
 . rw [ga,G]
   by_cases e:k=j+1
   . rw [if_pos e]
     omega
   . rw [if_neg e,if_neg (by omega)]
     exact h.hi k (by omega) h4
def Rest (l:List Nat) (a0 b0 a b:Nat):Prop:=∀i j,a0<=i->i<j->j<b0->(i<a\/b<=j)->gt l i<=gt l j
theorem Rest.moved {a0 b0:Nat} (h:Rest l a0 b0 a b) (hm:Mvd l L a b) (hb:b<=l.length) (ha0:a0<=a) (hb0:b<=b0):Rest L a0 b0 a b:=fun i j h1 h2 h3 h4=>by
 rcases h4 with h4|h4
 . rw [hm.out i (.inl h4)]
   by_cases hj:j<a
   . rw [hm.out j (.inl hj)]
     exact h i j h1 h2 h3 (.inl h4)
   . by_cases hj2:b<=j
     . rw [hm.out j (.inr hj2)]
       exact h i j h1 h2 h3 (.inl h4)
     . obtain ⟨j',h5,h6,e⟩:=hm.ex hb (show a<=j by omega) (by omega)
       rw [e]
       exact h i j' h1 (by omega) (by omega) (.inl h4)
 . rw [hm.out j (.inr h4)]
   by_cases hi:i<a
   . rw [hm.out i (.inl hi)]
     exact h i j h1 h2 h3 (.inr h4)
   . by_cases hi2:b<=i
     . rw [hm.out i (.inr hi2)]
       exact h i j h1 h2 h3 (.inr h4)
     . obtain ⟨i',h5,h6,e⟩:=hm.ex hb (show a<=i by omega) (by omega)
       rw [e]
       exact h i' j (by omega) (by omega) h3 (.inr h4)
theorem Rest.start (l:List Nat) (a b:Nat):Rest l a b a b:=fun i j h1 h2 h3 h4=>by omega
theorem Rest.done {a0 b0:Nat} (h:Rest l a0 b0 a b) (ho:Ord2 l a b):Ord2 l a0 b0:=fun i j h1 h2 h3=>by
 by_cases h4:i<a\/b<=j
 . exact h i j h1 h2 h3 h4
 . exact ho i j (by omega) h2 (by omega)
def Blw (l:List Nat) (a b:Nat):Prop:=0<a->∀k,a<=k->k<b->gt l (a-1)<=gt l k
theorem Blw.moved (h:Blw l a b) (hm:Mvd l L a b) (hb:b<=l.length):Blw L a b:=fun h0 k h1 h2=>by
 obtain ⟨j,h3,h4,e⟩:=hm.ex hb h1 h2
 rw [e,hm.out (a-1) (.inl (by omega))]
 exact h h0 j h3 h4
theorem Rest.left {a0 b0 m:Nat} (h:Rest l a0 b0 a b) (hp:Parted l a b m) (ho:Ord2 l a m):Rest l a0 b0 (m+1) b:=fun i j h1 h2 h3 h4=>by
 have:=hp.am
 have:=hp.mb
 by_cases h5:i<a\/b<=j
 . exact h i j h1 h2 h3 h5
 . by_cases e:i=m
   . rw [e]
     exact hp.hi j (by omega) (by omega)
   . by_cases hj:j<m
     . exact ho i j (by omega) h2 hj
     . by_cases e2:j=m
       . rw [e2]
         exact hp.lo i (by omega) (by omega)
       . exact Nat.le_trans (hp.lo i (by omega) (by omega)) (hp.hi j (by omega) (by omega))
theorem Rest.right {a0 b0 m:Nat} (h:Rest l a0 b0 a b) (hp:Parted l a b m) (ho:Ord2 l (m+1) b):Rest l a0 b0 a m:=fun i j h1 h2 h3 h4=>by
 have:=hp.am
 have:=hp.mb
 by_cases h5:i<a\/b<=j
 . exact h i j h1 h2 h3 h5
 . by_cases e:j=m
   . rw [e]
     exact hp.lo i (by omega) (by omega)
   . by_cases e2:i=m
     . rw [e2]
       exact hp.hi j (by omega) (by omega)
     . by_cases hi:i<m
       . exact Nat.le_trans (hp.lo i (by omega) hi) (hp.hi j (by omega) (by omega))
       . exact ho i j (by omega) h2 (by omega)
theorem Parted.movedL {m:Nat} (hp:Parted l a b m) (hm:Mvd l L a m) (hb:b<=l.length):Parted L a b m:=by
 have h1:=hp.am
 have h2:=hp.mb
 have e:=hm.out m (.inr (Nat.le_refl _))
 refine ⟨h1,h2,fun k h3 h4=>?_,fun k h3 h4=>?_⟩
 . obtain ⟨j,h5,h6,e2⟩:=hm.ex (by omega) h3 h4
   rw [e2,e]
   exact hp.lo j h5 h6
 . rw [e,hm.out k (.inr (by omega))]
   exact hp.hi k h3 h4
theorem Parted.movedR {m:Nat} (hp:Parted l a b m) (hm:Mvd l L (m+1) b) (hb:b<=l.length):Parted L a b m:=by
 have h1:=hp.am
 have h2:=hp.mb
 have e:=hm.out m (.inl (by omega))
 refine ⟨h1,h2,fun k h3 h4=>?_,fun k h3 h4=>?_⟩
 . rw [e,hm.out k (.inl (by omega))]
   exact hp.lo k h3 h4
 . obtain ⟨j,h5,h6,e2⟩:=hm.ex (by omega) (show m+1<=k by omega) h4
   rw [e2,e]
   exact hp.hi j (by omega) h6
theorem Rest.same {a0 b0 i:Nat} (h:Rest l a0 b0 a b) (_:a<i) (_:i<=b) (lo:∀k,a<=k->k<i->gt l k<=gt l a) (_:∀k,i<=k->k<b->gt l a<gt l k) (hall:∀k,a<=k->k<b->gt l a<=gt l k):Rest l a0 b0 i b:=fun x y h1 h2 h3 h4=>by
 by_cases h5:x<a\/b<=y
 . exact h x y h1 h2 h3 h5
 . exact Nat.le_trans (lo x (by omega) (by omega)) (hall y (by omega) (by omega))
end
end Pq
end Go.Proofs.YtjpjjnalpdpljaaGreatDoor
namespace Go.Proofs.YtjpjjnalpdpljaaGreatDoor
open Go.RowKit
namespace Ca
theorem cur_len {st:St} (h:Good st) {i:Nat} (hi:i<st.ls.length):(cur st i).length=st.m:=by
 cases hl:look st.fr i with
 |none=>
  rw [cur_none hl,List.getElem?_eq_getElem hi]
  exact h.lm _ (List.getElem_mem hi)
 |some y=>
  obtain ⟨j,f⟩:=y
  rw [cur_some hl]
  exact (h.blk _ _ (look_some hl).1).2
end Ca
end Go.Proofs.YtjpjjnalpdpljaaGreatDoor
namespace Go.Proofs.YtjpjjnalpdpljaaGreatDoor
open Go.RowKit
namespace Mem
def BoxAt (U:TypeId) (w:World) (g:Nat) (C:Array Value):Prop:=w.heap[g]? =some (.cells C U (0,0))
section
variable {P:Program} {U T:TypeId} {w w':World} {g:Nat} {C C':Array Value}
theorem BoxAt.lt (h:BoxAt U w g C):g<w.heap.size:=(Array.getElem?_eq_some_iff.1 h).1
theorem BoxAt.kept (h:BoxAt U w g C) (hb:Below w.heap.size w w'):BoxAt U w' g C:=(hb.block g h.lt).trans h
theorem BoxAt.cell (h:BoxAt U w g C) {i:Nat} {v:Value} (hv:C[i]? =some v):w.cell? ⟨g,i,none⟩=some v:=by
 unfold BoxAt at h
 simp [World.cell?,h,hv]
theorem BoxAt.free (h:BoxAt U w g C) (i:Nat):w.frozen? ⟨g,i,none⟩=false:=by
 unfold BoxAt at h
 simp [World.frozen?,h]
theorem BoxAt.new (U:TypeId) (w:World) (C:Array Value):BoxAt U (w.alloc (.cells C U)) w.heap.size C:=heap_alloc_new w _
theorem BoxAt.set (h:BoxAt U w g C) (i:Nat) (v:Value):BoxAt U (w.setCell ⟨g,i,none⟩ v) g (C.setIfInBounds i v):=by
 unfold BoxAt at h ⊢
 simp [World.setCell,Array.getElem?_modify,h]
theorem addr_add (g i:Nat):Addr.add ⟨g,0,none⟩ i=⟨g,i,none⟩:=by
 by_cases h0:i=0<;>simp [Addr.add,h0]
theorem run_loads (hx:BoxAt U w g C):∀(n i:Nat) (acc:Array Value),i+n<=C.size->(loadCellsFrom ⟨g,0,none⟩ i n acc).run P w= .ok (acc++((C.toList.drop i).take n).toArray) w
 |0,i,acc,_=>by simp [loadCellsFrom]
 |n+1,i,acc,h=>by
  have hi:i<C.size:=by omega
  have hc:=hx.cell (i:=i) (v:=C[i]) (by simp [hi])
  have ih:=run_loads hx n (i+1) (acc.push C[i]) (by omega)
  unfold loadCellsFrom
  rw [Sem.run_bind,run_load,addr_add,hc]
  simp only [Result.andThen_ok]
  rw [ih]
  congr 1
  apply Array.ext'
  have hd:C.toList.drop i=C[i]::C.toList.drop (i+1):=by
   rw [List.drop_eq_getElem_cons (by simpa using hi)]
   simp
  simp [hd]
theorem run_load_box {fs:Array Field} (hu:P.underlying T=some (.struct fs)) (hs:(P.info? T).map (·.size)=some C.size) (hx:BoxAt U w g C):(Instr.loadAt T (.pointer (some ⟨g,0,none⟩))).run P w= .ok (.agg C) w:=by
 obtain ⟨i,hi,hz⟩:=Option.map_eq_some_iff.1 hs
 have hl:=run_loads (P:=P) hx C.size 0 #[] (by omega)
 simp only [List.drop_zero] at hl
 rw [List.take_of_length_le (by simp)] at hl
 simp [Instr.loadAt,Instr.sureAddr,loadVar,isAgg,run_underlying hu,sizeOf,typeInfo,hi,hz,loadCells,hl]
def putFrom (w:World) (g:Nat):List Value->Nat->World
 |[],_=>w
 |v::r,i=>putFrom (w.setCell ⟨g,i,none⟩ v) g r (i+1)
def splice0 (C:Array Value):List Value->Nat->Array Value
 |[],_=>C
 |v::r,i=>splice0 (C.setIfInBounds i v) r (i+1)
theorem splice0_list:∀(vs:List Value) (C:Array Value) (i:Nat),i+vs.length<=C.size->(splice0 C vs i).toList=C.toList.take i++vs++C.toList.drop (i+vs.length)
 |[],C,i,_=>by simp [splice0]
 |v::r,C,i,h=>by
  simp only [List.length_cons] at h
  show (splice0 (C.setIfInBounds i v) r (i+1)).toList=_
  rw [splice0_list r _ _ (by simp;omega)]
  simp only [Array.toList_setIfInBounds,List.length_cons]
  rw [List.take_set,List.drop_set_of_lt (by omega),List.take_succ_eq_append_getElem (by simpa using (show i<C.size by omega))]
  rw [List.set_append_right _ _ (by simp;omega),List.length_take]
  have:i-min i C.toList.length=0:=by simp;omega
  rw [this,show i+1+r.length=i+(r.length+1) by omega]
  simp
theorem putFrom_at:∀(vs:List Value) {w:World} {C:Array Value} (i:Nat),BoxAt U w g C->BoxAt U (putFrom w g vs i) g (splice0 C vs i)
 |[],_,_,_,h=>h
 |v::r,_,_,i,h=>putFrom_at r (i+1) (h.set i v)
theorem putFrom_into:∀(vs:List Value) (w:World) (i:Nat),Flow.Into [g] w (putFrom w g vs i)
 |[],w,_=>Flow.Into.refl _ _
 |v::r,w,i=>(show Flow.Into [g] w (w.setCell ⟨g,i,none⟩ v) from ⟨rfl,rfl,rfl,by simp [World.setCell],fun k _ hk=>Below.heap_setCell _ _ _ _ (by simpa using hk)⟩).trans (putFrom_into r _ _)
def putB (w:World) (g:Nat) (C:Array Value):World:=putFrom w g C.toList 0
theorem putB_at (h:BoxAt U w g C) (hs:C'.size=C.size):BoxAt U (putB w g C') g C':=by
 have h1:=putFrom_at C'.toList 0 h
 have e:splice0 C C'.toList 0=C':=by
  apply Array.ext'
  rw [splice0_list _ _ _ (by simp;omega)]
  simp
  omega
 rw [e] at h1
 exact h1
theorem putB_into (w:World) (g:Nat) (C:Array Value):Flow.Into [g] w (putB w g C):=putFrom_into _ _ _
theorem run_stores:∀(vs:List Value) {w:World} {C:Array Value} (i:Nat),BoxAt U w g C->i+vs.length<=C.size->(∀v∈vs,v.oneCell'=true)->(storeCells ⟨g,0,none⟩ vs i).run P w= .ok () (putFrom w g vs i)
 |[],w,C,i,_,_,_=>by simp [storeCells,putFrom]
 |v::r,w,C,i,hx,h,h1=>by
  simp only [List.length_cons] at h
  have hi:i<C.size:=by omega
  have hc:=hx.cell (i:=i) (v:=C[i]) (by simp [hi])
  have ih:=run_stores r (i+1) (hx.set i v) (by simp;omega) (fun v hv=>h1 v (List.mem_cons_of_mem _ hv))
  unfold storeCells
  rw [Sem.run_bind,addr_add,run_store P w _ v _ (h1 v (by simp)),hc]
  simp only [hx.free i,Bool.false_eq_true,if_false,Result.andThen_ok]
  exact ih
theorem run_store_box (hs:(P.info? T).map (·.size)=some C.size) (hz:C'.size=C.size) (h1:∀v∈C'.toList,v.oneCell'=true) (hx:BoxAt U w g C):(Instr.storeAt T (.pointer (some ⟨g,0,none⟩)) (.agg C')).run P w= .ok () (putB w g C'):=by
 obtain ⟨i,hi,hz2⟩:=Option.map_eq_some_iff.1 hs
 have hst:=run_stores (P:=P) C'.toList 0 hx (by simp;omega) h1
 have hcs:(Value.agg C').cells=C':=rfl
 simp [Instr.storeAt,Instr.sureAddr,storeVar,hcs,sizeOf,typeInfo,hi,hz,hz2]
 exact hst
theorem run_var_box {fs:Array Field} (hu:P.underlying T=some (.struct fs)) (hs:(P.info? T).map (·.size)=some C.size) (hx:BoxAt U w g C):(loadVar T ⟨g,0,none⟩).run P w= .ok (.agg C) w:=by
 have h:=run_load_box (P:=P) hu hs hx
 simpa [Instr.loadAt,Instr.sureAddr] using h
theorem wpList_load_box {ops:Array Oper} {rest:List Oper} {o:Oper} {a:Act} {Q:Exit->Act->World->Prop} (hgd:o.guard=none) (x:Operand) (T:TypeId) (ho:o.op= .load T x) {fs:Array Field} (hu:P.underlying T=some (.struct fs)) (g:Nat) (C:Array Value) (hs:(P.info? T).map (·.size)=some C.size) (hx:a.eval x= .pointer (some ⟨g,0,none⟩)) (hb:BoxAt U w g C)
 (h:wpList P ops Q rest (a.put o.dst (.agg C)) w):wpList P ops Q (o::rest) a w:=by
 refine wpList_plain hgd fun K hK=>?_
 unfold Oper.wp execOp
 simp only [ho,hx,Sem.run_bind,run_load_box hu hs hb,Result.andThen_ok,Sem.run_pure]
 exact hK _ _ h
theorem wpList_load_pre {ops:Array Oper} {rest:List Oper} {o:Oper} {a:Act} {Q:Exit->Act->World->Prop} (hgd:o.guard=none) (x:Operand) (T:TypeId) (ho:o.op= .load T x) {fs:Array Field} (hu:P.underlying T=some (.struct fs)) (g:Nat) (C D:Array Value) (hs:(P.info? T).map (·.size)=some D.size) (hx:a.eval x= .pointer (some ⟨g,0,none⟩)) (hb:BoxAt U w g C) (hD:(C.toList.take D.size).toArray=D) (hle:D.size<=C.size)
 (h:wpList P ops Q rest (a.put o.dst (.agg D)) w):wpList P ops Q (o::rest) a w:=by
 refine wpList_plain hgd fun K hK=>?_
 obtain ⟨i,hi,hz⟩:=Option.map_eq_some_iff.1 hs
 have hl:=run_loads (P:=P) hb D.size 0 #[] (by omega)
 simp only [List.drop_zero] at hl
 rw [hD] at hl
 have h9:(Instr.loadAt T (.pointer (some ⟨g,0,none⟩))).run P w= .ok (.agg D) w:=by
  simp [Instr.loadAt,Instr.sureAddr,loadVar,isAgg,run_underlying hu,sizeOf,typeInfo,hi,hz,loadCells,hl]
 unfold Oper.wp execOp
 simp only [ho,hx,Sem.run_bind,h9,Result.andThen_ok,Sem.run_pure]
 exact hK _ _ h
theorem wpList_store_box {ops:Array Oper} {rest:List Oper} {o:Oper} {a:Act} {Q:Exit->Act->World->Prop} (hgd:o.guard=none) (x y:Operand) (T:TypeId) (ho:o.op= .store T x y) (hd:o.dst=none) (g:Nat) (C C':Array Value) (hs:(P.info? T).map (·.size)=some C.size) (hz:C'.size=C.size) (h1:∀v∈C'.toList,v.oneCell'=true) (hx:a.eval x= .pointer (some ⟨g,0,none⟩)) (hy:a.eval y= .agg C') (hb:BoxAt U w g C)
 (h:∀w',Hid (BoxAt U w' g C')->Flow.Into [g] w w'->wpList P ops Q rest a w'):wpList P ops Q (o::rest) a w:=by
 refine wpList_plain hgd fun K hK=>?_
 unfold Oper.wp execOp
 simp only [ho,hx,hy,Sem.run_bind,run_store_box hs hz h1 hb,Result.andThen_ok,Sem.run_pure]
 rw [Oper.upon_skip,hd]
 exact hK _ _ (h _ (putB_at hb hz) (putB_into w g C'))
end
end Mem
end Go.Proofs.YtjpjjnalpdpljaaGreatDoor
namespace Go.Proofs.YtjpjjnalpdpljaaGreatDoor
open Go.RowKit
namespace No
structure Cfg where
 blocks:Int
 bytes:Int
 frames:Int
 fan:Int
 buffer:Int
 leaf:Int
 key:Int
 val:Int
def cfCs (c:Cfg):Array Value:= #[.int .i64 c.blocks, .int .i64 c.bytes, .int .i64 c.frames, .int .i64 c.fan, .int .i64 c.buffer, .int .i64 c.leaf, .int .i64 c.key, .int .i64 c.val]
end No
end Go.Proofs.YtjpjjnalpdpljaaGreatDoor
namespace Go.Proofs.YtjpjjnalpdpljaaGreatDoor
open Go.RowKit
namespace Mem
structure Kp (T1 T2:TypeId) (B:Nat) (w w':World):Prop where
 below:Below B w w'
 block:∀(b:Nat) (C:Array Value) (T:TypeId) (f:Nat × Nat),w.heap[b]? =some (Obj.cells C T f)->T≠T1->T≠T2->w'.heap[b]? =some (Obj.cells C T f)
section
variable {T1 T2:TypeId} {B:Nat} {w w' w2:World}
theorem Kp.refl (T1 T2:TypeId) (B:Nat) (w:World):Kp T1 T2 B w w:=⟨Below.refl _ _,fun _ _ _ _ h _ _=>h⟩
theorem Kp.trans (h:Kp T1 T2 B w w') (k:Kp T1 T2 B w' w2):Kp T1 T2 B w w2:=⟨h.below.trans k.below,fun b C T f hb h1 h2=>k.block b C T f (h.block b C T f hb h1 h2) h1 h2⟩
theorem Kp.of_below (h:Below w.heap.size w w') (hB:B<=w.heap.size):Kp T1 T2 B w w':=⟨h.mono hB,fun b _ _ _ hb _ _=>(h.block b (Array.getElem?_eq_some_iff.1 hb).1).trans hb⟩
theorem Kp.set (h:Kp T1 T2 B w w') {g i:Nat} {C:Array Value} {T:TypeId} {f:Nat × Nat} (hg:B<=g) (hx:w'.heap[g]? =some (.cells C T f)) (hT:T=T1\/T=T2) (v:Value):Kp T1 T2 B w (w'.setCell ⟨g,i,none⟩ v):=by
 refine ⟨h.below.setCell hg _,fun b C' T' f' hb h1 h2=>?_⟩
 have h3:=h.block b C' T' f' hb h1 h2
 by_cases e:b=g
 . subst e
   rw [hx] at h3
   simp only [Option.some.injEq,Obj.cells.injEq] at h3
   obtain ⟨-,rfl,-⟩:=h3
   rcases hT with hT|hT
   . exact absurd hT h1
   . exact absurd hT h2
 . rw [<-h3]
   exact Below.heap_setCell _ _ _ _ e
theorem Kp.mono {B':Nat} (h:Kp T1 T2 B w w') (hB:B'<=B):Kp T1 T2 B' w w':=⟨h.below.mono hB,h.block⟩
theorem Kp.box (h:Kp T1 T2 B w w') {b:Nat} {C:Array Value} {T:TypeId} {f:Nat × Nat} (hb:w.heap[b]? =some (.cells C T f)) (h1:T≠T1) (h2:T≠T2):w'.heap[b]? =some (.cells C T f):=h.block b C T f hb h1 h2
end
section
variable {U:TypeId} {B:Nat} {w w':World} {v:Value} {l:List UInt8}
theorem Own.row (h:Own U w B v l):∀k,v.ownBlock=some k->B<=k/\∃C,w.heap[k]? =some (.cells C U (0,0)):=by
 intro k hk
 rcases h.2 with ⟨rfl,_⟩|⟨g,cap,cur,rfl,hb,hg,_⟩
 . simp [Value.ownBlock] at hk
 . simp [Value.ownBlock] at hk
   subst hk
   exact ⟨hb,cur,hg⟩
theorem Own.sl (h:Own U w B v l):∃A m c,v= .slice A m c:=by
 obtain ⟨A,c,e,-,-⟩:=h.slice
 exact ⟨A,_,c,e⟩
theorem Own.grown {T2:TypeId} (h:Own U w B v l) (hg:w.grownBy w' v.ownBlock) (hB:B<=w.heap.size):Kp U T2 B w w':=by
 refine ⟨⟨hg.os,hg.tape,hg.output,hg.size,fun k hk=>hg.block k (by omega) fun e=>?_⟩,fun b C T f hb h1 _=>?_⟩
 . have:=(h.row k e.symm).1
   omega
 . refine (hg.block b (Array.getElem?_eq_some_iff.1 hb).1 fun e=>?_).trans hb
   obtain ⟨-,C',h3⟩:=h.row b e.symm
   rw [hb] at h3
   simp only [Option.some.injEq,Obj.cells.injEq] at h3
   exact h1 h3.2.1
theorem Own.keep (h:Own U w B v l) (hk:∀k,v.ownBlock=some k->w'.heap[k]? =w.heap[k]?):Own U w' B v l:=by
 refine ⟨h.1,?_⟩
 rcases h.2 with hn|⟨g,cap,cur,rfl,hb,hg,hr⟩
 . exact .inl hn
 . exact .inr ⟨g,cap,cur,rfl,hb,(hk g rfl).trans hg,hr⟩
theorem Own.kept (h:Own U w B v l) (hb:Below w.heap.size w w'):Own U w' B v l:=h.keep fun k hk=>by
 obtain ⟨-,C,hc⟩:=h.row k hk
 exact hb.block k (Array.getElem?_eq_some_iff.1 hc).1
theorem Own.set_other (h:Own U w B v l) {g i:Nat} {C:Array Value} {T:TypeId} {f:Nat × Nat} (hx:w.heap[g]? =some (.cells C T f)) (hT:T≠U) (x:Value):Own U (w.setCell ⟨g,i,none⟩ x) B v l:=h.keep fun k hk=>by
 obtain ⟨-,C',hc⟩:=h.row k hk
 refine Below.heap_setCell _ _ _ _ fun e=>?_
 subst e
 rw [hx] at hc
 simp only [Option.some.injEq,Obj.cells.injEq] at hc
 exact hT hc.2.1
end
theorem wpList_append_text {P:Program} {w:World} {ops:Array Oper} {rest:List Oper} {o:Oper} {a:Act} {Q:Exit->Act->World->Prop} (hgd:o.guard=none) (s x:Operand) (t u:TypeId)
 (ho:o.op= .call { callee:= .builtin .append,args:= #[s,x],argTypes:= #[t,u] }) (B:Nat) (U:TypeId) (ht:P.underlying t=some (.slice U)) (hu:P.underlying u=some .string) (hinfo:(P.info? U).map (fun i=>(i.zero,i.size,i.bytes))=some (some (.int .u8 0),1,1))
 (v:Value) (xs:List UInt8) (hs:a.eval s=v) (hown:Own U w B v xs) (sb:ByteArray) (hx:a.eval x= .string sb) (hsz:xs.length+sb.size<=1048576) (hB:B<=w.heap.size)
 (h:∀v' w',Hid (Own U w' B v' (xs++sb.data.toList))->w.grownBy w' v.ownBlock->wpList P ops Q rest (a.put o.dst v') w'):wpList P ops Q (o::rest) a w:=by
 obtain ⟨i,hi,hz,hs1,hb1⟩:=info_parts hinfo
 refine Lib.wpList_append_own_string w hgd s x t u ho B U i ht hu hi hz hs1 hb1 v xs.length (bytesV xs) hs hown sb hx (by unfold maxLen;omega) (by omega) hB fun v' w' h1 h2 _=>h v' w' ?_ h2
 show w'.ownsRow B U 1 v' (xs++sb.data.toList).length (bytesV (xs++sb.data.toList))
 rw [List.length_append,show bytesV (xs++sb.data.toList)=bytesV xs++bytesV sb.data.toList by simp [bytesV]]
 exact h1
theorem zeroCells_u8 (k:Nat):Builtin.zeroCells (Value.int IntKind.u8 0).cells k=(List.replicate k (Value.int .u8 0)).toArray:=by
 have e:(Value.int IntKind.u8 0).cells= #[Value.int .u8 0]:=rfl
 apply Array.ext'
 rw [e]
 simp [Builtin.zeroCells,Nat.mod_one]
 rw [List.eq_replicate_iff]
 simp
theorem run_zeros_text {P:Program} (w:World) (t tn u ty e:TypeId) (i:TypeInfo) (kn:IntKind) (ht:P.underlying t=some (.slice e)) (htn:P.underlying tn=some (.int kn)) (hu:P.underlying u=some .string) (hi:P.info? e=some i) (hz:i.zero=some (.int .u8 0)) (hs1:i.size=1) (hb1:i.bytes=1)
 (A:Option Addr) (n c k:Nat) (hk:n+k<=1048576) (sb:ByteArray) (hsb:sb.data.toList=List.replicate k 0):
 (Builtin.append_ #[t,tn] ty #[.slice A n c, .int .i64 (k:Int)]).run P w=(Builtin.append_ #[t,u] ty #[.slice A n c, .string sb]).run P w:=by
 have hw:IntKind.i64.wrap (k:Int)=k:=by rw [IntKind.wrap_i64];omega
 have hneg:¬((k:Int)<0):=by omega
 have h48:¬(281474976710656<(k:Int)):=by omega
 have hsz:sb.size=k:=by
  have:=congrArg List.length hsb
  simpa using this
 have hex:((sb.extract 0 k).data.map fun b=>Value.int .u8 b.toNat)=(List.replicate k (Value.int .u8 0)).toArray:=by
  apply Array.ext'
  simp [ByteArray.data_extract,hsb]
 have hfc:Builtin.firstCells 1 k (.string sb)=pure (List.replicate k (Value.int .u8 0)).toArray:=by
  simp only [Builtin.firstCells]
  rw [hex]
 generalize hv:(List.replicate k (Value.int .u8 0)).toArray=vs at*
 have hzc:Builtin.zeroCells (Value.int IntKind.u8 0).cells k=vs:=by rw [zeroCells_u8,hv]
 by_cases h0:k=0
 . subst h0
   have hvs:vs= #[]:=by rw [<-hv];rfl
   have hw0:IntKind.i64.wrap 0=0:=rfl
   subst hvs
   by_cases hc:n<=c
   . simp [Builtin.append_,run_underlying ht,run_underlying htn,run_underlying hu,sizeOf,typeInfo,hi,hs1,hb1,Builtin.lenOf,asInt,asIntOf,hw0,hsz,hfc,hc]
   . have h48':¬(281474976710656<Builtin.nextslicecap n c):=by
      have:=growslice_fits (need:=n) (old:=c) (bytes:=1) (by omega) (by omega)
      omega
     have h63:¬(9223372036854775807<(n:Int)):=by omega
     simp [Builtin.append_,run_underlying ht,run_underlying htn,run_underlying hu,sizeOf,typeInfo,hi,hs1,hb1,Builtin.lenOf,asInt,asIntOf,hw0,hsz,hfc,hc,h48',h63]
 . by_cases hc:n+k<=c
   . simp [Builtin.append_,run_underlying ht,run_underlying htn,run_underlying hu,sizeOf,typeInfo,hi,hs1,hb1,Builtin.lenOf,asInt,asIntOf,hw,hneg,h48,hsz,hfc,hc,h0,zeroValue,hz,hzc]
   . have h48':¬(281474976710656<Builtin.nextslicecap (n+k) c):=by
      have:=growslice_fits (need:=n+k) (old:=c) (bytes:=1) (by omega) (by omega)
      omega
     have h63:¬(9223372036854775807<(n:Int)+(k:Int)):=by omega
     simp [Builtin.append_,run_underlying ht,run_underlying htn,run_underlying hu,sizeOf,typeInfo,hi,hs1,hb1,Builtin.lenOf,asInt,asIntOf,hw,hneg,h48,hsz,hfc,hc,h0,zeroValue,hz,hzc,h48',h63]
theorem wpList_append_zeros {P:Program} {w:World} {ops:Array Oper} {rest:List Oper} {o:Oper} {a:Act} {Q:Exit->Act->World->Prop} (hgd:o.guard=none) (s x:Operand) (t tn u:TypeId) {kn:IntKind}
 (ho:o.op= .call { callee:= .builtin .append,args:= #[s,x],argTypes:= #[t,tn] }) (B:Nat) (U:TypeId) (ht:P.underlying t=some (.slice U)) (htn:P.underlying tn=some (.int kn)) (hu:P.underlying u=some .string) (hinfo:(P.info? U).map (fun i=>(i.zero,i.size,i.bytes))=some (some (.int .u8 0),1,1))
 (v:Value) (xs:List UInt8) (hs:a.eval s=v) (hown:Own U w B v xs) (k:Nat) (hx:a.eval x= .int .i64 (k:Int)) (hsz:xs.length+k<=1048576) (hB:B<=w.heap.size)
 (h:∀v' w',Hid (Own U w' B v' (xs++List.replicate k 0))->w.grownBy w' v.ownBlock->wpList P ops Q rest (a.put o.dst v') w'):wpList P ops Q (o::rest) a w:=by
 obtain ⟨i,hi,hz,hs1,hb1⟩:=info_parts hinfo
 obtain ⟨A,c,rfl,-,-⟩:=hown.slice
 obtain ⟨sb,hsb⟩:∃sb:ByteArray,sb.data.toList=List.replicate k 0:=⟨⟨(List.replicate k 0).toArray⟩,rfl⟩
 have hsl:sb.size=k:=by
  have:=congrArg List.length hsb
  simpa using this
 obtain ⟨v',w',hr,h2,h3,_⟩:=Lib.run_append_own_string (P:=P) w B t u o.type U i ht hu hi hz hs1 hb1 (.slice A xs.length c) xs.length (bytesV xs) hown sb (by unfold maxLen;omega) (by omega) hB
 rw [<-run_zeros_text w t tn u o.type U i kn ht htn hu hi hz hs1 hb1 A xs.length c k hsz sb hsb] at hr
 refine Lib.wpList_append_run w hgd s x t tn ho _ _ hs hx v' w' hr (h v' w' ?_ h3)
 have e:Lib.strCells sb=bytesV (List.replicate k 0):=by
  unfold Lib.strCells
  rw [hsb]
  rfl
 rw [e,hsl] at h2
 show w'.ownsRow B U 1 v' (xs++List.replicate k 0).length (bytesV (xs++List.replicate k 0))
 rw [List.length_append,List.length_replicate,show bytesV (xs++List.replicate k 0)=bytesV xs++bytesV (List.replicate k 0) by simp [bytesV]]
 exact h2
end Mem
end Go.Proofs.YtjpjjnalpdpljaaGreatDoor
