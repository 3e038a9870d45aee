import Derived.Test.YtjpjjnalpdpljaaGreatDoorPkAA
import Derived.Lib.QuietBelow
import Derived.StillTail
import Derived.WalkKit
import Derived.Below
import Derived.Laws.Slices
import Derived.Laws.MakeOwn
import Derived.Deep.Draws
import Derived.Lib.Hide
import Derived.Maps.AppendAt
import Derived.Laws.OwnMore
import Derived.Deep.AppendLies
import Derived.ProofKit
import Derived.Laws.BytesArg
import Derived.Laws.CopyOwn
namespace Go.Proofs.YtjpjjnalpdpljaaGreatDoor
namespace Ca
open Cn (del del_notin)
theorem look_set {fr:List (Option Fr)} (hU:Uq fr) {a:Nat} {f:Fr} (ha:a<fr.length) (ho:∀(j:Nat) (g:Fr),fr[j]? =some (some g)->g.1=f.1->j=a) (hn:∀g:Fr,fr[a]? =some (some g)->g.1=f.1) (x:Nat):
 look (fr.set a (some f)) x=if x=f.1 then some (a,f) else look fr x:=by
 by_cases hx:x=f.1
 . subst hx
   rw [if_pos rfl]
   exact look_at (uq_set hU ho) (by rw [set_get,if_pos rfl,if_pos ha])
 . rw [if_neg hx]
   cases h:look fr x with
   |none=>
    refine look_none_of fun j g hj=>?_
    rw [set_get] at hj
    by_cases h1:a=j
    . subst h1
      rw [if_pos rfl,if_pos ha] at hj
      obtain rfl:f=g:=by simpa using hj
      exact fun e=>hx e.symm
    . rw [if_neg h1] at hj
      exact look_none h j g hj
   |some y=>
    obtain ⟨j,g⟩:=y
    obtain ⟨hg,rfl⟩:=look_some h
    refine look_at (uq_set hU ho) ?_
    rw [set_get]
    by_cases h1:a=j
    . subst h1;exact absurd (hn g hg) hx
    . rw [if_neg h1];exact hg
theorem look_unset {fr:List (Option Fr)} (hU:Uq fr) {a:Nat} {f:Fr} (hf:fr[a]? =some (some f)) (x:Nat):look (fr.set a none) x=if x=f.1 then none else look fr x:=by
 by_cases hx:x=f.1
 . subst hx
   rw [if_pos rfl]
   refine look_none_of fun j g hj e=>?_
   rw [set_get] at hj
   by_cases h1:a=j
   . rw [if_pos h1] at hj;split at hj<;>cases hj
   . rw [if_neg h1] at hj
     exact h1 (hU a j f g hf hj e.symm)
 . rw [if_neg hx]
   cases h:look fr x with
   |none=>
    refine look_none_of fun j g hj=>?_
    rw [set_get] at hj
    by_cases h1:a=j
    . rw [if_pos h1] at hj;split at hj<;>cases hj
    . rw [if_neg h1] at hj
      exact look_none h j g hj
   |some y=>
    obtain ⟨j,g⟩:=y
    obtain ⟨hg,rfl⟩:=look_some h
    refine look_at (uq_unset hU a) ?_
    rw [set_get]
    by_cases h1:a=j
    . subst h1
      rw [hf] at hg
      obtain rfl:f=g:=by simpa using hg
      exact absurd rfl hx
    . rw [if_neg h1];exact hg
theorem look_mark {fr:List (Option Fr)} (hU:Uq fr) {a:Nat} {f f':Fr} (hf:fr[a]? =some (some f)) (h1:f'.1=f.1) (x:Nat):look (fr.set a (some f')) x=if x=f.1 then some (a,f') else look fr x:=by
 rw [look_set hU (lt_of_get hf) (fun j g hj e=>hU j a g f hj hf (e.trans h1)) (fun g hg=>by rw [hf] at hg;cases hg;exact h1.symm),h1]
def cur (st:St) (i:Nat):List UInt8:=match look st.fr i with
 |some (_,f)=>f.2.1
 |none=>(st.ls[i]?).getD []
section
variable {st t:St}
theorem cur_some {i j:Nat} {f:Fr} (h:look st.fr i=some (j,f)):cur st i=f.2.1:=by unfold cur;rw [h]
theorem cur_none {i:Nat} (h:look st.fr i=none):cur st i=(st.ls[i]?).getD []:=by unfold cur;rw [h]
theorem cur_clean (h:Good st) (a i:Nat):cur (cleanT st a) i=cur st i:=by
 unfold cleanT
 split
 . rename_i b x p hf
   have hl:=look_mark (f':=(b,x,false,p)) h.uq hf rfl i
   unfold cur
   simp only [hl]
   by_cases e:i=b
   . subst e
     rw [if_pos rfl,look_at h.uq hf]
   . rw [if_neg e]
     cases look st.fr i with
     |none=>simp only;rw [List.getElem?_set,if_neg (fun e'=>e e'.symm)]
     |some y=>rfl
 . rfl
theorem cur_empty (h:Good st) {a:Nat} {f:Fr} (hf:st.fr[a]? =some (some f)) (hd:f.2.2.1=false) (i:Nat):cur (emptyT st a) i=cur st i:=by
 have hl:=look_unset h.uq hf i
 unfold emptyT cur
 simp only [hl]
 by_cases e:i=f.1
 . subst e
   rw [if_pos rfl,look_at h.uq hf]
   simp only
   rw [h.cl _ _ hf hd]
   rfl
 . rw [if_neg e]
theorem cur_room (h:Good st) {a:Nat} (hr:roomT st=some (a,t)) (i:Nat):cur t i=cur st i:=by
 unfold roomT at hr
 split at hr
 . cases hr
 . split at hr
   . rename_i f hf
     simp only [Option.some.injEq,Prod.mk.injEq] at hr
     obtain ⟨rfl,rfl⟩:=hr
     obtain ⟨b,x,d,p⟩:=f
     rw [cur_empty (h.clean _) (clean_at hf) rfl,cur_clean h]
   . simp only [Option.some.injEq,Prod.mk.injEq] at hr
     obtain ⟨rfl,rfl⟩:=hr
     rfl
theorem cur_pin (h:Good st) (b i:Nat):cur (pinT st b).2 i=cur st i:=by
 unfold pinT
 split
 . rename_i hb
   split
   . rename_i j f hl
     obtain ⟨hf,rfl⟩:=look_some hl
     have:=look_mark (f':=(f.1,f.2.1,f.2.2.1,f.2.2.2+1)) h.uq hf rfl i
     unfold fillT cur
     simp only [this]
     by_cases e:i=f.1
     . subst e
       rw [if_pos rfl,hl]
     . rw [if_neg e]
   . rename_i hl
     split
     . rfl
     . rename_i a t hr
       obtain ⟨g1,g2,g3,g4,g5,g6,g7⟩:=room_spec h hr
       have hn:=look_none hl
       have hlt:look t.fr b=none:=look_none_of fun j g hj=>hn j g (g5 j g hj)
       have:=look_set (f:=(b,(t.ls[b]?).getD [],false,1)) g1.uq (lt_of_get g2) (fun j g hj e=>absurd e (hn j g (g5 j g hj))) (fun g hg=>by rw [g2] at hg;cases hg) i
       rw [<-cur_room h hr i]
       show cur (fillT (readT t) a (b,(t.ls[b]?).getD [],false,1)) i=_
       unfold fillT readT cur
       simp only [this]
       by_cases e:i=b
       . subst e
         rw [if_pos rfl,hlt]
       . rw [if_neg e]
 . rfl
theorem cur_fresh (h:Good st) (b i:Nat):cur (freshT st b).2 i=if (freshT st b).1=0/\i=b then List.replicate st.m 0 else cur st i:=by
 unfold freshT
 split
 . rename_i hb
   split
   . simp
   . split
     . rename_i j f hl
       obtain ⟨hf,rfl⟩:=look_some hl
       have:=look_mark (f':=(f.1,List.replicate st.m 0,true,1)) h.uq hf rfl i
       unfold fillT
       simp only [true_and]
       unfold cur
       simp only [this]
       by_cases e:i=f.1
       . subst e
         rw [if_pos rfl,if_pos rfl]
       . rw [if_neg e,if_neg e]
     . rename_i hl
       split
       . simp
       . rename_i a t hr
         obtain ⟨g1,g2,g3,g4,g5,g6,g7⟩:=room_spec h hr
         have hn:=look_none hl
         have:=look_set (f:=(b,List.replicate st.m 0,true,1)) g1.uq (lt_of_get g2) (fun j g hj e=>absurd e (hn j g (g5 j g hj))) (fun g hg=>by rw [g2] at hg;cases hg) i
         rw [<-cur_room h hr i]
         unfold fillT
         simp only [true_and]
         unfold cur
         simp only [this]
         by_cases e:i=b
         . subst e
           rw [if_pos rfl,if_pos rfl]
         . rw [if_neg e,if_neg e]
 . simp
theorem cur_unpin (h:Good st) (b i:Nat):cur (unpinT st b).2 i=cur st i:=by
 unfold unpinT
 split
 . rename_i j f hl
   obtain ⟨hf,rfl⟩:=look_some hl
   split
   . rfl
   . have:=look_mark (f':=(f.1,f.2.1,f.2.2.1,f.2.2.2-1)) h.uq hf rfl i
     unfold cur
     simp only [this]
     by_cases e:i=f.1
     . subst e
       rw [if_pos rfl,hl]
     . rw [if_neg e]
 . rfl
theorem cur_write (h:Good st) (b:Nat) (y:List UInt8) (i:Nat):cur (writeT st b y).2 i=if (writeT st b y).1=0/\i=b then y else cur st i:=by
 unfold writeT
 split
 . rename_i j f hl
   obtain ⟨hf,rfl⟩:=look_some hl
   split
   . simp
   . split
     . have:=look_mark (f':=(f.1,y,true,f.2.2.2)) h.uq hf rfl i
       simp only [true_and]
       unfold cur
       simp only [this]
       by_cases e:i=f.1
       . subst e
         rw [if_pos rfl,if_pos rfl]
       . rw [if_neg e,if_neg e]
     . simp
 . simp
theorem cur_cleanB (h:Good st) (b i:Nat):cur (cleanB st b) i=cur st i:=by
 unfold cleanB
 split
 . exact cur_clean h _ _
 . rfl
theorem dirty_cleanB (h:Good st) (b i:Nat):dirtyP (cleanB st b) i=(dirtyP st i&& !decide (i=b)):=by
 unfold cleanB
 cases hl:look st.fr b with
 |none=>
  simp only
  unfold dirtyP
  by_cases e:i=b
  . subst e;rw [hl];rfl
  . simp [e]
 |some y=>
  obtain ⟨a,f⟩:=y
  obtain ⟨hf,rfl⟩:=look_some hl
  obtain ⟨b,x,d,p⟩:=f
  simp only
  unfold cleanT
  rw [hf]
  cases d with
  |true=>
   simp only
   have:=look_mark (f':=(b,x,false,p)) h.uq hf rfl i
   unfold dirtyP
   simp only [this]
   by_cases e:i=b
   . subst e;simp
   . simp [e]
  |false=>
   simp only
   by_cases e:i=b
   . subst e
     unfold dirtyP
     rw [hl]
     rfl
   . simp [e]
theorem cleans_cur (l:List Nat):∀{st:St},Good st->(∀i,cur (l.foldl cleanB st) i=cur st i)/\∀i,dirtyP (l.foldl cleanB st) i=(dirtyP st i&& !decide (i∈l)):=by
 induction l with
 |nil=>intro st _;simp
 |cons x r ih=>
  intro st h
  obtain ⟨h1,h2⟩:=ih (h.cleanB x)
  refine ⟨fun i=>(h1 i).trans (cur_cleanB h x i),fun i=>?_⟩
  rw [List.foldl_cons,h2 i,dirty_cleanB h x i]
  simp only [List.mem_cons,Bool.decide_or,Bool.not_or,Bool.and_assoc]
theorem dirty_lt (h:Good st) {i:Nat} (hd:dirtyP st i=true):i<st.ls.length:=by
 unfold dirtyP at hd
 cases hl:look st.fr i with
 |none=>rw [hl] at hd;cases hd
 |some y=>
  obtain ⟨hf,hb⟩:=look_some (j:=y.1) (f:=y.2) hl
  rw [<-hb]
  exact (h.blk _ _ hf).1
theorem flush_all (h:Good st):(∀i,cur (flushT st) i=cur st i)/\dirtyL (flushT st)=[]/\(flushT st).ls=(List.range st.ls.length).map (cur st):=by
 obtain ⟨h1,h2⟩:=cleans_cur (dirtyL st) h
 have hnd:∀i,dirtyP (flushT st) i=false:=fun i=>by
  have:=h2 i
  unfold flushT
  rw [this]
  cases hd:dirtyP st i with
  |false=>rfl
  |true=>
   have hm:i∈dirtyL st:=by
    unfold dirtyL
    rw [List.mem_filter,List.mem_range]
    exact ⟨dirty_lt h hd,hd⟩
   simp [hm]
 have hc:∀i,cur (flushT st) i=cur st i:=h1
 have hlen:(flushT st).ls.length=st.ls.length:=(cost_flush st).ll
 refine ⟨hc,?_,?_⟩
 . unfold dirtyL
   rw [List.filter_eq_nil_iff]
   intro i _
   rw [hnd i]
   simp
 . apply List.ext_getElem?
   intro i
   by_cases hi:i<st.ls.length
   . rw [List.getElem?_map,List.getElem?_range hi]
     simp only [Option.map_some]
     rw [<-hc i]
     have hi':i<(flushT st).ls.length:=by rw [hlen];exact hi
     have hgd:=h.flush
     cases hl:look (flushT st).fr i with
     |none=>
      rw [cur_none hl,List.getElem?_eq_getElem hi']
      rfl
     |some y=>
      obtain ⟨j,f⟩:=y
      obtain ⟨hf,hb⟩:=look_some hl
      rw [cur_some hl]
      have hdf:f.2.2.1=false:=by
       have:=hnd i
       unfold dirtyP at this
       rw [hl] at this
       exact this
      have:=hgd.cl _ _ hf hdf
      rw [hb] at this
      exact this
   . rw [List.getElem?_eq_none (by rw [hlen];omega),List.getElem?_eq_none (by simp;omega)]
end
end Ca
end Go.Proofs.YtjpjjnalpdpljaaGreatDoor
namespace Go.Proofs.YtjpjjnalpdpljaaGreatDoor.Flow
open Go.RowKit Go.Sort
structure Into (S:List Nat) (w w':World):Prop where
 os:w'.os=w.os
 tape:w'.tape=w.tape
 output:w'.output=w.output
 size:w.heap.size<=w'.heap.size
 block:∀k,k<w.heap.size->k∉S->w'.heap[k]? =w.heap[k]?
theorem Into.refl (S:List Nat) (w:World):Into S w w:=⟨rfl,rfl,rfl,Nat.le_refl _,fun _ _ _=>rfl⟩
theorem Into.trans {S:List Nat} {a b c:World} (h:Into S a b) (k:Into S b c):Into S a c:=
 ⟨k.os.trans h.os,k.tape.trans h.tape,k.output.trans h.output,Nat.le_trans h.size k.size,fun i hi hn=>(k.block i (Nat.lt_of_lt_of_le hi h.size) hn).trans (h.block i hi hn)⟩
theorem Into.of_below {S:List Nat} {w w':World} (h:Below w.heap.size w w'):Into S w w':=⟨h.os,h.tape,h.output,h.size,fun k hk _=>h.block k hk⟩
theorem Into.below {w w':World} (h:Into [] w w'):Below w.heap.size w w':=⟨h.os,h.tape,h.output,h.size,fun k hk=>h.block k hk (by simp)⟩
theorem Into.mono {S S':List Nat} {w w':World} (h:Into S w w') (hs:∀k,k∈S->k∈S'):Into S' w w':=⟨h.os,h.tape,h.output,h.size,fun k hk hn=>h.block k hk fun hh=>hn (hs k hh)⟩
structure But where
 d:Nat
 os:Array Obj
 f:Nat->Obj
instance:Inhabited But:=⟨⟨0,#[],fun _=> .cells #[] 0⟩⟩
def but (S:List Nat) (w:World) (p:But):World:={ w with drawn:=p.d,heap:=(w.heap.mapIdx fun k o=>if k∈S then p.f k else o)++p.os }
theorem into_but (S:List Nat) (w:World) (p:But):Into S w (but S w p):=
 ⟨rfl,rfl,rfl,by simp [but],fun k hk hn=>by simp [but,Array.getElem?_append,hk,hn]⟩
theorem but_of_into {S:List Nat} {w w':World} (h:Into S w w'):∃p:But,w'=but S w p:=by
 refine ⟨⟨w'.drawn,w'.heap.extract w.heap.size w'.heap.size,fun k=>w'.heap.getD k (.cells #[] 0)⟩,?_⟩
 obtain ⟨heap',tape',drawn',os',output'⟩:=w'
 have e1:os'=w.os:=h.os
 have e2:tape'=w.tape:=h.tape
 have e3:output'=w.output:=h.output
 have hs:w.heap.size<=heap'.size:=h.size
 have hb:∀k,k<w.heap.size->k∉S->heap'[k]? =w.heap[k]? :=h.block
 subst e1 e2 e3
 simp only [but]
 congr 1
 apply Array.ext_getElem?
 intro k
 by_cases hk:k<w.heap.size
 . rw [Array.getElem?_append_left (by simpa using hk)]
   by_cases hn:k∈S
   . have:k<heap'.size:=by omega
     simp [hk,hn,this]
   . rw [hb k hk hn];simp [hk,hn]
 . rw [Array.getElem?_append_right (by simpa using hk),Array.getElem?_extract]
   simp only [Array.size_mapIdx]
   by_cases hk2:k<heap'.size
   . rw [if_pos (by omega)];congr 1;omega
   . rw [if_neg (by omega),Array.getElem?_eq_none (by omega)]
theorem lt_of_cell {w:World} {a:Addr} {v:Value} (h:w.cell? a=some v):a.block<w.heap.size:=by
 rcases Nat.lt_or_ge a.block w.heap.size with h'|h'
 . exact h'
 . simp [World.cell?,Array.getElem?_eq_none h'] at h
theorem Into.cell {S:List Nat} {w w':World} (h:Into S w w') {a:Addr} {v:Value} (hc:w.cell? a=some v) (hn:a.block∉S):w'.cell? a=some v:=
 (World.cell?_of_block (w:=w) (h.block a.block (lt_of_cell hc) hn)).trans hc
section
variable {P:Program} {ops:Array Oper} {md:Region.Mode} {S:List Nat}
def Kept (w w':World):Prop:=Below w.heap.size w w'
theorem Kept.trans {a b c:World} (h:Kept a b) (k:Kept b c):Kept a c:=Below.trans h (Below.mono k h.size)
theorem Kept.into {a b:World} (h:Kept a b):Into S a b:=Into.of_below h
def upon (P:Program) (w:World) (v:Value):Result Next->Prop
 | .ok (.value u) w'=>w'=w/\u=v
 | .ok .skip w'=>w'=w/\v=undef
 | .ok (.enter f args) w'=>w'=w/\Calls P f args w (fun e w''=>e= .returned v/\Kept w w'')
 |_=>False
def calmAt (P:Program) (o:Oper) (a:Act) (w:World) (v:Value):Prop:=upon P w v ((execOp a.eval o).run P w)
def calm (P:Program) (S:List Nat) (w0:World) (o:Oper) (a:Act) (next:Act->Prop):Prop:=∃v,(∀p:But,calmAt P o a (but S w0 p) v)/\next (a.put o.dst v)
def evUpon (P:Program) (S:List Nat) (V:Value->World->Prop) (w:World):Result Next->Prop
 | .ok (.value u) w'=>V u w'/\Into S w w'
 | .ok .skip w'=>V undef w'/\Into S w w'
 | .ok (.enter f args) w'=>w'=w/\Calls P f args w (fun e w''=>∃v,e= .returned v/\V v w''/\Into S w w'')
 |_=>False
def evAt (P:Program) (S:List Nat) (o:Oper) (a:Act) (w:World) (V:Value->World->Prop):Prop:=evUpon P S V w ((execOp a.eval o).run P w)
def walk (P:Program) (ops:Array Oper) (S:List Nat) (E:World->Act->Prop):List (Oper × Nat)->World->Act->Prop
 |[],w,a=>E w a
 |(o,0)::r,w,a=>if Region.wanted o (yielded ops a.tmps) then calm P S w o a (walk P ops S E r w) else walk P ops S E r w (a.put o.dst undef)
 |(o,1)::r,w,a=>if Region.wanted o (yielded ops a.tmps) then ∃V:Value->World->Prop,(∀W,Kept w W->evAt P S o a W V)/\∀v w1,V v w1->Into S w w1->walk P ops S E r w1 (a.put o.dst v)
    else walk P ops S E r w (a.put o.dst undef)
 |(o,_+2)::r,w,a=>∃v,Yields P ops o v a/\walk P ops S E r w (a.put o.dst v)
theorem walk_nil {E:World->Act->Prop} {a:Act} {w:World} (h:E w a):walk P ops S E [] w a:=h
theorem walk_step {E:World->Act->Prop} {a:Act} {w:World} {o:Oper} {rest:List (Oper × Nat)}
 (h:∀K:Act->Prop,(∀a,walk P ops S E rest w a->K a)->if Region.wanted o (yielded ops a.tmps) then calm P S w o a K else K (a.put o.dst undef)):walk P ops S E ((o,0)::rest) w a:=
 h _ (fun _ h=>h)
theorem walk_event {E:World->Act->Prop} {a:Act} {w:World} {o:Oper} {rest:List (Oper × Nat)} (hg:o.guard=none) (V:Value->World->Prop)
 (h1:∀W,Kept w W->evAt P S o a W V) (h2:∀v w1,V v w1->Into S w w1->walk P ops S E rest w1 (a.put o.dst v)):walk P ops S E ((o,1)::rest) w a:=by
 unfold walk
 rw [if_pos (by simp [Region.wanted,hg])]
 exact ⟨V,h1,h2⟩
theorem walk_clear {E:World->Act->Prop} {a:Act} {w:World} {o:Oper} {rest:List (Oper × Nat)} (hg:o.guard=none) (v:Value)
 (h1:∀W,(execOp a.eval o).run P W= .ok (.value v) W) (h2:walk P ops S E rest w (a.put o.dst v)):walk P ops S E ((o,2)::rest) w a:=
 ⟨v, .inl ⟨by simp [Region.wanted,hg],h1⟩,h2⟩
def cOp (P:Program) (ops:Array Oper) (S:List Nat) (w0:World) (o:Oper) (K:Act->Prop) (a:Act):Prop:=
 if Region.wanted o (yielded ops a.tmps) then calm P S w0 o a K else K (a.put o.dst undef)
def Y (P:Program) (ops:Array Oper) (S:List Nat) (w0:World) (o:Oper) (v:Value) (a:Act):Prop:=
 (Region.wanted o (yielded ops a.tmps)=true/\∀p:But,calmAt P o a (but S w0 p) v)\/(Region.wanted o (yielded ops a.tmps)=false/\v=undef)
theorem Y.cOp {w0:World} {o:Oper} {v:Value} {a:Act} (hy:Y P ops S w0 o v a) {K:Act->Prop} (h:K (a.put o.dst v)):cOp P ops S w0 o K a:=by
 unfold Flow.cOp
 rcases hy with ⟨hw,hv⟩|⟨hw,rfl⟩
 . rw [if_pos hw];exact ⟨v,hv,h⟩
 . rw [if_neg (by rw [hw];exact Bool.false_ne_true)];exact h
theorem Y.put {w0:World} {o oj:Oper} {v u:Value} {a:Act} (hs:∀cs b,o.op≠ .select cs b) (h3:∀d,oj.dst=some d->d∉o.looksAt ops) (hy:Y P ops S w0 o v a):Y P ops S w0 o v (a.put oj.dst u):=by
 unfold Y calmAt at*
 rw [execOp_put o hs a oj.dst u h3,wanted_put o a oj.dst u h3]
 exact hy
theorem or_map {p q r:Prop} (h:p\/q) (f:q->r):p\/r:=by
 rcases h with h|h
 . exact .inl h
 . exact .inr (f h)
structure Inv (S:List Nat) (n0:Nat) (obj:Obj) (bs:List World) (g:Option Nat) (W:World):Prop where
 all:∀w,w∈bs->Into S w W
 last:∀w,bs.getLast? =some w->Kept w W
 laid:∀b,g=some b->n0<=b/\b∉S/\W.heap[b]? =some obj
 size:n0<=W.heap.size
theorem block_lt {W:World} {b:Nat} {obj:Obj} (h:W.heap[b]? =some obj):b<W.heap.size:=(Array.getElem?_eq_some_iff.1 h).1
section
variable {n0:Nat} {obj:Obj} {bs:List World} {g:Option Nat} {W W':World}
theorem Inv.keep (h:Inv S n0 obj bs g W) (hk:Kept W W'):Inv S n0 obj bs g W':=
 ⟨fun w hw=>(h.all w hw).trans (Into.of_below hk),fun w hw=>(h.last w hw).trans hk,fun b hb=>by
   obtain ⟨h1,h2,h3⟩:=h.laid b hb
   exact ⟨h1,h2,(hk.block b (block_lt h3)).trans h3⟩,Nat.le_trans h.size hk.size⟩
theorem Inv.event (h:Inv S n0 obj bs g W) (hk:Into S W W'):Inv S n0 obj (bs++[W']) g W':=
 ⟨fun w hw=>by
   rcases List.mem_append.1 hw with h1|h1
   . exact (h.all w h1).trans hk
   . obtain rfl:w=W':=by simpa using h1
     exact Into.refl _ _,fun w hw=>by
   obtain rfl:w=W':=by simpa using hw.symm
   exact Below.refl _ _,fun b hb=>by
   obtain ⟨h1,h2,h3⟩:=h.laid b hb
   exact ⟨h1,h2,(hk.block b (block_lt h3) h2).trans h3⟩,Nat.le_trans h.size hk.size⟩
theorem Inv.again {w:World} (h:Inv S n0 obj bs g W) (hw:bs.getLast? =some w):Inv S n0 obj (bs++[w]) g W:=
 ⟨fun w' hw'=>by
   rcases List.mem_append.1 hw' with h1|h1
   . exact h.all w' h1
   . obtain rfl:w'=w:=by simpa using h1
     exact (h.last _ hw).into,fun w' hw'=>by
   obtain rfl:w'=w:=by simpa using hw'.symm
   exact h.last _ hw,h.laid,h.size⟩
end
theorem getD_either {listed:Array Bool} {i:Nat} (h:listed.getD i true=false):listed.getD i false=false:=by
 rcases Nat.lt_or_ge i listed.size with h'|h'
 . simp [h'] at h ⊢;exact h
 . simp [Array.getElem?_eq_none h'] at h
def sinkB (md:Region.Mode) (ops:Array Oper) (ps:List Nat) (m:Nat):Bool:=
 (List.range ops.size).all fun t=>decide (t<m) || (List.range m).all fun i=>ps.contains i || Region.waitsFor md ops t i
def turnB (md:Region.Mode) (ops:Array Oper) (al:Option Nat) (i:Nat) (listed:Array Bool):Bool:=
 decide (Region.ready md ops listed=[i]) || (match al,ops[i]? with
  |some x,some oi=>(match ops[x]? with
   |some ox=>x != i&&(Region.ready md ops listed).contains i&&(Region.ready md ops listed).contains x&&(Region.ready md ops listed).all (fun j=>j==i || j==x)&&decide (Region.ready md ops (listed.setIfInBounds x true)=[i])&&ox.apart ops oi
   |none=>false)
  |_,_=>false)
def planB (md:Region.Mode) (ops:Array Oper) (ev:Nat->Bool) (ph:Nat->Nat) (al:Option Nat) (m:Nat):List Nat->Nat->Array Bool->Bool
 |[],_,listed=>(match al with
  |none=>Region.seqB md ops (ops.size-m) m listed
  |some x=>decide (Region.ready md ops listed=[x])&&decide (x<m)&&Region.seqB md ops (ops.size-m) m (listed.setIfInBounds x true))
 |i::r,k,listed=>decide (i<m)&&decide (al≠some i)&&(if ev i then turnB md ops al i listed else (Region.ready md ops listed).contains i&&Region.free md ops listed i&&decide (ph i=k))&&
   planB md ops ev ph al m r (if ev i then k+1 else k) (listed.setIfInBounds i true)
theorem waits {m i:Nat} {ps:List Nat} {listed:Array Bool} (hs:sinkB md ops ps m=true) (hp:ps.contains i=false) (hi:i<m) (hun:listed.getD i true=false) {j:Nat} (hj:j∈Region.ready md ops listed):j<m:=by
 rcases Nat.lt_or_ge j m with h|h
 . exact h
 . exfalso
   obtain ⟨_,oj,hoj,hall⟩:=mem_ready.1 hj
   have hjs:j<ops.size:=(Array.getElem?_eq_some_iff.1 hoj).1
   have h1:=List.all_eq_true.1 hs j (List.mem_range.2 hjs)
   simp only [Bool.or_eq_true,decide_eq_true_eq] at h1
   rcases h1 with h1|h1
   . omega
   . have h2:=List.all_eq_true.1 h1 i (List.mem_range.2 hi)
     rw [hp,Bool.false_or] at h2
     obtain ⟨o',ho',e,he,hb,hon⟩:=Region.waitsFor_spec h2
     obtain rfl:o'=oj:=Option.some.inj (ho'.symm.trans hoj)
     have:=hall e he hb
     rw [hon,getD_either hun] at this
     cases this
def kindOf (es ps:List Nat) (i:Nat):Nat:=if es.contains i then 1 else if ps.contains i then 2 else 0
def pick (l:List Oper) (es ps:List Nat):List Nat->List (Oper × Nat)
 |[]=>[]
 |i::r=>(match l[i]? with|some o=>[(o,kindOf es ps i)]|none=>[])++pick l es ps r
def Nrm (Q:Exit->Act->World->Prop):Exit->Act->World->Prop
 | .normal,a,w=>Q .normal a w
 |_,_,_=>False
@[go_sem] theorem Nrm_normal (Q:Exit->Act->World->Prop) (a:Act) (w:World):Nrm Q .normal a w=Q .normal a w:=rfl
theorem Nrm_le (Q:Exit->Act->World->Prop):∀e a w,Nrm Q e a w->Q e a w:=fun e a w h=>by
 cases e<;>first|exact h|exact absurd h (fun h=>h)
end
attribute [go_sem] calm calmAt upon evAt evUpon
end Go.Proofs.YtjpjjnalpdpljaaGreatDoor.Flow
namespace Go.Proofs.YtjpjjnalpdpljaaGreatDoor.Mem
open Go.RowKit
def Ow (U:TypeId) (w:World) (g cap:Nat) (vs:List Value):Prop:=w.ownsRow g U 1 (.slice (some ⟨g,0,none⟩) vs.length cap) vs.length vs
section
variable {U:TypeId} {w w':World} {g cap:Nat} {vs:List Value}
theorem ow_of {B n:Nat} (h:w.ownsRow B U 1 (.slice (some ⟨g,0,none⟩) n cap) n vs):Ow U w g cap vs/\B<=g/\vs.length=n:=by
 obtain ⟨h1,h2⟩:=h
 have hn:vs.length=n:=by omega
 subst hn
 rcases h2 with ⟨h,_⟩|⟨g',cap',cur,he,hB,hr⟩
 . cases h
 . obtain ⟨rfl,rfl⟩:g=g'/\cap=cap':=by simpa using he
   exact ⟨⟨h1, .inr ⟨g,cap,cur,rfl,Nat.le_refl _,hr⟩⟩,hB,rfl⟩
theorem Ow.lt (h:Ow U w g cap vs):g<w.heap.size:=by
 obtain ⟨_,h2⟩:=h
 rcases h2 with ⟨h,_⟩|⟨g',cap',cur,he,_,hh,_⟩
 . cases h
 . obtain ⟨rfl,_⟩:g=g'/\cap=cap':=by simpa using he
   exact (Array.getElem?_eq_some_iff.1 hh).1
theorem Ow.room (h:Ow U w g cap vs):vs.length<=cap:=by
 obtain ⟨_,h2⟩:=h
 rcases h2 with ⟨h,_⟩|⟨g',cap',cur,he,_,_,hle,_⟩
 . cases h
 . obtain ⟨_,rfl⟩:g=g'/\cap=cap':=by simpa using he
   exact hle
theorem Ow.cell (h:Ow U w g cap vs) {i:Nat} (hi:i<vs.length):w.cell? ⟨g,i,none⟩=some vs[i]:=by
 rw [World.ownsRow.cellAt h i (by omega)];simp [hi]
theorem Ow.free (h:Ow U w g cap vs) (i:Nat):w.frozen? ⟨g,i,none⟩=false:=World.ownsRow.frozenAt h i
theorem Ow.keep (h:Ow U w g cap vs) (hk:w'.heap[g]? =w.heap[g]?):Ow U w' g cap vs:=by
 obtain ⟨h1,h2⟩:=h
 refine ⟨h1,?_⟩
 rcases h2 with h|⟨g',cap',cur,he,hB,hh,hr⟩
 . exact .inl h
 . obtain ⟨rfl,rfl⟩:g=g'/\cap=cap':=by simpa using he
   exact .inr ⟨g,cap,cur,rfl,hB,hk.trans hh,hr⟩
theorem Ow.below {B:Nat} (h:Ow U w g cap vs) (hb:Below B w w') (hg:g<B):Ow U w' g cap vs:=h.keep (hb.block g hg)
theorem Ow.kept (h:Ow U w g cap vs) (hb:Below w.heap.size w w'):Ow U w' g cap vs:=h.keep (hb.block g h.lt)
theorem Ow.into {S:List Nat} (h:Ow U w g cap vs) (hb:Flow.Into S w w') (hn:g∉S):Ow U w' g cap vs:=h.keep (hb.block g h.lt hn)
theorem Ow.set (h:Ow U w g cap vs) (i:Nat) (u:Value):Ow U (w.setCell ⟨g,i,none⟩ u) g cap (vs.set i u)/\Flow.Into [g] w (w.setCell ⟨g,i,none⟩ u):=by
 refine ⟨?_,⟨rfl,rfl,rfl,by simp [World.setCell],fun k _ hn=>Below.heap_setCell _ _ _ _ (by simpa using hn)⟩⟩
 have:=(World.ownsRow.stored h i u).1
 unfold Ow
 rw [List.length_set]
 exact this
end
theorem run_make_at {P:Program} {t e:TypeId} {z:Value} {by_:Nat} (ht:P.underlying t=some (.slice e)) (hinfo:(P.info? e).map (fun i=>(i.zero,i.size,i.bytes))=some (some z,1,by_)) (hzc:z.cells= #[z]) (hby:by_<=24) (n:Nat) (hn:n<=1048576) (w:World):
 (Instr.makeSlice t (.int .i64 (n:Int)) (.int .i64 (n:Int))).run P w= .ok (.slice (some ⟨w.heap.size,0,none⟩) n n) (w.alloc (.cells (List.replicate n z).toArray e)):=by
 obtain ⟨i,hi,hz,hs,hb⟩:=info_parts hinfo
 have hr:=run_make (P:=P) w t e i z ht hi hz .i64 .i64 n n (by omega) (by omega) (by rw [hb];have:(by_:Int)*(n:Int)<=24*1048576:=by have:=Nat.mul_le_mul hby hn;omega
                                                                                     omega) (by omega)
 rw [hr,hs]
 simp only [Int.toNat_natCast,Nat.mul_one]
 rw [hzc,<-toList_madeCells_one z n]
theorem ow_made (e:TypeId) (w:World) (z:Value) (n:Nat) (hn:n<=1048576):Ow e (w.alloc (.cells (List.replicate n z).toArray e)) w.heap.size n (List.replicate n z):=by
 have:=World.ownsRow_lit (base:=w.heap.size) (e:=e) (size:=1) w (List.replicate n z).toArray n (Nat.le_refl _) (by unfold maxLen;omega) (by simp)
 exact (ow_of (by simpa using this)).1
end Go.Proofs.YtjpjjnalpdpljaaGreatDoor.Mem
namespace Go.Proofs.YtjpjjnalpdpljaaGreatDoor.Mem
open Go.RowKit
def intV (x:Int):Value:= .int .i64 x
def intsV (l:List Int):List Value:=l.map intV
@[simp] theorem intsV_length (l:List Int):(intsV l).length=l.length:=by simp [intsV]
def IL (w:World) (p:Option Addr) (l:List Int):Prop:=
 0<l.length->∃b o,p=some ⟨b,o,none⟩/\∀i (h:i<l.length),w.cell? ⟨b,o+i,none⟩=some (intV l[i])
theorem IL.nil (w:World) (p:Option Addr):IL w p []:=fun h=>absurd h (by simp)
theorem IL.at_ {w:World} {p:Option Addr} {l:List Int} (h:IL w p l) {i:Nat} (hi:i<l.length):∃b o,p=some ⟨b,o,none⟩/\w.cell? ⟨b,o+i,none⟩=some (.int .i64 l[i]):=by
 obtain ⟨b,o,e,hc⟩:=h (by omega)
 exact ⟨b,o,e,hc i hi⟩
theorem IL.lt {w:World} {p:Option Addr} {l:List Int} (h:IL w p l) (hl:0<l.length):∀a,p=some a->a.block<w.heap.size:=by
 rintro a rfl
 obtain ⟨b,o,e,hc⟩:=h hl
 obtain rfl:a=⟨b,o,none⟩:=by simpa using e
 have h0:=hc 0 hl
 rcases Nat.lt_or_ge b w.heap.size with h'|h'
 . exact h'
 . simp [World.cell?,Array.getElem?_eq_none h'] at h0
theorem IL.keep {w w':World} {p:Option Addr} {l:List Int} (h:IL w p l) (hk:0<l.length->∀a,p=some a->w'.heap[a.block]? =w.heap[a.block]?):IL w' p l:=fun hl=>by
 obtain ⟨b,o,rfl,hc⟩:=h hl
 refine ⟨b,o,rfl,fun i hi=>?_⟩
 rw [<-hc i hi]
 exact World.cell?_of_block (w:=w) (a:=⟨b,o+i,none⟩) (show w'.heap[b]? =w.heap[b]? from hk hl ⟨b,o,none⟩ rfl)
theorem IL.below {w w':World} {p:Option Addr} {l:List Int} (h:IL w p l) (hb:Below w.heap.size w w'):IL w' p l:=h.keep fun hl a ha=>hb.block _ (h.lt hl a ha)
theorem IL.into {S:List Nat} {w w':World} {p:Option Addr} {l:List Int} (h:IL w p l) (hb:Flow.Into S w w') (hn:∀a,p=some a->a.block∉S):IL w' p l:=h.keep fun hl a ha=>hb.block _ (h.lt hl a ha) (hn a ha)
def Iow (U:TypeId) (w:World) (B:Nat) (A:Option Addr) (c:Nat) (l:List Int):Prop:=w.ownsRow B U 1 (.slice A l.length c) l.length (intsV l)
section
variable {U:TypeId} {w w':World} {B c:Nat} {A:Option Addr} {l:List Int}
theorem Iow.nil (U:TypeId) (w:World) (B:Nat):Iow U w B none 0 []:=World.ownsRow_nil w B U 1
theorem Iow.from_ (h:Iow U w B A c l):∀a,A=some a->B<=a.block:=by
 obtain ⟨_,h2⟩:=h
 rintro a rfl
 rcases h2 with ⟨h',_⟩|⟨g,cap,cur,he,hB,_⟩
 . cases h'
 . obtain ⟨rfl,_⟩:a=⟨g,0,none⟩/\c=cap:=by simpa using he
   exact hB
theorem Iow.room (h:Iow U w B A c l):l.length<=c:=by
 obtain ⟨_,h2⟩:=h
 rcases h2 with ⟨h',h0⟩|⟨g,cap,cur,he,_,_,hle,_⟩
 . omega
 . obtain ⟨_,rfl⟩:A=some ⟨g,0,none⟩/\c=cap:=by simpa using he
   exact hle
theorem Iow.il (h:Iow U w B A c l):IL w A l:=by
 intro hl
 obtain ⟨_,h2⟩:=h
 rcases h2 with ⟨h',h0⟩|⟨g,cap,cur,he,_,hh,_,_,_,htake⟩
 . omega
 . obtain ⟨rfl,rfl⟩:A=some ⟨g,0,none⟩/\c=cap:=by simpa using he
   refine ⟨g,0,rfl,fun i hi=>?_⟩
   have h3:cur.toList[i]? =some (intV l[i]):=by
    have:=congrArg (·[i]?) htake
    simp only [Nat.mul_one,List.getElem?_take,if_pos hi] at this
    rw [this];simp [intsV,hi]
   simp only [World.cell?,Nat.zero_add,hh]
   simpa using h3
theorem Iow.keep (h:Iow U w B A c l) (hk:∀a,A=some a->w'.heap[a.block]? =w.heap[a.block]?):Iow U w' B A c l:=by
 obtain ⟨h1,h2⟩:=h
 refine ⟨h1,?_⟩
 rcases h2 with h|⟨g,cap,cur,he,hB,hh,hr⟩
 . exact .inl h
 . obtain ⟨rfl,rfl⟩:A=some ⟨g,0,none⟩/\c=cap:=by simpa using he
   exact .inr ⟨g,c,cur,rfl,hB,(hk _ rfl).trans hh,hr⟩
theorem Iow.lt (h:Iow U w B A c l):∀a,A=some a->a.block<w.heap.size:=by
 obtain ⟨_,h2⟩:=h
 rintro a rfl
 rcases h2 with ⟨h',_⟩|⟨g,cap,cur,he,hB,hh,_⟩
 . cases h'
 . obtain ⟨rfl,_⟩:a=⟨g,0,none⟩/\c=cap:=by simpa using he
   exact (Array.getElem?_eq_some_iff.1 hh).1
theorem Iow.kept (h:Iow U w B A c l) (hb:Below w.heap.size w w'):Iow U w' B A c l:=h.keep fun a ha=>hb.block _ (h.lt a ha)
theorem Iow.into {S:List Nat} (h:Iow U w B A c l) (hb:Flow.Into S w w') (hn:∀a,A=some a->a.block∉S):Iow U w' B A c l:=h.keep fun a ha=>hb.block _ (h.lt a ha) (hn a ha)
theorem Iow.mono {B':Nat} (h:Iow U w B A c l) (hb:B'<=B):Iow U w B' A c l:=by
 obtain ⟨h1,h2⟩:=h
 refine ⟨h1,?_⟩
 rcases h2 with h|⟨g,cap,cur,he,hB,hr⟩
 . exact .inl h
 . exact .inr ⟨g,cap,cur,he,Nat.le_trans hb hB,hr⟩
end
theorem Iow.lit (U:TypeId) (w:World) (B:Nat) (l:List Int) (hB:B<=w.heap.size) (hl:l.length<=maxLen):Iow U (w.alloc (.cells (intsV l).toArray U)) B (some ⟨w.heap.size,0,none⟩) l.length l:=by
 have:=World.ownsRow_lit (base:=B) (e:=U) (size:=1) w (intsV l).toArray l.length hB hl (by simp)
 exact this
theorem IL.lit (U:TypeId) (w:World) (l:List Int) (hl:l.length<=maxLen):IL (w.alloc (.cells (intsV l).toArray U)) (some ⟨w.heap.size,0,none⟩) l:=(Iow.lit U w 0 l (Nat.zero_le _) hl).il
theorem IL.one (U:TypeId) (w:World) (x:Int):IL (w.alloc (.cells #[.int .i64 x] U)) (some ⟨w.heap.size,0,none⟩) [x]:=IL.lit U w [x] (by simp [maxLen])
theorem Iow.one (U:TypeId) (w:World) (B:Nat) (x:Int) (hB:B<=w.heap.size):Iow U (w.alloc (.cells #[.int .i64 x] U)) B (some ⟨w.heap.size,0,none⟩) 1 [x]:=Iow.lit U w B [x] hB (by simp [maxLen])
theorem Iow.none_ (U:TypeId) (w:World) (B:Nat) (hB:B<=w.heap.size):Iow U (w.alloc (.cells #[] U)) B (some ⟨w.heap.size,0,none⟩) 0 []:=Iow.lit U w B [] hB (by decide)
theorem IL.alloc {w:World} {p:Option Addr} {l:List Int} (h:IL w p l) (o:Obj):IL (w.alloc o) p l:=h.below ((Below.refl _ _).alloc (Nat.le_refl _) _)
theorem Iow.alloc {U:TypeId} {w:World} {B c:Nat} {A:Option Addr} {l:List Int} (h:Iow U w B A c l) (o:Obj):Iow U (w.alloc o) B A c l:=h.kept ((Below.refl _ _).alloc (Nat.le_refl _) _)
theorem Iow.made (U:TypeId) (w:World) (B n:Nat) (hB:B<=w.heap.size) (hn:n<=1048576):Iow U (w.alloc (.cells (List.replicate n (.int .i64 0)).toArray U)) B (some ⟨w.heap.size,0,none⟩) n []:=
 World.ownsRow_made w _ n hB (by unfold maxLen;omega) (by simp)
end Go.Proofs.YtjpjjnalpdpljaaGreatDoor.Mem
namespace Go.Proofs.YtjpjjnalpdpljaaGreatDoor.Mem
open Go.RowKit
def byteV (x:UInt8):Value:= .int .u8 (x.toNat:Int)
def bytesV (l:List UInt8):List Value:=l.map byteV
@[simp] theorem bytesV_length (l:List UInt8):(bytesV l).length=l.length:=by simp [bytesV]
def BL (w:World) (p:Option Addr) (l:List UInt8):Prop:=
 0<l.length->∃b o,p=some ⟨b,o,none⟩/\∀i (h:i<l.length),w.cell? ⟨b,o+i,none⟩=some (byteV l[i])
theorem BL.nil (w:World) (p:Option Addr):BL w p []:=fun h=>absurd h (by simp)
theorem BL.at_ {w:World} {p:Option Addr} {l:List UInt8} (h:BL w p l) {i:Nat} (hi:i<l.length):∃b o,p=some ⟨b,o,none⟩/\w.cell? ⟨b,o+i,none⟩=some (.int .u8 (l[i].toNat:Int)):=by
 obtain ⟨b,o,e,hc⟩:=h (by omega)
 exact ⟨b,o,e,hc i hi⟩
theorem BL.lt {w:World} {p:Option Addr} {l:List UInt8} (h:BL w p l) (hl:0<l.length):∀a,p=some a->a.block<w.heap.size:=by
 rintro a rfl
 obtain ⟨b,o,e,hc⟩:=h hl
 obtain rfl:a=⟨b,o,none⟩:=by simpa using e
 have h0:=hc 0 hl
 rcases Nat.lt_or_ge b w.heap.size with h'|h'
 . exact h'
 . simp [World.cell?,Array.getElem?_eq_none h'] at h0
theorem BL.keep {w w':World} {p:Option Addr} {l:List UInt8} (h:BL w p l) (hk:0<l.length->∀a,p=some a->w'.heap[a.block]? =w.heap[a.block]?):BL w' p l:=fun hl=>by
 obtain ⟨b,o,rfl,hc⟩:=h hl
 refine ⟨b,o,rfl,fun i hi=>?_⟩
 rw [<-hc i hi]
 exact World.cell?_of_block (w:=w) (a:=⟨b,o+i,none⟩) (show w'.heap[b]? =w.heap[b]? from hk hl ⟨b,o,none⟩ rfl)
theorem BL.below {w w':World} {p:Option Addr} {l:List UInt8} (h:BL w p l) (hb:Below w.heap.size w w'):BL w' p l:=h.keep fun hl a ha=>hb.block _ (h.lt hl a ha)
theorem BL.grown {w w':World} {p:Option Addr} {l:List UInt8} {row:Option Nat} (h:BL w p l) (hb:w.grownBy w' row) (hn:0<l.length->∀a,p=some a->some a.block≠row):BL w' p l:=
 h.keep fun hl a ha=>hb.block _ (h.lt hl a ha) (hn hl a ha)
theorem BL.drewN {w:World} {p:Option Addr} {l:List UInt8} (h:BL w p l) (n:Nat):BL (w.drewN n) p l:=h
theorem BL.take {w:World} {p:Option Addr} {l:List UInt8} (h:BL w p l) (k:Nat):BL w p (l.take k):=fun hl=>by
 simp only [List.length_take] at hl
 obtain ⟨b,o,e,hc⟩:=h (by omega)
 refine ⟨b,o,e,fun i hi=>?_⟩
 simp only [List.length_take] at hi
 rw [hc i (by omega),List.getElem_take]
def cutA (A:Option Addr) (c k:Nat):Option Addr:=if c=k then A else A.map (·.add k)
theorem BL.cut {w:World} {p:Option Addr} {l:List UInt8} (h:BL w p l) {k c:Nat} (hc:l.length<=c):BL w (cutA p c k) (l.drop k):=fun hl=>by
 simp only [List.length_drop] at hl
 obtain ⟨b,o,rfl,hcell⟩:=h (by omega)
 unfold cutA
 rw [if_neg (by omega)]
 refine ⟨b,o+k,by by_cases hk:k=0<;>simp [Addr.add,hk],fun i hi=>?_⟩
 simp only [List.length_drop] at hi
 rw [Nat.add_assoc,hcell (k+i) (by omega),List.getElem_drop]
theorem run_cut {P:Program} {t e:TypeId} {i:TypeInfo} (ht:P.underlying t=some (.slice e)) (hi:P.info? e=some i) (hs:i.size=1) (A:Option Addr) (n c k:Nat) (hk:k<=n) (w:World):
 (Instr.slice t (.slice A n c) (some (.int .i64 (k:Int))) none none).run P w= .ok (.slice (cutA A c k) (n-k) (c-k)) w:=by
 have he:P.elem t=e:=by simp [Program.elem,ht]
 rw [run_slice_l w t A n c (by rw [he];exact ht) .i64 (k:Int) (by omega) (by omega),he]
 simp [sizeOf,typeInfo,hi,hs,sliced,cutA,Result.andThen]
theorem run_upTo {P:Program} {t e:TypeId} {i:TypeInfo} (ht:P.underlying t=some (.slice e)) (hi:P.info? e=some i) (A:Option Addr) (n c k:Nat) (hk:k<=c) (w:World):
 (Instr.slice t (.slice A n c) none (some (.int .i64 (k:Int))) none).run P w= .ok (.slice A k c) w:=by
 have he:P.elem t=e:=by simp [Program.elem,ht]
 rw [run_slice_h w t A n c (by rw [he];exact ht) .i64 (k:Int) (by omega) (by omega),he]
 by_cases hc:c=0
 . simp [sizeOf,typeInfo,hi,sliced,Result.andThen,hc]
 . simp [sizeOf,typeInfo,hi,sliced,Result.andThen,hc,Addr.add]
def strOf (l:List UInt8):ByteArray:=⟨l.toArray⟩
theorem strOf_size (l:List UInt8):(strOf l).size=l.length:=rfl
theorem run_text {P:Program} {src dst e:TypeId} (hs:P.underlying src=some (.slice e)) (he:P.underlying e=some (.int .u8)) (hd:P.underlying dst=some .string) {w:World} {p:Option Addr} {l:List UInt8} (h:BL w p l) (c:Nat):
 (convert src dst (.slice p l.length c)).run P w= .ok (.string (strOf l)) w:=by
 have hnat:∀x:UInt8,UInt8.ofNat ((x.toNat:Int)).toNat=x:=fun x=>by simp
 by_cases h0:l.length=0
 . obtain rfl:l=[]:=List.eq_nil_of_length_eq_zero h0
   rw [run_convert_bytes_string w src dst e _ _ c hs he hd]
   cases p with
   |none=>simp [Conv.bytesToString,strOf,ByteArray.empty,ByteArray.emptyWithCapacity];rfl
   |some a=>
    rw [show ([]:List UInt8).length=0 from rfl,run_bytesToString w a 0 c [] (by simpa using run_loadCells_list (P:=P) w a [] (fun j v hj=>by simp at hj))]
    simp [strOf,ByteArray.empty,ByteArray.emptyWithCapacity];rfl
 . obtain ⟨b,o,rfl,hc⟩:=h (by omega)
   have:=run_convert_bytes_arg (P:=P) w src e hs he b o l.length c (l.map fun x=>(x.toNat:Int)) (by simp) (fun i hi=>by
    rw [hc i hi];simp [byteV,hi]) dst hd
   rw [this]
   simp [strOfNums,strOf,Function.comp_def]
theorem run_text_n {P:Program} {src dst e:TypeId} (hs:P.underlying src=some (.slice e)) (he:P.underlying e=some (.int .u8)) (hd:P.underlying dst=some .string) {w:World} {p:Option Addr} {l:List UInt8} (h:BL w p l) {n:Nat} (hn:l.length=n) (c:Nat):
 (convert src dst (.slice p n c)).run P w= .ok (.string (strOf l)) w:=by subst hn;exact run_text hs he hd h c
def Row (U:TypeId) (w:World) (g:Nat) (l:List UInt8):Prop:=w.heap[g]? =some (.cells (bytesV l).toArray U (0,0))
section
variable {U:TypeId} {w w':World} {g:Nat} {l:List UInt8}
theorem Row.lt (h:Row U w g l):g<w.heap.size:=(Array.getElem?_eq_some_iff.1 h).1
theorem Row.bl (h:Row U w g l):BL w (some ⟨g,0,none⟩) l:=fun _=>⟨g,0,rfl,fun i hi=>by
 unfold Row at h
 simp [World.cell?,h,bytesV,hi]⟩
theorem Row.cell (h:Row U w g l) {i:Nat} (hi:i<l.length):w.cell? ⟨g,i,none⟩=some (.int .u8 (l[i].toNat:Int)):=by
 unfold Row at h
 simp [World.cell?,h,bytesV,hi,byteV]
theorem Row.free (h:Row U w g l) (i:Nat):w.frozen? ⟨g,i,none⟩=false:=by
 unfold Row at h
 simp [World.frozen?,h]
theorem Row.below {B:Nat} (h:Row U w g l) (hb:Below B w w') (hg:g<B):Row U w' g l:=(hb.block g hg).trans h
theorem Row.kept (h:Row U w g l) (hb:Below w.heap.size w w'):Row U w' g l:=(hb.block g h.lt).trans h
theorem Row.set (h:Row U w g l) {i:Nat} (hi:i<l.length) (x:UInt8) {z:Int} (hz:z=(x.toNat:Int)):Row U (w.setCell ⟨g,i,none⟩ (.int .u8 z)) g (l.set i x):=by
 subst hz
 have hb:bytesV (l.set i x)=(bytesV l).set i (byteV x):=by simp [bytesV,List.map_set]
 unfold Row at h ⊢
 rw [hb]
 have:i<(bytesV l).length:=by simpa using hi
 simp [World.setCell,Array.getElem?_modify,h,byteV]
theorem Row.drewN (h:Row U w g l) (n:Nat):Row U (w.drewN n) g l:=h
end
theorem madeCells_bytes {z:Array Value} (hz:z= #[.int .u8 0]) (n:Nat):(madeCells z n).toList=bytesV (List.replicate n 0):=by
 subst hz
 apply List.ext_getElem
 . simp [madeCells]
 . intro i h1 h2
   simp [madeCells,bytesV,byteV,Nat.mod_one]
theorem bytesV_one (l:List UInt8):∀v∈bytesV l,v.oneCell'=true:=by
 intro v hv
 obtain ⟨x,_,rfl⟩:=List.mem_map.1 hv
 rfl
theorem splice_front (l L:List UInt8):splice (bytesV L) 0 (bytesV l)=bytesV (l++L.drop l.length):=by
 simp [splice,bytesV]
theorem wpList_copy_bytes {P:Program} {w:World} {ops:Array Oper} {rest:List Oper} {o:Oper} {a:Act} {Q:Exit->Act->World->Prop} (hgd:o.guard=none) (d s:Operand) (dT sT:TypeId)
 (ho:o.op= .call { callee:= .builtin .copy,args:= #[d,s],argTypes:= #[dT,sT] }) (U:TypeId) (hu:P.underlying dT=some (.slice U)) (hsz:(P.info? U).map (·.size)=some 1)
 (g n c1 m c2:Nat) (sp:Option Addr) (hd:a.eval d= .slice (some ⟨g,0,none⟩) n c1) (hs:a.eval s= .slice sp m c2)
 (L l:List UInt8) (hg:Row U w g L) (hl:l.length=m) (hb:BL w sp l) (hmn:m<=n) (hn:n<=L.length) (B:Nat) (w0:World) (hB:Below B w0 w) (hBg:B<=g)
 (h:∀w',Hid (Row U w' g (l++L.drop l.length))->Below B w0 w'->wpList P ops Q rest (a.put o.dst (goInt m)) w'):wpList P ops Q (o::rest) a w:=by
 subst hl
 have hlen:(bytesV l).length=l.length:=by simp
 refine wpList_copy_splice hgd d s dT sT ho U hu hsz (some ⟨g,0,none⟩) sp n c1 l.length c2 hd hs g 0 (bytesV L) U hg (bytesV l) (by rw [hlen];exact (Nat.min_eq_left hmn).symm) (fun hp=>⟨rfl,?_⟩) (by rw [hlen,bytesV_length];omega) (bytesV_one l) B w0 hB hBg ?_
 . obtain ⟨b,o,rfl,hc⟩:=hb (by simpa using hp)
   refine ⟨_,rfl,fun j v hj=>?_⟩
   have hjl:j<l.length:=by
    rcases Nat.lt_or_ge j l.length with h'|h'
    . exact h'
    . rw [List.getElem?_eq_none (by simpa using h')] at hj;cases hj
   have hv:v=byteV l[j]:=by simpa [bytesV,hjl] using hj.symm
   rw [hv,<-hc j hjl]
   by_cases h0:j=0<;>simp [Addr.add,h0]
 . intro w' h1 h2
   rw [splice_front,hlen] at*
   exact h w' h1 h2
def Own (U:TypeId) (w:World) (B:Nat) (v:Value) (l:List UInt8):Prop:=w.ownsRow B U 1 v l.length (bytesV l)
theorem Own.slice {U:TypeId} {w:World} {B:Nat} {v:Value} {l:List UInt8} (h:Own U w B v l):∃A c,v= .slice A l.length c/\BL w A l/\l.length<=c:=by
 obtain ⟨_,h2⟩:=h
 rcases h2 with ⟨rfl,h0⟩|⟨g,cap,cur,rfl,_,hh,hle,_,hsz,htake⟩
 . exact ⟨none,0,by rw [h0],by rw [List.eq_nil_of_length_eq_zero h0];exact BL.nil _ _,by omega⟩
 . refine ⟨some ⟨g,0,none⟩,cap,rfl,fun _=>⟨g,0,rfl,fun i hi=>?_⟩,hle⟩
   have h3:cur.toList[i]? =some (byteV l[i]):=by
    have:=congrArg (·[i]?) htake
    simp only [Nat.mul_one,List.getElem?_take,if_pos hi] at this
    rw [this];simp [bytesV,hi]
   simp only [World.cell?,Nat.zero_add,hh]
   simpa using h3
theorem Own.lit (U:TypeId) (w:World) (B:Nat) (l:List UInt8) (hB:B<=w.heap.size) (hl:l.length<=maxLen):Own U (w.alloc (.cells (bytesV l).toArray U)) B (.slice (some ⟨w.heap.size,0,none⟩) l.length l.length) l:=by
 have:=World.ownsRow_lit (base:=B) (e:=U) (size:=1) w (bytesV l).toArray l.length hB hl (by simp)
 exact this
theorem wpList_append_bytes {P:Program} {w:World} {ops:Array Oper} {rest:List Oper} {o:Oper} {a:Act} {Q:Exit->Act->World->Prop} (hgd:o.guard=none) (s x:Operand) (t:TypeId)
 (ho:o.op= .call { callee:= .builtin .append,args:= #[s,x],argTypes:= #[t,t] }) (B:Nat) (U:TypeId) (ht:P.underlying t=some (.slice U)) (hinfo:(P.info? U).map (fun i=>(i.zero,i.size,i.bytes))=some (some (.int .u8 0),1,1))
 (v:Value) (xs:List UInt8) (hs:a.eval s=v) (hown:Own U w B v xs) (A:Option Addr) (m c:Nat) (l:List UInt8) (hx:a.eval x= .slice A m c) (hl:l.length=m) (hb:BL w A l)
 (hsz:xs.length+m<=140737488355328) (hB:B<=w.heap.size)
 (h:∀v' w',Hid (Own U w' B v' (xs++l))->w.grownBy w' v.ownBlock->(v'.ownBlock=v.ownBlock\/v'.ownBlock=some w.heap.size)->wpList P ops Q rest (a.put o.dst v') w'):wpList P ops Q (o::rest) a w:=by
 subst hl
 obtain ⟨i,hi,hz,hs1,hb1⟩:=info_parts hinfo
 refine wpList_plain hgd fun K hK=>?_
 obtain ⟨v',w',hrun,h2,h3,h4⟩:∃v' w',(Builtin.append_ #[t,t] o.type #[v, .slice A l.length c]).run P w= .ok v' w'/\w'.ownsRow B U 1 v' (xs.length+l.length) (bytesV xs++bytesV l)/\w.grownBy w' v.ownBlock/\(v'.ownBlock=v.ownBlock\/v'.ownBlock=some w.heap.size):=by
  cases A with
  |none=>
   have h0:l=[]:=by
    cases l with
    |nil=>rfl
    |cons y l=>obtain ⟨_,_,e,_⟩:=hb (by simp);cases e
   subst h0
   refine ⟨v,w,?_,by simpa [bytesV,Own] using hown,World.grownBy.refl w _, .inl rfl⟩
   rcases hown.2 with ⟨rfl,_⟩|⟨g,cap,cur,rfl,_,_,hnc,_⟩
   . simp [Builtin.append_,run_underlying ht,sizeOf,typeInfo,hi,Builtin.lenOf,Builtin.firstCells]
   . simp [Builtin.append_,run_underlying ht,sizeOf,typeInfo,hi,Builtin.lenOf,Builtin.firstCells,hnc,storeCells]
  |some ad=>
   obtain ⟨v',w',h1,h2,h3,_,h5⟩:=run_append_own_at (P:=P) w B t o.type U i (.int .u8 0) 1 1 ht hi hz hs1 hb1 rfl (by decide) v xs.length (bytesV xs) hown ad l.length c (bytesV l) (by simp) (fun j u hj=>by
    have hjl:j<l.length:=by
     rcases Nat.lt_or_ge j l.length with h'|h'
     . exact h'
     . rw [List.getElem?_eq_none (by simpa using h')] at hj;cases hj
    obtain ⟨b,o,e,hc⟩:=hb (by omega)
    obtain rfl:ad=⟨b,o,none⟩:=by simpa using e
    have hv:u=byteV l[j]:=by simpa [bytesV,hjl] using hj.symm
    rw [hv,<-hc j hjl]
    by_cases h0:j=0<;>simp [Addr.add,h0]) (bytesV_one l) (by unfold maxLen;omega) (by omega) hB
   exact ⟨v',w',h1,h2,h3,h5⟩
 unfold Oper.wp execOp
 simp only [ho,resolve,invoke,builtin,Sem.run_bind,Sem.run_pure,Result.andThen_ok,List.map_toArray,List.map_cons,List.map_nil,hs,hx,hrun]
 refine hK _ _ (h v' w' ?_ h3 h4)
 show w'.ownsRow B U 1 v' (xs++l).length (bytesV (xs++l))
 rw [List.length_append,show bytesV (xs++l)=bytesV xs++bytesV l by simp [bytesV]]
 exact h2
theorem Row.new (U:TypeId) (w:World) (l:List UInt8):Row U (w.alloc (.cells (bytesV l).toArray U)) w.heap.size l:=heap_alloc_new w _
theorem BL.alloc {w:World} {p:Option Addr} {l:List UInt8} (h:BL w p l) (o:Obj):BL (w.alloc o) p l:=h.below ((Below.refl _ _).alloc (Nat.le_refl _) _)
end Go.Proofs.YtjpjjnalpdpljaaGreatDoor.Mem
