import Derived.Test.YtjpjjnalpdpljaaGreatDoorPkAB
import Derived.Test.YtjpjjnalpdpljaaGreatDoorPqDrift
import Derived.Test.YtjpjjnalpdpljaaGreatDoorChecked
import Derived.WalkKit
import Derived.WalkLawsBesides
import Derived.KernelRfl
import Derived.Lib.Hide
import Derived.WalkSpells
import Derived.StillTailTactics
import Derived.Deep.DeepCutAuto
import Derived.Deep.CutBlock
import Derived.Test.YtjpjjnalpdpljaaGreatDoorPkAC
import Derived.Deep.QuietTactic
set_option maxHeartbeats 2000000
set_option maxRecDepth 100000
namespace Go.Proofs.YtjpjjnalpdpljaaGreatDoor
open Go.RowKit
namespace Dv
open Mem
def Cells (U:TypeId) (w:World) (q:Nat) (C:List Value):Prop:=w.heap[q]? =some (.cells C.toArray U (0,0))
theorem cells_inj {U:TypeId} {w:World} {q:Nat} {L L':List Value} (h:Cells U w q L) (h':Cells U w q L'):L=L':=by
 unfold Cells at h h'
 rw [h] at h'
 have h3:(Obj.cells L.toArray U (0,0))= .cells L'.toArray U (0,0):=Option.some.inj h'
 have h4:L.toArray=L'.toArray:=by injection h3
 simpa using h4
theorem Cells.lt {U:TypeId} {w:World} {q:Nat} {L:List Value} (h:Cells U w q L):q<w.heap.size:=(Array.getElem?_eq_some_iff.1 h).1
theorem into_setCell (w:World) (a:Addr) (u:Value):Flow.Into [a.block] w (w.setCell a u):=
 ⟨rfl,rfl,rfl,by simp [World.setCell],fun k _ hn=>Below.heap_setCell _ _ _ _ (by simpa using hn)⟩
def win {α:Type} (L:List α) (o m:Nat):List α:=(L.drop o).take m
theorem win_length {α:Type} {L:List α} {o m:Nat} (h:o+m<=L.length):(win L o m).length=m:=by simp [win];omega
theorem win_all {α:Type} (l:List α):win l 0 l.length=l:=by simp [win]
theorem win_get {α:Type} {L:List α} {o m k:Nat}:(win L o m)[k]? =if k<m then L[o+k]? else none:=by
 unfold win
 rw [List.getElem?_take]
 split
 . rw [List.getElem?_drop]
 . rfl
theorem splice_get {α:Type} {L l:List α} {o k:Nat} (h:o+l.length<=L.length):(splice L o l)[k]? =if o<=k/\k<o+l.length then l[k-o]? else L[k]? :=by
 unfold splice
 have ht:(L.take o).length=o:=by simp;omega
 by_cases h1:k<o
 . rw [if_neg (by omega),List.getElem?_append_left (by omega),List.getElem?_take,if_pos h1]
 . rw [List.getElem?_append_right (by omega),ht]
   by_cases h2:k<o+l.length
   . rw [if_pos (by omega),List.getElem?_append_left (by omega)]
   . rw [if_neg (by omega),List.getElem?_append_right (by omega),List.getElem?_drop]
     congr 1;omega
theorem win_splice {α:Type} {L l:List α} {o:Nat} (h:o+l.length<=L.length):win (splice L o l) o l.length=l:=by
 apply List.ext_getElem?
 intro k
 rw [win_get]
 by_cases hk:k<l.length
 . rw [if_pos hk,splice_get h,if_pos (by omega)];congr 1;omega
 . rw [if_neg hk,List.getElem?_eq_none (by omega)]
theorem win_other {α:Type} {L l:List α} {o o' m:Nat} (h:o+l.length<=L.length) (ha:o+l.length<=o'\/o'+m<=o):win (splice L o l) o' m=win L o' m:=by
 apply List.ext_getElem?
 intro k
 rw [win_get,win_get]
 by_cases hk:k<m
 . rw [if_pos hk,if_pos hk,splice_get h,if_neg (by omega)]
 . rw [if_neg hk,if_neg hk]
theorem cells_win {U:TypeId} {w:World} {q:Nat} {C:List Value} (h:Cells U w q C) {o m:Nat} {x:List UInt8} (hl:o+m<=C.length) (hx:win C o m=bytesV x):x.length=m/\BL w (some ⟨q,o,none⟩) x:=by
 have hm:x.length=m:=by rw [<-bytesV_length,<-hx,win_length hl]
 refine ⟨hm,fun _=>⟨q,o,rfl,fun i hi=>?_⟩⟩
 have h1:(bytesV x)[i]? =C[o+i]? :=by rw [<-hx,win_get,if_pos (by omega)]
 unfold Cells at h
 simp only [World.cell?,h]
 have:C[o+i]? =some (byteV x[i]):=by rw [<-h1];simp [bytesV,hi]
 simpa using this
abbrev Bk:=Option (Nat × Nat × Nat)
def bkV (m:Nat):Bk->Value
 |none=> .slice none 0 0
 |some (q,o,k)=> .slice (some ⟨q,o,none⟩) m k
def foot (g b:Nat) (bks:List Bk):List Nat:=g::b::bks.filterMap (·.map (·.1))
theorem foot_at {g b i q o k:Nat} {bks:List Bk} (h:bks[i]? =some (some (q,o,k))):q∈foot g b bks:=by
 unfold foot
 refine List.mem_cons_of_mem _ (List.mem_cons_of_mem _ (List.mem_filterMap.2 ⟨some (q,o,k),List.mem_of_getElem? h,rfl⟩))
theorem of_foot {g b q:Nat} {bks:List Bk} (h:q∈foot g b bks):q=g\/q=b\/∃i o k:Nat,bks[i]? =some (some (q,o,k)):=by
 unfold foot at h
 rcases List.mem_cons.1 h with h|h
 . exact .inl h
 rcases List.mem_cons.1 h with h|h
 . exact .inr (.inl h)
 obtain ⟨x,hx,e⟩:=List.mem_filterMap.1 h
 cases x with
 |none=>cases e
 |some x=>
  obtain ⟨q',o,k⟩:=x
  obtain rfl:q'=q:=by simpa using e
  obtain ⟨i,hi⟩:=List.getElem?_of_mem hx
  exact .inr (.inr ⟨i,o,k,hi⟩)
theorem foot_set {g b i q o k x:Nat} {bks:List Bk} (h:x∈foot g b (bks.set i (some (q,o,k)))):x=q\/x∈foot g b bks:=by
 rcases of_foot h with rfl|rfl|⟨j,o',k',hj⟩
 . exact .inr (by simp [foot])
 . exact .inr (by simp [foot])
 . rw [List.getElem?_set] at hj
   split at hj
   . split at hj
     . left;simp at hj;exact hj.1.symm
     . cases hj
   . exact .inr (foot_at hj)
structure DevW (w:World) (g b c m:Nat) (bks:List Bk) (ls:List (List UInt8)) (r s:Nat):Prop where
 hd:w.heap[g]? =some (.cells #[.int .i64 (m:Int), .slice (some ⟨b,0,none⟩) bks.length c, .int .u64 (r:Int), .int .u64 (s:Int)] 104 (0,0))
 ow:Ow 72 w b c (bks.map (bkV m))
 len:bks.length=ls.length
 ll:∀l,l∈ls->l.length=m
 no:∀i:Nat,bks[i]? =some none->ls[i]? =some (List.replicate m 0)
 yes:∀i q o k:Nat,bks[i]? =some (some (q,o,k))->q≠g/\q≠b/\m<=k/\∃C x,Cells 5 w q C/\o+m<=C.length/\ls[i]? =some x/\win C o m=bytesV x
 ap:∀i j q o k o' k':Nat,i≠j->bks[i]? =some (some (q,o,k))->bks[j]? =some (some (q,o',k'))->o+m<=o'\/o'+m<=o
section
variable {w w':World} {g b c m:Nat} {bks:List Bk} {ls:List (List UInt8)} {r s:Nat}
theorem DevW.ne (h:DevW w g b c m bks ls r s):g≠b:=by
 rintro rfl
 obtain ⟨_,h2⟩:=h.ow
 rcases h2 with ⟨h',_⟩|⟨g',cap',cur,he,_,hh,_⟩
 . cases h'
 . obtain ⟨rfl,rfl⟩:g=g'/\c=cap':=by simpa using he
   rw [h.hd] at hh
   simp at hh
theorem DevW.lt (h:DevW w g b c m bks ls r s):∀k,k∈foot g b bks->k<w.heap.size:=by
 intro k hk
 rcases of_foot hk with rfl|rfl|⟨i,o,k',hi⟩
 . exact (Array.getElem?_eq_some_iff.1 h.hd).1
 . exact h.ow.lt
 . obtain ⟨_,_,_,C,x,hr,_⟩:=h.yes i _ _ _ hi
   exact hr.lt
theorem DevW.cells (h:DevW w g b c m bks ls r s):w.cell? ⟨g,0,none⟩=some (.int .i64 (m:Int))/\w.cell? ⟨g,1,none⟩=some (.slice (some ⟨b,0,none⟩) bks.length c)/\w.cell? ⟨g,2,none⟩=some (.int .u64 (r:Int))/\w.cell? ⟨g,3,none⟩=some (.int .u64 (s:Int)):=by
 have:=h.hd
 simp [World.cell?,this]
theorem DevW.free (h:DevW w g b c m bks ls r s) (i:Nat):w.frozen? ⟨g,i,none⟩=false:=by
 have:=h.hd
 simp [World.frozen?,this]
theorem DevW.bfree (h:DevW w g b c m bks ls r s) (i:Nat):w.frozen? ⟨b,i,none⟩=false:=h.ow.free i
theorem DevW.bcell (h:DevW w g b c m bks ls r s) {i:Nat} {x:Bk} (hi:bks[i]? =some x):w.cell? ⟨b,i,none⟩=some (bkV m x):=by
 obtain ⟨h1,h2⟩:=List.getElem?_eq_some_iff.1 hi
 rw [h.ow.cell (by simpa using h1)];simp [h2]
theorem DevW.keep (h:DevW w g b c m bks ls r s) (hk:∀k,k∈foot g b bks->w'.heap[k]? =w.heap[k]?):DevW w' g b c m bks ls r s:=
 ⟨(hk g (by simp [foot])).trans h.hd,h.ow.keep (hk b (by simp [foot])),h.len,h.ll,h.no,fun i q o k hi=>by
   obtain ⟨h1,h2,h3,C,x,h4,h5⟩:=h.yes i q o k hi
   exact ⟨h1,h2,h3,C,x,(hk q (foot_at hi)).trans h4,h5⟩,h.ap⟩
theorem DevW.kept (h:DevW w g b c m bks ls r s) (hb:Below w.heap.size w w'):DevW w' g b c m bks ls r s:=h.keep fun k hk=>hb.block k (h.lt k hk)
theorem DevW.into {S:List Nat} (h:DevW w g b c m bks ls r s) (hb:Flow.Into S w w') (hn:∀k,k∈foot g b bks->k∉S):DevW w' g b c m bks ls r s:=h.keep fun k hk=>hb.block k (h.lt k hk) (hn k hk)
theorem DevW.head (h:DevW w g b c m bks ls r s) {r' s':Nat} (hi:Flow.Into [g] w w') (hh:w'.heap[g]? =some (.cells #[.int .i64 (m:Int), .slice (some ⟨b,0,none⟩) bks.length c, .int .u64 (r':Int), .int .u64 (s':Int)] 104 (0,0))):DevW w' g b c m bks ls r' s':=by
 have hb:∀k,k∈foot g b bks->k≠g->w'.heap[k]? =w.heap[k]? :=fun k hk hn=>hi.block k (h.lt k hk) (by simpa using hn)
 exact ⟨hh,h.ow.keep (hb b (by simp [foot]) h.ne.symm),h.len,h.ll,h.no,fun i q o k hi=>by
  obtain ⟨h1,h2,h3,C,x,h4,h5⟩:=h.yes i q o k hi
  exact ⟨h1,h2,h3,C,x,(hb q (foot_at hi) h1).trans h4,h5⟩,h.ap⟩
theorem DevW.read (h:DevW w g b c m bks ls r s):DevW (w.setCell ⟨g,2,none⟩ (.int .u64 ((r:Int)+1))) g b c m bks ls (r+1) s/\Flow.Into [g] w (w.setCell ⟨g,2,none⟩ (.int .u64 ((r:Int)+1))):=by
 have hi:=into_setCell w ⟨g,2,none⟩ (.int .u64 ((r:Int)+1))
 refine ⟨h.head hi ?_,hi⟩
 have:=h.hd
 simp [World.setCell,Array.getElem?_modify,this]
theorem DevW.wrote (h:DevW w g b c m bks ls r s):DevW (w.setCell ⟨g,3,none⟩ (.int .u64 ((s:Int)+1))) g b c m bks ls r (s+1)/\Flow.Into [g] w (w.setCell ⟨g,3,none⟩ (.int .u64 ((s:Int)+1))):=by
 have hi:=into_setCell w ⟨g,3,none⟩ (.int .u64 ((s:Int)+1))
 refine ⟨h.head hi ?_,hi⟩
 have:=h.hd
 simp [World.setCell,Array.getElem?_modify,this]
theorem DevW.put (h:DevW w g b c m bks ls r s) {i q o k:Nat} {C:List Value} {x:List UInt8} (hi:i<bks.length) (hq:Cells 5 w q C) (hg:q≠g) (hb:q≠b) (hl:o+m<=C.length) (hx:win C o m=bytesV x) (hk:m<=k)
 (ha:∀j o' k':Nat,i≠j->bks[j]? =some (some (q,o',k'))->o+m<=o'\/o'+m<=o):
 DevW (w.setCell ⟨b,i,none⟩ (bkV m (some (q,o,k)))) g b c m (bks.set i (some (q,o,k))) (ls.set i x) r s/\Flow.Into [b] w (w.setCell ⟨b,i,none⟩ (bkV m (some (q,o,k)))):=by
 have hin:=into_setCell w ⟨b,i,none⟩ (bkV m (some (q,o,k)))
 have hbl:∀x,x<w.heap.size->x≠b->(w.setCell ⟨b,i,none⟩ (bkV m (some (q,o,k)))).heap[x]? =w.heap[x]? :=fun x hx hn=>hin.block x hx (by simpa using hn)
 have hil:i<ls.length:=by rw [<-h.len];exact hi
 refine ⟨⟨?_,?_,by simp [h.len],?_,?_,?_,?_⟩,hin⟩
 . rw [hbl g (h.lt g (by simp [foot])) h.ne,h.hd,List.length_set]
 . have:=(h.ow.set i (bkV m (some (q,o,k)))).1
   rw [List.map_set];exact this
 . intro l hl'
   rcases List.mem_or_eq_of_mem_set hl' with h'|rfl
   . exact h.ll l h'
   . exact (cells_win hq hl hx).1
 . intro j hj
   rw [List.getElem?_set] at hj ⊢
   by_cases e:i=j
   . subst e;simp [hi] at hj
   . simp only [e,if_false] at hj ⊢
     exact h.no j hj
 . intro j q' o' k' hj
   rw [List.getElem?_set] at hj
   rw [List.getElem?_set]
   by_cases e:i=j
   . subst e
     simp only [if_true,hi,Option.some.injEq,Prod.mk.injEq] at hj
     obtain ⟨rfl,rfl,rfl⟩:=hj
     exact ⟨hg,hb,hk,C,x,(hbl q hq.lt hb).trans hq,hl,by simp [hil],hx⟩
   . simp only [e,if_false] at hj ⊢
     obtain ⟨h1,h2,h3,C',x',h4,h5,h6⟩:=h.yes j q' o' k' hj
     exact ⟨h1,h2,h3,C',x',(hbl q' h4.lt h2).trans h4,h5,h6⟩
 . intro j j' q' o1 k1 o2 k2 hn h1 h2
   rw [List.getElem?_set] at h1 h2
   by_cases e:i=j
   . subst e
     have e':¬i=j':=hn
     simp only [if_true,hi,Option.some.injEq,Prod.mk.injEq] at h1
     simp only [e',if_false] at h2
     obtain ⟨rfl,rfl,rfl⟩:=h1
     exact ha j' o2 k2 hn h2
   . simp only [e,if_false] at h1
     by_cases e':i=j'
     . subst e'
       simp only [if_true,hi,Option.some.injEq,Prod.mk.injEq] at h2
       obtain ⟨rfl,rfl,rfl⟩:=h2
       rcases ha j o1 k1 (Ne.symm hn) h1 with h'|h'
       . exact .inr h'
       . exact .inl h'
     . simp only [e',if_false] at h2
       exact h.ap j j' q' o1 k1 o2 k2 hn h1 h2
theorem DevW.splice (h:DevW w g b c m bks ls r s) {i q o k:Nat} {C:List Value} {l:List UInt8} (hi:bks[i]? =some (some (q,o,k))) (hq:Cells 5 w q C) (hl:l.length=m) (hw:Flow.Into [q] w w') (hq':Cells 5 w' q (Go.splice C o (bytesV l))):DevW w' g b c m bks (ls.set i l) r s:=by
 obtain ⟨hg,hb,hk,L0,x0,h4,h5,h6,h7⟩:=h.yes i q o k hi
 obtain rfl:=cells_inj hq h4
 have hfit:o+(bytesV l).length<=C.length:=by rw [bytesV_length];omega
 have hbl:∀x,x<w.heap.size->x≠q->w'.heap[x]? =w.heap[x]? :=fun x hx hn=>hw.block x hx (by simpa using hn)
 have hil:i<ls.length:=(List.getElem?_eq_some_iff.1 h6).1
 refine ⟨?_,h.ow.keep (hbl b (h.lt b (by simp [foot])) hb.symm),by simp [h.len],?_,?_,?_,h.ap⟩
 . rw [hbl g (h.lt g (by simp [foot])) hg.symm,h.hd]
 . intro l' hl'
   rcases List.mem_or_eq_of_mem_set hl' with h'|rfl
   . exact h.ll l' h'
   . exact hl
 . intro j hj
   rw [List.getElem?_set]
   by_cases e:i=j
   . subst e;rw [hi] at hj;cases hj
   . simp only [e,if_false];exact h.no j hj
 . intro j q' o' k' hj
   rw [List.getElem?_set]
   obtain ⟨g1,g2,g3,C',x',g4,g5,g6,g7⟩:=h.yes j q' o' k' hj
   by_cases eq:q'=q
   . subst eq
     obtain rfl:=cells_inj hq g4
     by_cases e:i=j
     . subst e
       rw [hi] at hj
       simp only [Option.some.injEq,Prod.mk.injEq] at hj
       obtain ⟨-,rfl,rfl⟩:=hj
       refine ⟨g1,g2,g3,_,l,hq',by rw [length_splice C o (bytesV l) hfit];exact g5,by simp [hil],?_⟩
       have:=win_splice hfit
       rw [bytesV_length,hl] at this
       exact this
     . refine ⟨g1,g2,g3,_,x',hq',by rw [length_splice C o (bytesV l) hfit];exact g5,by simp only [e,if_false];exact g6,?_⟩
       rw [win_other hfit,g7]
       rw [bytesV_length,hl]
       exact h.ap i j q' o k o' k' e hi hj
   . refine ⟨g1,g2,g3,C',x',(hbl q' g4.lt eq).trans g4,g5,?_,g7⟩
     by_cases e:i=j
     . subst e
       rw [hi] at hj
       simp only [Option.some.injEq,Prod.mk.injEq] at hj
       exact absurd hj.1.symm eq
     . simp only [e,if_false];exact g6
end
structure Dev (w:World) (S:List Nat) (g m:Nat) (ls:List (List UInt8)) (r s:Nat):Prop where
 ex:∃b c bks,DevW w g b c m bks ls r s/\∀k,k∈foot g b bks->k∈S
 m1:1<=m
 m2:m<=65536
 n1:5<=ls.length
 n2:ls.length<=65536
 lt:∀k,k∈S->k<w.heap.size
def Grew (w:World) (S S':List Nat):Prop:=∀k,k∈S'->k∈S\/w.heap.size<=k
section
variable {w w':World} {S:List Nat} {g m:Nat} {ls:List (List UInt8)} {r s:Nat}
theorem Dev.keep (h:Dev w S g m ls r s) (hk:∀k,k∈S->w'.heap[k]? =w.heap[k]?):Dev w' S g m ls r s:=by
 obtain ⟨⟨b,c,bks,h1,h2⟩,h3,h4,h5,h6,h7⟩:=h
 exact ⟨⟨b,c,bks,h1.keep fun k hk'=>hk k (h2 k hk'),h2⟩,h3,h4,h5,h6,fun k hk'=>(Array.getElem?_eq_some_iff.1 ((hk k hk').trans (Array.getElem?_eq_getElem (h7 k hk')))).1⟩
theorem Dev.kept (h:Dev w S g m ls r s) (hb:Below w.heap.size w w'):Dev w' S g m ls r s:=by
 obtain ⟨⟨b,c,bks,h1,h2⟩,h3,h4,h5,h6,h7⟩:=h
 exact ⟨⟨b,c,bks,h1.kept hb,h2⟩,h3,h4,h5,h6,fun k hk=>Nat.lt_of_lt_of_le (h7 k hk) hb.size⟩
theorem Dev.into {S':List Nat} (h:Dev w S g m ls r s) (hb:Flow.Into S' w w') (hn:∀k,k∈S->k∉S'):Dev w' S g m ls r s:=by
 obtain ⟨⟨b,c,bks,h1,h2⟩,h3,h4,h5,h6,h7⟩:=h
 exact ⟨⟨b,c,bks,h1.into hb fun k hk=>hn k (h2 k hk),h2⟩,h3,h4,h5,h6,fun k hk=>Nat.lt_of_lt_of_le (h7 k hk) hb.size⟩
theorem Dev.g_in (h:Dev w S g m ls r s):g∈S:=by
 obtain ⟨⟨b,c,bks,h1,h2⟩,_⟩:=h
 exact h2 g (by simp [foot])
theorem Dev.cells (h:Dev w S g m ls r s):∃b c,w.cell? ⟨g,0,none⟩=some (.int .i64 (m:Int))/\w.cell? ⟨g,1,none⟩=some (.slice (some ⟨b,0,none⟩) ls.length c)/\w.cell? ⟨g,2,none⟩=some (.int .u64 (r:Int))/\w.cell? ⟨g,3,none⟩=some (.int .u64 (s:Int)):=by
 obtain ⟨⟨b,c,bks,h1,h2⟩,_⟩:=h
 have:=h1.cells
 rw [h1.len] at this
 exact ⟨b,c,this⟩
end
theorem below_of_into {S:List Nat} {B:Nat} {w w':World} (h:Flow.Into S w w') (hS:∀k,k∈S->B<=k) (hB:B<=w.heap.size):Below B w w':=
 ⟨h.os,h.tape,h.output,h.size,fun k hk=>h.block k (by omega) fun hh=>by have:=hS k hh;omega⟩
theorem wpList_copy_into {P:Program} {w:World} {ops:Array Oper} {rest:List Oper} {o:Oper} {a:Act} {Q:Exit->Act->World->Prop} (hgd:o.guard=none) (d s:Operand) (dT sT:TypeId)
 (ho:o.op= .call { callee:= .builtin .copy,args:= #[d,s],argTypes:= #[dT,sT] }) (U:TypeId) (hu:P.underlying dT=some (.slice U)) (hsz:(P.info? U).map (·.size)=some 1)
 (q off n c1 m c2:Nat) (sp:Option Addr) (hd:a.eval d= .slice (some ⟨q,off,none⟩) n c1) (hs:a.eval s= .slice sp m c2)
 (L:List Value) (l:List UInt8) (hg:Cells U w q L) (hl:l.length=m) (hb:BL w sp l) (hmn:m<=n) (hn:off+n<=L.length)
 (h:∀w',Hid (Cells U w' q (splice L off (bytesV l)))->Hid (Flow.Into [q] w w')->wpList P ops Q rest (a.put o.dst (goInt m)) w'):wpList P ops Q (o::rest) a w:=by
 subst hl
 by_cases h0:l.length=0
 . obtain rfl:l=[]:=List.eq_nil_of_length_eq_zero h0
   refine wpList_copy_nothing hgd d s dT sT ho U hu hsz _ sp n c1 0 c2 hd hs (by simp) ?_
   exact h w (by unfold Hid;simpa [splice,bytesV] using hg) (by unfold Hid;exact Flow.Into.refl _ _)
 . obtain ⟨b,o',rfl,hc⟩:=hb (by omega)
   refine wpList_copy_own hgd d s dT sT ho U hu hsz q off n c1 ⟨b,o',none⟩ l.length c2 hd hs L.toArray U hg (bytesV l) (by simpa using (Nat.min_eq_left hmn).symm) (fun j v hj=>?_) (by simp;omega) (bytesV_one l) ?_
   . have hjl:j<l.length:=by
      rcases Nat.lt_or_ge j l.length with h'|h'
      . exact h'
      . rw [List.getElem?_eq_none (by simpa using h')] at hj;cases hj
     have hv:v=byteV l[j]:=by simpa [bytesV,hjl] using hj.symm
     rw [hv,<-hc j hjl]
     by_cases h0:j=0<;>simp [Addr.add,h0]
   . rw [bytesV_length]
     refine h _ ?_ ?_
     . unfold Hid Cells
       have:=setRow_heap w q _ (splice L off (bytesV l)).toArray U _ hg
       simpa [splice] using this
     . unfold Hid
       exact ⟨rfl,rfl,rfl,by simp [World.setRow],fun k _ hk=>setRow_other w q k _ (by simpa using hk)⟩
end Dv
end Go.Proofs.YtjpjjnalpdpljaaGreatDoor
namespace Go.Proofs.YtjpjjnalpdpljaaGreatDoor
open Go.RowKit
namespace Dv
open Mem
theorem slinfo:(Tryz.prog.info? 72).map (fun i=>(i.zero,i.size,i.bytes))=some (some (.slice none 0 0),1,24):=by kernel_rfl
theorem u8info:(Tryz.prog.info? 5).map (fun i=>(i.zero,i.size,i.bytes))=some (some (.int .u8 0),1,1):=by kernel_rfl
theorem u8size:(Tryz.prog.info? 5).map (·.size)=some 1:=by kernel_rfl
theorem isSize_yes (m:Int) (w:World) (h0:1<=m) (h1:m<=65536):Calls Tryz.prog 64 #[.int .i64 m] w fun e w'=>e= .returned (.bool true)/\w=w':=by
 go_enter Tryz.func64,Tryz.ntmps64
 go_wp2
 go_ret
 exact ⟨rfl,rfl⟩
theorem none_at (n i:Nat) (x:Nat × Nat × Nat):(List.replicate n (none:Bk))[i]? ≠some (some x):=fun h=>by
 rw [List.getElem?_replicate] at h
 split at h<;>simp at h
theorem dev_new {w2:World} {g b n m:Nat} (hb:Ow 72 w2 b n (List.replicate n (.slice none 0 0))) (hg:w2.heap[g]? =some (.cells #[.int .i64 (m:Int), .slice (some ⟨b,0,none⟩) n n, .int .u64 0, .int .u64 0] 104 (0,0))):
 DevW w2 g b n m (List.replicate n none) (List.replicate n (List.replicate m 0)) 0 0:=by
 refine ⟨by simpa using hg,?_,by simp,fun l hl=>?_,fun i hi=>?_,fun i q o k hi=>absurd hi (none_at n i _),fun i j q o k o' k' _ hi=>absurd hi (none_at n i _)⟩
 . rw [List.map_replicate];exact hb
 . rw [List.eq_of_mem_replicate hl];simp
 . rw [List.getElem?_replicate] at hi ⊢
   split at hi
   . rename_i h;rw [if_pos h]
   . cases hi
def Newd (w w':World) (n m:Nat) (e:Ending):Prop:=∃g b,e= .returned (.tuple #[.pointer (some ⟨g,0,none⟩), .int .i64 0])/\DevW w' g b n m (List.replicate n none) (List.replicate n (List.replicate m 0)) 0 0/\w.heap.size<=g/\w.heap.size<=b
theorem New_w (n m:Nat) (w:World) (n1:5<=n) (n2:n<=65536) (m1:1<=m) (m2:m<=65536):Calls Tryz.prog 29 #[.int .i64 (n:Int), .int .i64 (m:Int)] w fun e w'=>Newd w w' n m e/\Below w.heap.size w w':=by
 have hmk:=fun w=>run_make_at (P:=Tryz.prog) Tryz.underlying102 slinfo rfl (by omega) n (by omega) w
 have cS:=fun w=>Lib.hid (isSize_yes m w (by omega) (by omega))
 have HM:Hid (n<=1048576):=by unfold Hid;omega
 go_enter Tryz.func29,Tryz.ntmps29
 go_wp2_with (go_at_call 64;refine (cS _).out.mono ?_;rintro e w' ⟨rfl,rfl⟩)
 have hw0:Ow 72 (w.alloc (.cells (Array.replicate n (.slice none 0 0)) 72)) w.heap.size n (List.replicate n (.slice none 0 0)):=by
  have:=ow_made 72 w (.slice none 0 0) n HM.out
  simpa using this
 have hb1:Below w.heap.size w (w.alloc (.cells (Array.replicate n (.slice none 0 0)) 72)):=(Below.refl _ _).alloc (Nat.le_refl _) _
 have hs1:(w.alloc (.cells (Array.replicate n (.slice none 0 0)) 72)).heap.size=w.heap.size+1:=by simp
 generalize w.alloc (.cells (Array.replicate n (.slice none 0 0)) 72)=w1 at*
 refine bodyPost_ret (v:= .tuple #[.pointer (some ⟨w.heap.size+1,0,none⟩), .int .i64 0]) (by simp [results,Tryz.results29,go_sem]) rfl ⟨?_,hb1.alloc hb1.size _⟩
 exact ⟨w.heap.size+1,w.heap.size,rfl,dev_new (hw0.kept ((Below.refl _ _).alloc (Nat.le_refl _) (.cells #[.int .i64 (m:Int), .slice (some ⟨w.heap.size,0,none⟩) n n, .int .u64 0, .int .u64 0] 104))) (by rw [<-hs1,heap_alloc_new]),by omega,Nat.le_refl _⟩
def Made (w w':World) (m:Nat) (ls:List (List UInt8)) (r s:Nat) (e:Ending):Prop:=∃g S,e= .returned (.tuple #[.pointer (some ⟨g,0,none⟩), .int .i64 0])/\Dev w' S g m ls r s/\∀k,k∈S->w.heap.size<=k
theorem New_in (n m:Nat) (w:World) (n1:5<=n) (n2:n<=65536) (m1:1<=m) (m2:m<=65536):Calls Tryz.prog 29 #[.int .i64 (n:Int), .int .i64 (m:Int)] w fun e w'=>Made w w' m (List.replicate n (List.replicate m 0)) 0 0 e/\Below w.heap.size w w':=
 (New_w n m w n1 n2 m1 m2).mono fun e w' ⟨⟨g,b,he,hd,hg,hb⟩,hbl⟩=>⟨⟨g,foot g b (List.replicate n none),he,⟨⟨b,n,_,hd,fun k hk=>hk⟩,m1,m2,by simpa using n1,by simpa using n2,hd.lt⟩,fun k hk=>by
   rcases of_foot hk with rfl|rfl|⟨i,o,k',hi⟩
   . exact hg
   . exact hb
   . exact absurd hi (none_at n i _)⟩,hbl⟩
section
variable {w:World} {S:List Nat} {g m:Nat} {ls:List (List UInt8)} {r s:Nat}
theorem Blocks_any (h:Dev w S g m ls r s):Calls Tryz.prog 32 #[.pointer (some ⟨g,0,none⟩)] w fun e w'=>e= .returned (.int .i64 (ls.length:Int))/\w=w':=by
 obtain ⟨b,c,h0,h1,h2,h3⟩:=h.cells
 clear h h0 h2 h3
 go_enter Tryz.func32,Tryz.ntmps32
 go_wp2
 go_ret
 exact ⟨rfl,rfl⟩
theorem Bytes_any (h:Dev w S g m ls r s):Calls Tryz.prog 33 #[.pointer (some ⟨g,0,none⟩)] w fun e w'=>e= .returned (.int .i64 (m:Int))/\w=w':=by
 obtain ⟨b,c,h0,h1,h2,h3⟩:=h.cells
 clear h h1 h2 h3
 go_enter Tryz.func33,Tryz.ntmps33
 go_wp2
 go_ret
 exact ⟨rfl,rfl⟩
theorem Stats_any (h:Dev w S g m ls r s):Calls Tryz.prog 25 #[.pointer (some ⟨g,0,none⟩)] w fun e w'=>e= .returned (.agg #[.int .u64 (r:Int), .int .u64 (s:Int)])/\Below w.heap.size w w':=by
 obtain ⟨b,c,h0,h1,h2,h3⟩:=h.cells
 have hg:g<w.heap.size:=Flow.lt_of_cell h2
 clear h h0 h1
 go_enter Tryz.func25,Tryz.ntmps25
 go_wp2
 refine bodyPost_ret (v:= .agg #[.int .u64 (r:Int), .int .u64 (s:Int)]) (by simp [results,Tryz.results25,go_sem]) rfl ⟨rfl,?_⟩
 exact (Below.refl _ _).alloc (Nat.le_refl _) _
theorem place_in (h:Dev w S g m ls r s) (i:Nat) (hi:i<ls.length):Calls Tryz.prog 60 #[.pointer (some ⟨g,0,none⟩), .int .u32 (i:Int)] w fun e w'=>e= .returned (.int .i64 0)/\w=w':=by
 have cB:=Lib.hid (Blocks_any h)
 have n1:=h.n1
 have n2:=h.n2
 obtain ⟨n,hn⟩:∃n,n=ls.length:=⟨_,rfl⟩
 rw [<-hn] at cB hi n1 n2
 have hn0:((n:Int)==0)=false:=by simp;omega
 clear h hn
 go_enter Tryz.func60,Tryz.ntmps60
 go_wp2_with (go_at_call 32;refine cB.out.mono ?_;rintro e w' ⟨rfl,rfl⟩)
 go_ret
 exact ⟨rfl,rfl⟩
theorem place_out (h:Dev w S g m ls r s) (i:Nat) (hi:ls.length<=i):Calls Tryz.prog 60 #[.pointer (some ⟨g,0,none⟩), .int .u32 (i:Int)] w fun e w'=>e= .returned (.int .i64 4)/\w=w':=by
 have cB:=Lib.hid (Blocks_any h)
 have n1:=h.n1
 have n2:=h.n2
 obtain ⟨n,hn⟩:∃n,n=ls.length:=⟨_,rfl⟩
 rw [<-hn] at cB hi n1 n2
 have hn0:((n:Int)==0)=false:=by simp;omega
 clear h hn
 go_enter Tryz.func60,Tryz.ntmps60
 go_wp2_with (go_at_call 32;refine cB.out.mono ?_;rintro e w' ⟨rfl,rfl⟩)
 go_ret
 exact ⟨rfl,rfl⟩
end
end Dv
end Go.Proofs.YtjpjjnalpdpljaaGreatDoor
namespace Go.Proofs.YtjpjjnalpdpljaaGreatDoor
open Go.RowKit
namespace Dv
open Mem
theorem into_more {S S':List Nat} {a b c:World} (h:Flow.Into S a b) (k:Flow.Into S' b c) (hn:∀x,x∈S'->x∈S\/a.heap.size<=x):Flow.Into S a c:=
 ⟨k.os.trans h.os,k.tape.trans h.tape,k.output.trans h.output,Nat.le_trans h.size k.size,fun i hi hs=>(k.block i (Nat.lt_of_lt_of_le hi h.size) (fun hh=>by
   rcases hn i hh with h'|h'
   . exact hs h'
   . omega)).trans (h.block i hi hs)⟩
theorem splice_whole {α:Type} {L l:List α} (h:l.length=L.length):splice L 0 l=l:=by
 simp [splice,h]
theorem DevW.look {w:World} {g b c m:Nat} {bks:List Bk} {ls:List (List UInt8)} {r s:Nat} (h:DevW w g b c m bks ls r s) {i:Nat} {x:List UInt8} (hy:ls[i]? =some x):
 ∃A n' k' l',w.cell? ⟨b,i,none⟩=some (.slice A n' k')/\BL w A l'/\l'.length=n'/\n'<=m/\Go.splice (bytesV (List.replicate m 0)) 0 (bytesV l')=bytesV x:=by
 obtain ⟨hi,-⟩:=List.getElem?_eq_some_iff.1 hy
 have hib:i<bks.length:=by rw [h.len];exact hi
 have hx:bks[i]? =some bks[i]:=List.getElem?_eq_getElem hib
 have hc:=h.bcell hx
 match e:bks[i] with
 |none=>
  rw [e] at hx hc
  have h1:=h.no i hx
  rw [hy] at h1
  refine ⟨none,0,0,[],hc,BL.nil _ _,rfl,Nat.zero_le _,?_⟩
  rw [Option.some.inj h1]
  simp [Go.splice,bytesV]
 |some (q,o,k)=>
  rw [e] at hx hc
  obtain ⟨_,_,_,C,x',h4,h5,h6,h7⟩:=h.yes i q o k hx
  rw [hy] at h6
  obtain rfl:=Option.some.inj h6
  obtain ⟨hl,hb⟩:=cells_win h4 h5 h7
  refine ⟨some ⟨q,o,none⟩,m,k,x,hc,hb,hl,Nat.le_refl _,splice_whole (by simp [hl])⟩
section
variable {w:World} {S:List Nat} {g m:Nat} {ls:List (List UInt8)} {r s:Nat}
theorem Read_in (h:Dev w S g m ls r s) (i:Nat) (x:List UInt8) (hx:ls[i]? =some x) (hr:r<=1000000):Calls Tryz.prog 27 #[.pointer (some ⟨g,0,none⟩), .int .u32 (i:Int)] w fun e w'=>(∃q k,e= .returned (.tuple #[.slice (some ⟨q,0,none⟩) m k, .int .i64 0])/\Row 5 w' q x/\w.heap.size<=q)/\Dev w' S g m ls (r+1) s/\Flow.Into [g] w w':=by
 obtain ⟨hi,hx'⟩:=List.getElem?_eq_some_iff.1 hx
 have cP:=Lib.hid (place_in h i hi)
 have hmk:=fun w=>run_make_at (P:=Tryz.prog) Tryz.underlying72 u8info rfl (by omega) m (by have:=h.m2;omega) w
 obtain ⟨⟨b,c,bks,h1,h2⟩,m1,m2,n1,n2,h7⟩:=h
 have H7:=Lib.hid h7
 clear h7
 obtain ⟨d0,d1,d2,d3⟩:=h1.cells
 have f2:=h1.free 2
 have hwr:IntKind.u64.wrap ((r:Int)+1)=(r:Int)+1:=by rw [IntKind.wrap_u64];omega
 have HW:=Lib.hid h1
 have HS:=Lib.hid h2
 have hib:i<bks.length:=by rw [h1.len];exact hi
 obtain ⟨n,hn⟩:∃n,n=bks.length:=⟨_,rfl⟩
 rw [<-hn] at d1 hib
 have HN:=Lib.hid hn
 have HX:=Lib.hid hx
 clear hx hx' h1 h2 hi hn d0 d1 d3
 go_enter Tryz.func27,Tryz.ntmps27
 go_upto_region 5 with (go_at_call 60;refine cP.out.mono ?_;rintro e w' ⟨rfl,rfl⟩)
 have hr1:=HW.out.read
 generalize w.setCell ⟨g,2,none⟩ (.int .u64 ((r:Int)+1))=w1 at*
 obtain ⟨hw1,hi1⟩:=hr1
 have HW1:=Lib.hid hw1
 have HI1:=Lib.hid hi1
 obtain ⟨d0,d1,-,-⟩:=hw1.cells
 rw [<-HN.out] at d1
 clear d2 f2 hw1 hi1
 go_upto_region 6 with fail
 have hrow:Row 5 (w1.alloc (.cells (Array.replicate m (.int .u8 0)) 5)) w1.heap.size (List.replicate m 0):=by
  have:=Row.new 5 w1 (List.replicate m 0)
  simpa [bytesV,byteV] using this
 have hb2:Below w1.heap.size w1 (w1.alloc (.cells (Array.replicate m (.int .u8 0)) 5)):=(Below.refl _ _).alloc (Nat.le_refl _) _
 generalize w1.alloc (.cells (Array.replicate m (.int .u8 0)) 5)=w2 at*
 have HW2:=Lib.hid (HW1.out.kept hb2)
 obtain ⟨q,hq⟩:∃q,q=w1.heap.size:=⟨_,rfl⟩
 have hqs:w.heap.size<=q:=by have:=HI1.out.size;omega
 rw [<-hq] at hrow ⊢
 have HROW:Hid (Cells 5 w2 q (bytesV (List.replicate m 0))):=Lib.hid hrow
 have HB2:=Lib.hid hb2
 have HQ:=Lib.hid hq
 obtain ⟨A,n',k',l',e1,e2,e3,e4,e5⟩:=HW2.out.look HX.out
 have HE2:=Lib.hid e2
 have HE3:=Lib.hid e3
 have HE5:=Lib.hid e5
 obtain ⟨d0,d1,-,-⟩:=HW2.out.cells
 rw [<-HN.out] at d1
 clear hrow hb2 hq e2 e3 e5
 go_wp2_with (with_reducible refine wpList_copy_into rfl (.tmp 28) (.tmp 35) _ _ rfl 5 Tryz.underlying72 u8size q 0 m m n' k' A rfl rfl (bytesV (List.replicate m 0)) l' HROW.out HE3.out HE2.out e4 (by simp) ?_;intro w3 hr3 hi3)
 refine bodyPost_ret (v:= .tuple #[.slice (some ⟨q,0,none⟩) m m, .int .i64 0]) (by simp [results,Tryz.results27,go_sem]) rfl ⟨⟨q,m,rfl,?_,hqs⟩,⟨⟨b,c,bks,?_,HS.out⟩,m1,m2,n1,n2,fun k hk=>Nat.lt_of_lt_of_le (H7.out k hk) (Nat.le_trans HI1.out.size (Nat.le_trans HB2.out.size hi3.out.size))⟩,?_⟩
 . have:=hr3.out
   rw [HE5.out] at this
   exact this
 . refine HW2.out.into hi3.out fun k hk=>?_
   have:=HW1.out.lt k hk
   have:=HQ.out
   simp;omega
 . refine into_more (HI1.out.trans (Flow.Into.of_below HB2.out)) hi3.out fun y hy=> .inr ?_
   obtain rfl:y=q:=by simpa using hy
   exact hqs
end
end Dv
end Go.Proofs.YtjpjjnalpdpljaaGreatDoor
namespace Go.Proofs.YtjpjjnalpdpljaaGreatDoor
open Go.RowKit
namespace Dv
open Mem
section
variable {w:World} {S:List Nat} {g m:Nat} {ls:List (List UInt8)} {r s:Nat}
theorem Write_form (h:Dev w S g m ls r s) (i:Nat) (A:Option Addr) (n c:Nat) (hi:i<ls.length) (hn:n≠m):Calls Tryz.prog 133 #[.pointer (some ⟨g,0,none⟩), .int .u32 (i:Int), .slice A n c] w fun e w'=>e= .returned (.int .i64 3)/\w=w':=by
 have cP:=Lib.hid (place_in h i hi)
 obtain ⟨b,c',d0,-,-,-⟩:=h.cells
 have hne:(((n:Int) != (m:Int)))=true:=by simp;omega
 clear h hi hn
 go_enter Tryz.func133,Tryz.ntmps133
 go_wp2_with (go_at_call 60;refine cP.out.mono ?_;rintro e w' ⟨rfl,rfl⟩)
 go_ret
 exact ⟨rfl,rfl⟩
theorem Write_old {b c:Nat} {bks:List Bk} (i:Nat) (h1:DevW w g b c m bks ls r s) (cP0:Calls Tryz.prog 60 #[.pointer (some ⟨g,0,none⟩), .int .u32 (i:Int)] w fun e w'=>e= .returned (.int .i64 0)/\w=w') (hs:s<=1000000)
 (A:Option Addr) (k:Nat) (l:List UInt8) (hl:l.length=m) (hA:BL w A l) (hn:∀a,A=some a->a.block≠g) {q o k':Nat} (hx:bks[i]? =some (some (q,o,k'))):
 Calls Tryz.prog 133 #[.pointer (some ⟨g,0,none⟩), .int .u32 (i:Int), .slice A m k] w fun e w'=>e= .returned (.int .i64 0)/\DevW w' g b c m bks (ls.set i l) r (s+1)/\Flow.Into [g,q] w w':=by
 have cP:=Lib.hid cP0
 obtain ⟨d0,d1,d2,d3⟩:=h1.cells
 have f3:=h1.free 3
 have hwr:IntKind.u64.wrap ((s:Int)+1)=(s:Int)+1:=by rw [IntKind.wrap_u64];omega
 have HW:=Lib.hid h1
 have HX:=Lib.hid hx
 have HL:=Lib.hid hl
 have HA:=Lib.hid hA
 have HN:=Lib.hid hn
 have hib:i<bks.length:=(List.getElem?_eq_some_iff.1 hx).1
 have hnil:∀W,(binOp .eql 72 (.slice (some ⟨q,o,none⟩) m k') (.slice none 0 0)).run Tryz.prog W= .ok (.bool false) W:=fun W=>Lib.run_eql_slice_nil W _ _ _ _ _ _ _ Tryz.underlying72
 obtain ⟨n,hn'⟩:∃n,n=bks.length:=⟨_,rfl⟩
 rw [<-hn'] at d1 hib
 have HNN:=Lib.hid hn'
 clear hx hl hA hn h1 cP0 hn' d1 d2
 go_enter Tryz.func133,Tryz.ntmps133
 go_upto_region 7 with (go_at_call 60;refine cP.out.mono ?_;rintro e w' ⟨rfl,rfl⟩)
 have hr1:=HW.out.wrote
 generalize w.setCell ⟨g,3,none⟩ (.int .u64 ((s:Int)+1))=w1 at*
 obtain ⟨hw1,hi1⟩:=hr1
 have HW1:=Lib.hid hw1
 have HI1:=Lib.hid hi1
 have HA1:=Lib.hid (HA.out.keep (w':=w1) fun hl a ha=>hi1.block _ (HA.out.lt hl a ha) (by simpa using HN.out a ha))
 obtain ⟨-,d1,-,-⟩:=hw1.cells
 rw [<-HNN.out] at d1
 have d4:w1.cell? ⟨b,i,none⟩=some (.slice (some ⟨q,o,none⟩) m k'):=hw1.bcell HX.out
 obtain ⟨q1,q2,q3,L,x0,q4,q5,q6,q7⟩:=hw1.yes i q o k' HX.out
 have HQ4:=Lib.hid q4
 clear d3 f3 hw1 hi1 q4 q6 q7 d0
 go_wp2_with (with_reducible refine wpList_copy_into rfl (.tmp 55) (.tmp 56) _ _ rfl 5 Tryz.underlying72 u8size q o m k' m k A rfl rfl L l HQ4.out HL.out HA1.out (Nat.le_refl _) q5 ?_;intro w3 hr3 hi3)
 go_ret
 refine ⟨rfl,HW1.out.splice HX.out HQ4.out HL.out hi3.out hr3.out,?_⟩
 exact (HI1.out.mono fun y hy=>by simp at hy ⊢;exact .inl hy).trans (hi3.out.mono fun y hy=>by simp at hy ⊢;exact .inr hy)
theorem Write_new {b c:Nat} {bks:List Bk} (i:Nat) (h1:DevW w g b c m bks ls r s) (m1:1<=m) (m2:m<=65536) (cP0:Calls Tryz.prog 60 #[.pointer (some ⟨g,0,none⟩), .int .u32 (i:Int)] w fun e w'=>e= .returned (.int .i64 0)/\w=w') (hs:s<=1000000)
 (A:Option Addr) (k:Nat) (l:List UInt8) (hl:l.length=m) (hA:BL w A l) (hn:∀a,A=some a->a.block≠g/\a.block≠b) (hx:bks[i]? =some none):
 Calls Tryz.prog 133 #[.pointer (some ⟨g,0,none⟩), .int .u32 (i:Int), .slice A m k] w fun e w'=>e= .returned (.int .i64 0)/\(∃q,DevW w' g b c m (bks.set i (some (q,0,m))) (ls.set i l) r (s+1)/\w.heap.size<=q)/\Flow.Into [g,b] w w':=by
 have cP:=Lib.hid cP0
 obtain ⟨d0,d1,d2,d3⟩:=h1.cells
 have f3:=h1.free 3
 have hwr:IntKind.u64.wrap ((s:Int)+1)=(s:Int)+1:=by rw [IntKind.wrap_u64];omega
 have HW:=Lib.hid h1
 have HX:=Lib.hid hx
 have HL:=Lib.hid hl
 have HA:=Lib.hid hA
 have HN:=Lib.hid hn
 have hib:i<bks.length:=(List.getElem?_eq_some_iff.1 hx).1
 have HIB:=Lib.hid hib
 obtain ⟨n,hn'⟩:∃n,n=bks.length:=⟨_,rfl⟩
 rw [<-hn'] at d1 hib
 have HNN:=Lib.hid hn'
 have hnil:∀W,(binOp .eql 72 (.slice none 0 0) (.slice none 0 0)).run Tryz.prog W= .ok (.bool true) W:=fun W=>Lib.run_eql_slice_nil W _ _ _ _ _ _ _ Tryz.underlying72
 have hmk:=fun w=>run_make_at (P:=Tryz.prog) Tryz.underlying72 u8info rfl (by omega) m (by omega) w
 clear hx hl hA hn h1 cP0 hn' d1 d2
 go_enter Tryz.func133,Tryz.ntmps133
 go_upto_region 7 with (go_at_call 60;refine cP.out.mono ?_;rintro e w' ⟨rfl,rfl⟩)
 have hr1:=HW.out.wrote
 generalize w.setCell ⟨g,3,none⟩ (.int .u64 ((s:Int)+1))=w1 at*
 obtain ⟨hw1,hi1⟩:=hr1
 have HW1:=Lib.hid hw1
 have HI1:=Lib.hid hi1
 have HA1:=Lib.hid (HA.out.keep (w':=w1) fun hl a ha=>hi1.block _ (HA.out.lt hl a ha) (by simpa using (HN.out a ha).1))
 obtain ⟨d0',d1,-,-⟩:=hw1.cells
 rw [<-HNN.out] at d1
 have d4:w1.cell? ⟨b,i,none⟩=some (.slice none 0 0):=hw1.bcell HX.out
 clear d3 f3 hw1 hi1 d0
 go_upto_region 8 with fail
 have D4:=Lib.hid d4
 have e0:=fun q:Drift.Tide [] w1 []=>Drift.Tide.cell d0' (by simp) q
 have e1:=fun q:Drift.Tide [] w1 []=>Drift.Tide.cell d1 (by simp) q
 clear d0' d1 d4 cP
 refine Drift.wp_region_drift [] [(0,[]),(1,[]),(2,[]),(3,[]),(4,[]),(5,[]),(6,[]),(7,[]),(8,[]),(9,[])] [] [9] (by kernel_rfl) (by kernel_rfl) (by simp) ?_
 simp only [Drift.pick,Drift.opsAt,List.getElem?_toArray,List.getElem?_cons_zero,List.getElem?_cons_succ,List.cons_append,List.nil_append,List.filterMap_nil]
 repeat (refine Drift.walk_step (fun K hK=>?_);go_simp;(refine hK _ ?_;clear hK K))
 refine Drift.walk_make rfl Drift.mkwalk_nil (fun b=> .slice (some ⟨b,0,none⟩) m m) (.cells (List.replicate m (.int .u8 0)).toArray 5) (fun W=>by go_simp) (fun q hq hT=>?_)
 refine Drift.walk_nil ?_
 intro w2 hb2 hl2
 have hrow:Row 5 w2 q (List.replicate m 0):=by
  have:=hl2 (q, .cells (List.replicate m (.int .u8 0)).toArray 5) (by simp)
  unfold Row
  simpa [bytesV,byteV] using this
 have HW2:=Lib.hid (HW1.out.kept hb2)
 have hqn:q≠g/\q≠b:=by
  have h1:=HW1.out.lt g (by simp [foot])
  have h2:=HW1.out.lt b (by simp [foot])
  omega
 have hput:DevW (w2.setCell ⟨b,i,none⟩ (.slice (some ⟨q,0,none⟩) m m)) g b c m (bks.set i (some (q,0,m))) (ls.set i (List.replicate m 0)) r (s+1)/\Flow.Into [b] w2 (w2.setCell ⟨b,i,none⟩ (.slice (some ⟨q,0,none⟩) m m)):=HW2.out.put (o:=0) HIB.out hrow hqn.1 hqn.2 (by simp) (by have:=win_all (bytesV (List.replicate m 0));rw [bytesV_length,List.length_replicate] at this;exact this) (Nat.le_refl m) (fun j o' k' _ hj=>by
  have:=HW1.out.lt q (foot_at hj)
  omega)
 have HROW:=Lib.hid hrow
 have HQ:=Lib.hid hq
 have HB2:=Lib.hid hb2
 have f5:=HW2.out.bfree i
 have d4:=(Below.cell hb2 (p:=⟨b,i,none⟩) (HW1.out.lt b (by simp [foot]))).trans D4.out
 clear hrow hq hb2 hl2 e0 e1 hT
 simp only [List.length_cons,List.length_nil,List.drop_succ_cons,Nat.zero_add,Nat.reduceAdd]
 go_upto_region 9 with fail
 have hrow3:Cells 5 (w2.setCell ⟨b,i,none⟩ (.slice (some ⟨q,0,none⟩) m m)) q (bytesV (List.replicate m 0)):=(hput.2.block q HROW.out.lt (by simpa using hqn.2)).trans HROW.out
 have hA3:BL (w2.setCell ⟨b,i,none⟩ (.slice (some ⟨q,0,none⟩) m m)) A l:=(HA1.out.below HB2.out).keep fun hl a ha=>hput.2.block _ ((HA1.out.below HB2.out).lt hl a ha) (by simpa using (HN.out a ha).2)
 generalize w2.setCell ⟨b,i,none⟩ (.slice (some ⟨q,0,none⟩) m m)=w3 at*
 obtain ⟨hw3,hi3⟩:=hput
 have HW3:=Lib.hid hw3
 have HI3:=Lib.hid hi3
 have HR3:=Lib.hid hrow3
 have HA3:=Lib.hid hA3
 obtain ⟨-,d1,-,-⟩:=hw3.cells
 rw [List.length_set,<-HNN.out] at d1
 have hxs:(bks.set i (some (q,0,m)))[i]? =some (some (q,0,m)):=by rw [List.getElem?_set];simp [HIB.out]
 have HXS:=Lib.hid hxs
 have d4':w3.cell? ⟨b,i,none⟩=some (.slice (some ⟨q,0,none⟩) m m):=hw3.bcell hxs
 clear hw3 hi3 hrow3 hA3 f5 d4 hxs
 go_wp2_with (with_reducible refine wpList_copy_into rfl (.tmp 55) (.tmp 56) _ _ rfl 5 Tryz.underlying72 u8size q 0 m m m k A rfl rfl (bytesV (List.replicate m 0)) l HR3.out HL.out HA3.out (Nat.le_refl _) (by simp) ?_;intro w4 hr4 hi4)
 go_ret
 refine ⟨rfl,⟨q,?_,?_⟩,?_⟩
 . have:=HW3.out.splice HXS.out HR3.out HL.out hi4.out hr4.out
   rw [List.set_set] at this
   exact this
 . have:=HI1.out.size
   have:=HQ.out
   omega
 . refine into_more ((HI1.out.mono fun y hy=>by simp at hy ⊢;exact .inl hy).trans ((Flow.Into.of_below HB2.out).trans (HI3.out.mono fun y hy=>by simp at hy ⊢;exact .inr hy))) hi4.out fun y hy=> .inr ?_
   obtain rfl:y=q:=by simpa using hy
   have:=HI1.out.size
   have:=HQ.out
   omega
theorem Write_in (h:Dev w S g m ls r s) (i:Nat) (hi:i<ls.length) (hs:s<=1000000) (A:Option Addr) (k:Nat) (l:List UInt8) (hl:l.length=m) (hA:BL w A l) (hn:∀a,A=some a->a.block∉S):
 Calls Tryz.prog 133 #[.pointer (some ⟨g,0,none⟩), .int .u32 (i:Int), .slice A m k] w fun e w'=>e= .returned (.int .i64 0)/\(∃S',Dev w' S' g m (ls.set i l) r (s+1)/\Grew w S S')/\Flow.Into S w w':=by
 have cP:=place_in h i hi
 obtain ⟨⟨b,c,bks,h1,h2⟩,m1,m2,n1,n2,h7⟩:=h
 have hib:i<bks.length:=by rw [h1.len];exact hi
 have hx:bks[i]? =some bks[i]:=List.getElem?_eq_getElem hib
 have hg:g∈S:=h2 g (by simp [foot])
 have hb:b∈S:=h2 b (by simp [foot])
 match e:bks[i] with
 |none=>
  rw [e] at hx
  refine (Write_new i h1 m1 m2 cP hs A k l hl hA (fun a ha=>⟨fun h'=>hn a ha (h'▸hg),fun h'=>hn a ha (h'▸hb)⟩) hx).mono fun e w' ⟨he,⟨q,hd,hq⟩,hi'⟩=>?_
  refine ⟨he,⟨q::S,⟨⟨b,c,_,hd,fun k' hk'=>?_⟩,m1,m2,by simpa using n1,by simpa using n2,fun k' hk'=>?_⟩,fun k' hk'=>?_⟩,hi'.mono fun y hy=>?_⟩
  . rcases foot_set hk' with rfl|h'
    . exact List.mem_cons_self
    . exact List.mem_cons_of_mem _ (h2 _ h')
  . rcases List.mem_cons.1 hk' with rfl|h'
    . exact hd.lt _ (foot_at (i:=i) (o:=0) (k:=m) (by rw [List.getElem?_set];simp [hib]))
    . exact Nat.lt_of_lt_of_le (h7 _ h') hi'.size
  . rcases List.mem_cons.1 hk' with rfl|h'
    . exact .inr hq
    . exact .inl h'
  . simp at hy
    rcases hy with rfl|rfl
    . exact hg
    . exact hb
 |some (q,o,k')=>
  rw [e] at hx
  refine (Write_old i h1 cP hs A k l hl hA (fun a ha h'=>hn a ha (h'▸hg)) hx).mono fun e w' ⟨he,hd,hi'⟩=>?_
  refine ⟨he,⟨S,⟨⟨b,c,_,hd,h2⟩,m1,m2,by simpa using n1,by simpa using n2,fun k' hk'=>Nat.lt_of_lt_of_le (h7 _ hk') hi'.size⟩,fun k' hk'=> .inl hk'⟩,hi'.mono fun y hy=>?_⟩
  simp at hy
  rcases hy with rfl|rfl
  . exact hg
  . exact h2 _ (foot_at hx)
end
end Dv
end Go.Proofs.YtjpjjnalpdpljaaGreatDoor
namespace Go.Proofs.YtjpjjnalpdpljaaGreatDoor
open Go.RowKit
namespace Dv
open Mem
theorem own_cells {U:TypeId} {w:World} {B:Nat} {v:Value} {l:List UInt8} (h:Own U w B v l) (h0:0<l.length):∃q c C,v= .slice (some ⟨q,0,none⟩) l.length c/\B<=q/\Cells U w q C/\l.length<=c/\l.length<=C.length/\win C 0 l.length=bytesV l:=by
 obtain ⟨_,h2⟩:=h
 rcases h2 with ⟨_,h'⟩|⟨g,cap,cur,rfl,hB,hh,hle,_,hsz,htake⟩
 . omega
 . exact ⟨g,cap,cur.toList,rfl,hB,by unfold Cells;simpa using hh,hle,by simp;omega,by simpa [win] using htake⟩
def Cloned (w w':World) (n:Nat) (l:List UInt8) (e:Ending):Prop:=∃q c' C,e= .returned (.slice (some ⟨q,0,none⟩) n c')/\Cells 5 w' q C/\n<=c'/\n<=C.length/\win C 0 n=bytesV l/\w.heap.size<=q
theorem Clone_bytes (A:Option Addr) (c:Nat) (l:List UInt8) (w:World) (hA:BL w A l) (h0:0<l.length) (hm:l.length<=1048576):
 Calls Tryz.prog 87 #[.slice A l.length c] w fun e w'=>Cloned w w' l.length l e/\Below w.heap.size w w':=by
 obtain ⟨b,o,rfl,_⟩:=hA h0
 obtain ⟨m,hm'⟩:∃m,m=l.length:=⟨_,rfl⟩
 have hnil:∀W,(binOp .eql 72 (.slice (some ⟨b,o,none⟩) m c) (.slice none 0 0)).run Tryz.prog W= .ok (.bool false) W:=fun W=>Lib.run_eql_slice_nil W _ _ _ _ _ _ _ Tryz.underlying72
 have HO:Hid (Own 5 (w.alloc (.cells #[] 5)) w.heap.size (.slice (some ⟨w.heap.size,0,none⟩) 0 0) []):=Own.lit 5 w w.heap.size [] (Nat.le_refl _) (by decide)
 have HA:=Lib.hid (hA.alloc (.cells #[] 5))
 have HL:=Lib.hid hm'.symm
 have HP:=Lib.hid h0
 have hs:w.heap.size<=(w.alloc (.cells #[] 5)).heap.size:=by simp
 have HB:Hid (Below w.heap.size w (w.alloc (.cells #[] 5))):=(Below.refl _ _).alloc (Nat.le_refl _) _
 rw [<-hm'] at hm ⊢
 clear hA h0 hm'
 go_enter Tryz.func87,Tryz.ntmps87
 have hmm:([]:List UInt8).length+m<=140737488355328:=by simp;omega
 go_wp2_with (with_reducible refine wpList_append_bytes rfl (.tmp 5) (.tmp 6) _ rfl w.heap.size 5 Tryz.underlying72 u8info (.slice (some ⟨w.heap.size,0,none⟩) 0 0) [] rfl HO.out (some ⟨b,o,none⟩) m c l rfl HL.out HA.out hmm hs ?_;intro v' w1 hO hg _)
 have HOO:Hid (Own 5 w1 w.heap.size v' l):=by unfold Hid;simpa using hO.out
 obtain ⟨q,c',C,rfl,h1,h2,h3,h4,h5⟩:=own_cells HOO.out HP.out
 have HB1:=Lib.hid (HB.out.grown hg hs (fun k hk=>by
  obtain rfl:w.heap.size=k:=by simpa [Value.ownBlock] using hk
  exact Nat.le_refl _))
 have H5:=Lib.hid h5
 clear hO hg h5
 rw [HL.out] at*
 go_wp2_with fail
 go_ret
 exact ⟨⟨q,c',C,rfl,h2,h3,h4,H5.out,h1⟩,HB1.out⟩
def part (ls:List (List UInt8)) (m k:Nat):List UInt8:=(ls.take k).flatten++List.replicate ((ls.length-k)*m) 0
theorem flat_len {m:Nat}:∀{ls:List (List UInt8)},(∀l,l∈ls->l.length=m)->ls.flatten.length=ls.length*m
 |[],_=>by simp
 |x::r,h=>by
  rw [List.flatten_cons,List.length_append,h x List.mem_cons_self,flat_len fun l hl=>h l (List.mem_cons_of_mem _ hl),List.length_cons,Nat.succ_mul];omega
theorem take_flat_len {m k:Nat} {ls:List (List UInt8)} (h:∀l,l∈ls->l.length=m) (hk:k<=ls.length):(ls.take k).flatten.length=k*m:=by
 rw [flat_len fun l hl=>h l (List.mem_of_mem_take hl),List.length_take,Nat.min_eq_left hk]
theorem part_len {m k:Nat} {ls:List (List UInt8)} (h:∀l,l∈ls->l.length=m) (hk:k<=ls.length):(part ls m k).length=ls.length*m:=by
 unfold part
 rw [List.length_append,take_flat_len h hk,List.length_replicate,<-Nat.add_mul]
 congr 1;omega
end Dv
end Go.Proofs.YtjpjjnalpdpljaaGreatDoor
namespace Go.Proofs.YtjpjjnalpdpljaaGreatDoor
open Go.RowKit
namespace So
open Mem Po
def Srt (l:List Nat):Prop:=l.Pairwise (· <= ·)
def Ins (L l:List Nat) (i j:Nat):Prop:=∃A x B C,L=A++x::(B++C)/\A.length=j/\j+B.length=i/\Srt (A++B)/\(∀b,b∈B->x<b)/\L.Perm l
theorem ins_start {L l:List Nat} {i:Nat} (hi:i<L.length) (hs:Srt (L.take i)) (hp:L.Perm l):Ins L l i i:=by
 refine ⟨L.take i,L[i],[],L.drop (i+1),?_,by simp;omega,by simp,by simpa using hs,by simp,hp⟩
 simp
theorem isNaN_any (x:Int) (w:World):Calls Tryz.prog 210 #[.int .u32 x] w fun e w'=>e= .returned (.bool false)/\w=w':=by
 go_enter Tryz.func210,Tryz.ntmps210
 go_wp2
 go_ret
 exact ⟨by simp,rfl⟩
theorem Less_any (x y:Int) (w:World):Calls Tryz.prog 192 #[.int .u32 x, .int .u32 y] w fun e w'=>e= .returned (.bool (decide (x<y)))/\w=w':=by
 have cN:=fun x=>Lib.hid (isNaN_any x w)
 go_enter Tryz.func192,Tryz.ntmps192
 go_wp2_with (go_at_call 210;refine (cN _).out.mono ?_;rintro e w' ⟨rfl,rfl⟩)
 all_goals go_ret
 all_goals exact ⟨by simp_all,rfl⟩
theorem below_drw (w:World):Below w.heap.size w { w with drawn:=w.drawn+1 }:=⟨rfl,rfl,rfl,Nat.le_refl _,fun _ _=>rfl⟩
structure OS (w wr:World) (g c:Nat) (l L:List Nat) (n k:Nat):Prop where
 ow:Ow 25 wr g c (L.map u32V)
 so:Srt (L.take k)
 pm:L.Perm l
 hi:Flow.Into [g] w wr
 le:L.length=n
structure IS (w wr:World) (g c:Nat) (l L:List Nat) (n i j:Nat):Prop where
 ow:Ow 25 wr g c (L.map u32V)
 ins:Ins L l i j
 hi:Flow.Into [g] w wr
 le:L.length=n
section
variable {w wr w':World} {g c n i j k:Nat} {l L:List Nat}
theorem IS.drawn (h:IS w wr g c l L n i j):IS w { wr with drawn:=wr.drawn+1 } g c l L n i j:=⟨h.ow.kept (below_drw wr),h.ins,h.hi.trans (Flow.Into.of_below (below_drw wr)),h.le⟩
theorem below_dn (w:World) (m:Nat):Below w.heap.size w (w.drewN m):=⟨rfl,rfl,rfl,Nat.le_refl _,fun _ _=>rfl⟩
theorem IS.drew (h:IS w wr g c l L n i j) (m:Nat):IS w (wr.drewN m) g c l L n i j:=⟨h.ow.kept (below_dn wr m),h.ins,h.hi.trans (Flow.Into.of_below (below_dn wr m)),h.le⟩
theorem OS.drew (h:OS w wr g c l L n i) (m:Nat):OS w (wr.drewN m) g c l L n i:=⟨h.ow.kept (below_dn wr m),h.so,h.pm,h.hi.trans (Flow.Into.of_below (below_dn wr m)),h.le⟩
theorem OS.is (h:OS w wr g c l L n i) (hi:i<n):IS w wr g c l L n i i:=⟨h.ow,ins_start (by rw [h.le];exact hi) h.so h.pm,h.hi,h.le⟩
theorem IS.cell (h:IS w wr g c l L n i j) {a x:Nat} (hx:L[a]? =some x):wr.cell? ⟨g,a,none⟩=some (.int .u32 (x:Int)):=by
 obtain ⟨h1,h2⟩:=List.getElem?_eq_some_iff.1 hx
 rw [h.ow.cell (by simpa using h1)]
 simp [u32V,h2]
theorem IS.swap (h:IS w wr g c l L n i (k+1)) {x y:Nat} (hs:Ins ((L.set (k+1) y).set k x) l i k):IS w ((wr.setCell ⟨g,k+1,none⟩ (.int .u32 (y:Int))).setCell ⟨g,k,none⟩ (.int .u32 (x:Int))) g c l ((L.set (k+1) y).set k x) n i k:=by
 obtain ⟨o1,i1⟩:=h.ow.set (k+1) (.int .u32 (y:Int))
 obtain ⟨o2,i2⟩:=o1.set k (.int .u32 (x:Int))
 refine ⟨?_,hs,(h.hi.trans i1).trans i2,by simpa using h.le⟩
 have e:((L.map u32V).set (k+1) (.int .u32 (y:Int))).set k (.int .u32 (x:Int))=((L.set (k+1) y).set k x).map u32V:=by
  rw [List.map_set,List.map_set];rfl
 rw [<-e]
 exact o2
end
theorem insert_nil {w:World} (c:Nat):Calls Tryz.prog 186 #[.slice none 0 c, .int .i64 0, .int .i64 0] w fun e w'=>e= .returned (.tuple #[])/\w=w':=by
 go_enter Tryz.func186,Tryz.ntmps186
 go_wp2_with fail
 go_loopg [6] 0 (fun gk iv wr=>gk=0/\iv= .int .i64 1/\w=wr)
 case atStart=>exact ⟨rfl,rfl,rfl⟩
 case round=>
  obtain ⟨rfl,rfl,rfl⟩:=hrel
  go_wp2_with fail
  go_end0
  exact ⟨rfl,rfl⟩
end So
end Go.Proofs.YtjpjjnalpdpljaaGreatDoor
namespace Go.Proofs.YtjpjjnalpdpljaaGreatDoor
open Go.RowKit
namespace So
open Mem Po
theorem Len_small (n:Nat) (hn:n<=12) (w:World):Calls Tryz.prog 165 #[.int .u64 (n:Int)] w fun e w'=>∃z,e= .returned (.int .i64 z)/\w=w':=by
 have h:n=0\/n=1\/n=2\/n=3\/n=4\/n=5\/n=6\/n=7\/n=8\/n=9\/n=10\/n=11\/n=12:=by omega
 clear hn
 rcases h with rfl|rfl|rfl|rfl|rfl|rfl|rfl|rfl|rfl|rfl|rfl|rfl|rfl
 all_goals
  go_enter Tryz.func165,Tryz.ntmps165
  go_wp2_with go_in
  go_ret
  exact ⟨_,rfl,rfl⟩
theorem pdq_zero {w:World} (c:Nat) (z:Int):Calls Tryz.prog 164 #[.slice none 0 c, .int .i64 0, .int .i64 0, .int .i64 z] w fun e w'=>e= .returned (.tuple #[])/\w=w':=by
 have cI:=Lib.hid (insert_nil (w:=w) c)
 go_enter Tryz.func164,Tryz.ntmps164
 go_wp2_with fail
 go_loopg [1,2] 0 (fun gk av bv wr=>gk=0/\av= .int .i64 0/\bv= .int .i64 0/\w=wr)
 case atStart=>exact ⟨rfl,rfl,rfl,rfl⟩
 case round=>
  obtain ⟨rfl,rfl,rfl,rfl⟩:=hrel
  go_wp2_with (go_at_call 186;refine cI.out.mono ?_;rintro e w' ⟨rfl,rfl⟩)
  exact bodyPost_ret (results_none rfl _ _ _) rfl ⟨rfl,rfl⟩
def Sorted (w w':World) (A:Option Addr) (c:Nat) (l:List Nat) (B:Nat):Prop:=∃L,VO 25 w' B A c (L.map u32V)/\L.Perm l/\Srt L/\∀T:List Nat,(∀a,A=some a->a.block∈T)->Flow.Into T w w'
theorem vo_of_ow {U:TypeId} {w:World} {B g c:Nat} {vs:List Value} (h:Ow U w g c vs) (hB:B<=g):VO U w B (some ⟨g,0,none⟩) c vs:=by
 obtain ⟨h1,h2⟩:=h
 refine ⟨h1,?_⟩
 rcases h2 with ⟨h,_⟩|⟨g',cap,cur,he,_,hh,hr⟩
 . cases h
 . obtain ⟨rfl,rfl⟩:g=g'/\c=cap:=by simpa using he
   exact .inr ⟨g,c,cur,rfl,hB,hh,hr⟩
end So
end Go.Proofs.YtjpjjnalpdpljaaGreatDoor
