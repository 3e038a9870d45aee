import Derived.Lib.QuietBelow
import Derived.StillTail
import Derived.WalkKit
import Derived.Test.YtjpjjnalpdpljaaGreatDoorPkAA
import Derived.Below
import Derived.Laws.Slices
import Derived.Laws.MakeOwn
import Derived.Deep.Draws
import Derived.Lib.Hide
import Derived.Maps.AppendAt
import Derived.Laws.OwnMore
import Derived.Deep.AppendLies
import Derived.ProofKit
import Derived.Test.YtjpjjnalpdpljaaGreatDoorChecked
import Derived.Laws.BytesArg
import Derived.Laws.CopyOwn
import Derived.WalkLawsBesides
import Derived.KernelRfl
import Derived.WalkSpells
import Derived.BigQuiet
namespace Go.Proofs.YtjpjjnalpdpljaaGreatDoor.Flow
open Go.RowKit Go.Sort
structure Into (S:List Nat) (w w':World):Prop where
 os:w'.os=w.os
 tape:w'.tape=w.tape
 output:w'.output=w.output
 size:w.heap.size<=w'.heap.size
 block:∀k,k<w.heap.size->k∉S->w'.heap[k]? =w.heap[k]?
theorem Into.refl (S:List Nat) (w:World):Into S w w:=⟨rfl,rfl,rfl,Nat.le_refl _,fun _ _ _=>rfl⟩
theorem Into.trans {S:List Nat} {a b c:World} (h:Into S a b) (k:Into S b c):Into S a c:=
 ⟨k.os.trans h.os,k.tape.trans h.tape,k.output.trans h.output,Nat.le_trans h.size k.size,fun i hi hn=>(k.block i (Nat.lt_of_lt_of_le hi h.size) hn).trans (h.block i hi hn)⟩
theorem Into.of_below {S:List Nat} {w w':World} (h:Bw w w'):Into S w w':=⟨h.os,h.tape,h.output,h.size,fun k hk _=>h.block k hk⟩
theorem Into.below {w w':World} (h:Into [] w w'):Bw w w':=⟨h.os,h.tape,h.output,h.size,fun k hk=>h.block k hk (by simp)⟩
theorem Into.mono {S S':List Nat} {w w':World} (h:Into S w w') (hs:∀k,k∈S->k∈S'):Into S' w w':=⟨h.os,h.tape,h.output,h.size,fun k hk hn=>h.block k hk fun hh=>hn (hs k hh)⟩
structure But where
 d:Nat
 os:Array Obj
 f:Nat->Obj
instance:Inhabited But:=⟨⟨0,#[],fun _=> .cells #[] 0⟩⟩
def but (S:List Nat) (w:World) (p:But):World:={ w with drawn:=p.d,heap:=(w.heap.mapIdx fun k o=>if k∈S then p.f k else o)++p.os }
theorem FX (S:List Nat) (w:World) (p:But):Into S w (but S w p):=
 ⟨rfl,rfl,rfl,by simp [but],fun k hk hn=>by simp [but,Array.getElem?_append,hk,hn]⟩
theorem wE {S:List Nat} {w w':World} (h:Into S w w'):∃p:But,w'=but S w p:=by
 refine ⟨⟨w'.drawn,w'.heap.extract w.heap.size w'.heap.size,fun k=>w'.heap.getD k (.cells #[] 0)⟩,?_⟩;obtain ⟨heap',tape',drawn',os',output'⟩:=w';have e1:os'=w.os:=h.os;have e2:tape'=w.tape:=h.tape;have e3:output'=w.output:=h.output;have hs:w.heap.size<=heap'.size:=h.size;have hb:∀k,k<w.heap.size->k∉S->heap'[k]? =w.heap[k]? :=h.block
 subst e1 e2 e3;simp only [but];congr 1
 apply Array.ext_getElem?;intro k;by_cases hk:k<w.heap.size
 . rw [Array.getElem?_append_left (by simpa using hk)]
   by_cases hn:k∈S
   . have:k<heap'.size:=by omega
     simp [hk,hn,this]
   . rw [hb k hk hn];simp [hk,hn]
 . rw [Array.getElem?_append_right (by simpa using hk),Array.getElem?_extract]
   simp only [Array.size_mapIdx];by_cases hk2:k<heap'.size
   . rw [if_pos (by omega)];congr 1;omega
   . rw [if_neg (by omega),Array.getElem?_eq_none (by omega)]
theorem lt_of_cell {w:World} {a:Addr} {v:Value} (h:w.cell? a=some v):a.block<w.heap.size:=by
 rcases Nat.lt_or_ge a.block w.heap.size with h'|h'
 . exact h'
 . simp [World.cell?,Array.getElem?_eq_none h'] at h
theorem Into.cell {S:List Nat} {w w':World} (h:Into S w w') {a:Addr} {v:Value} (hc:w.cell? a=some v) (hn:a.block∉S):w'.cell? a=some v:=
 (World.cell?_of_block (w:=w) (h.block a.block (lt_of_cell hc) hn)).trans hc
section
variable {P:Program} {ops:Array Oper} {md:Region.Mode} {S:List Nat}
def Kept (w w':World):Prop:=Bw w w'
theorem Kept.trans {a b c:World} (h:Kept a b) (k:Kept b c):Kept a c:=Below.trans h (Below.mono k h.size)
theorem Kept.into {a b:World} (h:Kept a b):Into S a b:=Into.of_below h
def upon (P:Program) (w:World) (v:Value):Result Next->Prop
 | .ok (.value u) w'=>w'=w/\u=v
 | .ok .skip w'=>w'=w/\v=undef
 | .ok (.enter f args) w'=>w'=w/\Calls P f args w (fun e w''=>e=.returned v/\Kept w w'')
 |_=>False
def gG (P:Program) (o:Oper) (a:Act) (w:World) (v:Value):Prop:=upon P w v ((execOp a.eval o).run P w)
def calm (P:Program) (S:List Nat) (w0:World) (o:Oper) (a:Act) (next:Act->Prop):Prop:=∃v,(∀p:But,gG P o a (but S w0 p) v)/\next (a.put o.dst v)
def yD (P:Program) (S:List Nat) (V:Value->World->Prop) (w:World):Result Next->Prop
 | .ok (.value u) w'=>V u w'/\Into S w w'
 | .ok .skip w'=>V undef w'/\Into S w w'
 | .ok (.enter f args) w'=>w'=w/\Calls P f args w (fun e w''=>∃v,e=.returned v/\V v w''/\Into S w w'')
 |_=>False
def BG (P:Program) (S:List Nat) (o:Oper) (a:Act) (w:World) (V:Value->World->Prop):Prop:=yD P S V w ((execOp a.eval o).run P w)
def walk (P:Program) (ops:Array Oper) (S:List Nat) (E:World->Act->Prop):List (Oper × Nat)->World->Act->Prop
 |[],w,a=>E w a
 |(o,0)::r,w,a=>if Region.wanted o (yielded ops a.tmps) then calm P S w o a (walk P ops S E r w) else walk P ops S E r w (a.put o.dst undef)
 |(o,1)::r,w,a=>if Region.wanted o (yielded ops a.tmps) then ∃V:Value->World->Prop,(∀W,Kept w W->BG P S o a W V)/\∀v w1,V v w1->Into S w w1->walk P ops S E r w1 (a.put o.dst v)
    else walk P ops S E r w (a.put o.dst undef)
 |(o,_+2)::r,w,a=>∃v,Yields P ops o v a/\walk P ops S E r w (a.put o.dst v)
theorem walk_nil {E:World->Act->Prop} {a:Act} {w:World} (h:E w a):walk P ops S E [] w a:=h
theorem ak {E:World->Act->Prop} {a:Act} {w:World} {o:Oper} {rest:List (Oper × Nat)}
 (h:∀K:Act->Prop,(∀a,walk P ops S E rest w a->K a)->if Region.wanted o (yielded ops a.tmps) then calm P S w o a K else K (a.put o.dst undef)):walk P ops S E ((o,0)::rest) w a:=
 h _ (fun _ h=>h)
theorem aN {E:World->Act->Prop} {a:Act} {w:World} {o:Oper} {rest:List (Oper × Nat)} (hg:o.guard=none) (V:Value->World->Prop)
 (h1:∀W,Kept w W->BG P S o a W V) (h2:∀v w1,V v w1->Into S w w1->walk P ops S E rest w1 (a.put o.dst v)):walk P ops S E ((o,1)::rest) w a:=by
 unfold walk;rw [if_pos (by simp [Region.wanted,hg])];exact ⟨V,h1,h2⟩
theorem ay {E:World->Act->Prop} {a:Act} {w:World} {o:Oper} {rest:List (Oper × Nat)} (hg:o.guard=none) (v:Value)
 (h1:∀W,(execOp a.eval o).run P W= .ok (.value v) W) (h2:walk P ops S E rest w (a.put o.dst v)):walk P ops S E ((o,2)::rest) w a:=
 ⟨v,.inl ⟨by simp [Region.wanted,hg],h1⟩,h2⟩
def cOp (P:Program) (ops:Array Oper) (S:List Nat) (w0:World) (o:Oper) (K:Act->Prop) (a:Act):Prop:=
 if Region.wanted o (yielded ops a.tmps) then calm P S w0 o a K else K (a.put o.dst undef)
def Y (P:Program) (ops:Array Oper) (S:List Nat) (w0:World) (o:Oper) (v:Value) (a:Act):Prop:=
 (Region.wanted o (yielded ops a.tmps)=true/\∀p:But,gG P o a (but S w0 p) v)\/(Region.wanted o (yielded ops a.tmps)=false/\v=undef)
theorem Y.cOp {w0:World} {o:Oper} {v:Value} {a:Act} (hy:Y P ops S w0 o v a) {K:Act->Prop} (h:K (a.put o.dst v)):cOp P ops S w0 o K a:=by
 unfold Flow.cOp;rcases hy with ⟨hw,hv⟩|⟨hw,rfl⟩
 . rw [if_pos hw];exact ⟨v,hv,h⟩
 . rw [if_neg (by rw [hw];exact Bool.false_ne_true)];exact h
theorem Y.put {w0:World} {o oj:Oper} {v u:Value} {a:Act} (hs:∀cs b,o.op≠ .select cs b) (h3:∀d,oj.dst=some d->d∉o.looksAt ops) (hy:Y P ops S w0 o v a):Y P ops S w0 o v (a.put oj.dst u):=by
 unfold Y gG at*;rw [execOp_put o hs a oj.dst u h3,wanted_put o a oj.dst u h3];exact hy
theorem LD {p q r:Prop} (h:p\/q) (f:q->r):p\/r:=by
 rcases h with h|h
 . exact .inl h
 . exact .inr (f h)
structure Inv (S:List Nat) (n0:Nat) (obj:Obj) (bs:List World) (g:Option Nat) (W:World):Prop where
 all:∀w,w∈bs->Into S w W
 last:∀w,bs.getLast? =some w->Kept w W
 laid:∀b,g=some b->n0<=b/\b∉S/\W.heap[b]? =some obj
 size:n0<=W.heap.size
theorem block_lt {W:World} {b:Nat} {obj:Obj} (h:W.heap[b]? =some obj):b<W.heap.size:=(Array.getElem?_eq_some_iff.1 h).1
section
variable {n0:Nat} {obj:Obj} {bs:List World} {g:Option Nat} {W W':World}
theorem Inv.keep (h:Inv S n0 obj bs g W) (hk:Kept W W'):Inv S n0 obj bs g W':=
 ⟨fun w hw=>(h.all w hw).trans (Into.of_below hk),fun w hw=>(h.last w hw).trans hk,fun b hb=>by
   obtain ⟨h1,h2,h3⟩:=h.laid b hb
   exact ⟨h1,h2,(hk.block b (block_lt h3)).trans h3⟩,Nat.le_trans h.size hk.size⟩
theorem Inv.event (h:Inv S n0 obj bs g W) (hk:Into S W W'):Inv S n0 obj (bs++[W']) g W':=
 ⟨fun w hw=>by
   rcases List.mem_append.1 hw with h1|h1
   . exact (h.all w h1).trans hk
   . obtain rfl:w=W':=by simpa using h1
     exact Into.refl _ _,fun w hw=>by
   obtain rfl:w=W':=by simpa using hw.symm
   exact Below.refl _ _,fun b hb=>by
   obtain ⟨h1,h2,h3⟩:=h.laid b hb
   exact ⟨h1,h2,(hk.block b (block_lt h3) h2).trans h3⟩,Nat.le_trans h.size hk.size⟩
theorem Inv.again {w:World} (h:Inv S n0 obj bs g W) (hw:bs.getLast? =some w):Inv S n0 obj (bs++[w]) g W:=
 ⟨fun w' hw'=>by
   rcases List.mem_append.1 hw' with h1|h1
   . exact h.all w' h1
   . obtain rfl:w'=w:=by simpa using h1
     exact (h.last _ hw).into,fun w' hw'=>by
   obtain rfl:w'=w:=by simpa using hw'.symm
   exact h.last _ hw,h.laid,h.size⟩
end
theorem gV {listed:Array Bool} {i:Nat} (h:listed.getD i true=false):listed.getD i false=false:=by
 rcases Nat.lt_or_ge i listed.size with h'|h'
 . simp [h'] at h ⊢;exact h
 . simp [Array.getElem?_eq_none h'] at h
def sinkB (md:Region.Mode) (ops:Array Oper) (ps:List Nat) (m:Nat):Bool:=
 (List.range ops.size).all fun t=>decide (t<m) || (List.range m).all fun i=>ps.contains i || Region.waitsFor md ops t i
def OC (md:Region.Mode) (ops:Array Oper) (al:Option Nat) (i:Nat) (listed:Array Bool):Bool:=
 decide (Region.ready md ops listed=[i]) || (match al,ops[i]? with
  |some x,some oi=>(match ops[x]? with
   |some ox=>x != i&&(Region.ready md ops listed).contains i&&(Region.ready md ops listed).contains x&&(Region.ready md ops listed).all (fun j=>j==i || j==x)&&decide (Region.ready md ops (listed.setIfInBounds x true)=[i])&&ox.apart ops oi
   |none=>false)
  |_,_=>false)
def uj (md:Region.Mode) (ops:Array Oper) (ev:Nat->Bool) (ph:Nat->Nat) (al:Option Nat) (m:Nat):List Nat->Nat->Array Bool->Bool
 |[],_,listed=>(match al with
  |none=>Region.seqB md ops (ops.size-m) m listed
  |some x=>decide (Region.ready md ops listed=[x])&&decide (x<m)&&Region.seqB md ops (ops.size-m) m (listed.setIfInBounds x true))
 |i::r,k,listed=>decide (i<m)&&decide (al≠some i)&&(if ev i then OC md ops al i listed else (Region.ready md ops listed).contains i&&Region.free md ops listed i&&decide (ph i=k))&&
   uj md ops ev ph al m r (if ev i then k+1 else k) (listed.setIfInBounds i true)
theorem waits {m i:Nat} {ps:List Nat} {listed:Array Bool} (hs:sinkB md ops ps m=true) (hp:ps.contains i=false) (hi:i<m) (hun:listed.getD i true=false) {j:Nat} (hj:j∈Region.ready md ops listed):j<m:=by
 rcases Nat.lt_or_ge j m with h|h
 . exact h
 . exfalso
   obtain ⟨_,oj,hoj,hall⟩:=mem_ready.1 hj;have hjs:j<ops.size:=(Array.getElem?_eq_some_iff.1 hoj).1;have h1:=List.all_eq_true.1 hs j (List.mem_range.2 hjs);simp only [Bool.or_eq_true,decide_eq_true_eq] at h1;rcases h1 with h1|h1
   . omega
   . have h2:=List.all_eq_true.1 h1 i (List.mem_range.2 hi)
     rw [hp,Bool.false_or] at h2;obtain ⟨o',ho',e,he,hb,hon⟩:=Region.waitsFor_spec h2;obtain rfl:o'=oj:=Option.some.inj (ho'.symm.trans hoj);have:=hall e he hb;rw [hon,gV hun] at this;cases this
def kindOf (es ps:List Nat) (i:Nat):Nat:=if es.contains i then 1 else if ps.contains i then 2 else 0
def pick (l:List Oper) (es ps:List Nat):List Nat->List (Oper × Nat)
 |[]=>[]
 |i::r=>(match l[i]? with|some o=>[(o,kindOf es ps i)]|none=>[])++pick l es ps r
def Nrm (Q:Exit->Act->World->Prop):Exit->Act->World->Prop
 | .normal,a,w=>Q .normal a w
 |_,_,_=>False
@[go_sem] theorem aP (Q:Exit->Act->World->Prop) (a:Act) (w:World):Nrm Q .normal a w=Q .normal a w:=rfl
theorem LG (Q:Exit->Act->World->Prop):∀e a w,Nrm Q e a w->Q e a w:=fun e a w h=>by
 cases e<;>first|exact h|exact absurd h (fun h=>h)
end
attribute [go_sem] calm gG upon BG yD
end Go.Proofs.YtjpjjnalpdpljaaGreatDoor.Flow
namespace Go.Proofs.YtjpjjnalpdpljaaGreatDoor.Mem
open Go.RowKit
def Ow (U:TypeId) (w:World) (g cap:Nat) (vs:List Value):Prop:=w.ownsRow g U 1 (.slice (some ⟨g,0,none⟩) vs.length cap) vs.length vs
section
variable {U:TypeId} {w w':World} {g cap:Nat} {vs:List Value}
theorem FY {B n:Nat} (h:w.ownsRow B U 1 (.slice (some ⟨g,0,none⟩) n cap) n vs):Ow U w g cap vs/\B<=g/\vs.length=n:=by
 obtain ⟨h1,h2⟩:=h;have hn:vs.length=n:=by omega
 subst hn;rcases h2 with ⟨h,_⟩|⟨g',cap',cur,he,hB,hr⟩
 . cases h
 . obtain ⟨rfl,rfl⟩:g=g'/\cap=cap':=by simpa using he
   exact ⟨⟨h1,.inr ⟨g,cap,cur,rfl,Nat.le_refl _,hr⟩⟩,hB,rfl⟩
theorem Ow.lt (h:Ow U w g cap vs):g<w.heap.size:=by
 obtain ⟨_,h2⟩:=h;rcases h2 with ⟨h,_⟩|⟨g',cap',cur,he,_,hh,_⟩
 . cases h
 . obtain ⟨rfl,_⟩:g=g'/\cap=cap':=by simpa using he
   exact (Array.getElem?_eq_some_iff.1 hh).1
theorem Ow.room (h:Ow U w g cap vs):vs.length<=cap:=by
 obtain ⟨_,h2⟩:=h;rcases h2 with ⟨h,_⟩|⟨g',cap',cur,he,_,_,hle,_⟩
 . cases h
 . obtain ⟨_,rfl⟩:g=g'/\cap=cap':=by simpa using he
   exact hle
theorem Ow.cell (h:Ow U w g cap vs) {i:Nat} (hi:i<vs.length):w.cell? ⟨g,i,none⟩=some vs[i]:=by
 rw [World.ownsRow.cellAt h i (by omega)];simp [hi]
theorem Ow.free (h:Ow U w g cap vs) (i:Nat):w.frozen? ⟨g,i,none⟩=false:=World.ownsRow.frozenAt h i
theorem Ow.keep (h:Ow U w g cap vs) (hk:w'.heap[g]? =w.heap[g]?):Ow U w' g cap vs:=by
 obtain ⟨h1,h2⟩:=h;refine ⟨h1,?_⟩;rcases h2 with h|⟨g',cap',cur,he,hB,hh,hr⟩
 . exact .inl h
 . obtain ⟨rfl,rfl⟩:g=g'/\cap=cap':=by simpa using he
   exact .inr ⟨g,cap,cur,rfl,hB,hk.trans hh,hr⟩
theorem Ow.below {B:Nat} (h:Ow U w g cap vs) (hb:Below B w w') (hg:g<B):Ow U w' g cap vs:=h.keep (hb.block g hg)
theorem Ow.kept (h:Ow U w g cap vs) (hb:Bw w w'):Ow U w' g cap vs:=h.keep (hb.block g h.lt)
theorem Ow.into {S:List Nat} (h:Ow U w g cap vs) (hb:Flow.Into S w w') (hn:g∉S):Ow U w' g cap vs:=h.keep (hb.block g h.lt hn)
theorem Ow.set (h:Ow U w g cap vs) (i:Nat) (u:Value):Ow U (w.setCell ⟨g,i,none⟩ u) g cap (vs.set i u)/\Flow.Into [g] w (w.setCell ⟨g,i,none⟩ u):=by
 refine ⟨?_,⟨rfl,rfl,rfl,by simp [World.setCell],fun k _ hn=>Below.heap_setCell _ _ _ _ (by simpa using hn)⟩⟩;have:=(World.ownsRow.stored h i u).1;unfold Ow;rw [List.length_set];exact this
end
theorem eH {P:Program} {t e:TypeId} {z:Value} {by_:Nat} (ht:P.underlying t=some (.slice e)) (hinfo:(P.info? e).map (fun i=>(i.zero,i.size,i.bytes))=some (some z,1,by_)) (hzc:z.cells= #[z]) (hby:by_<=24) (n:Nat) (hn:n<=1048576) (w:World):
 (Instr.makeSlice t (.int .i64 (n:Int)) (.int .i64 (n:Int))).run P w= .ok (.slice (some ⟨w.heap.size,0,none⟩) n n) (w.alloc (.cells (List.replicate n z).toArray e)):=by
 obtain ⟨i,hi,hz,hs,hb⟩:=info_parts hinfo
 have hr:=run_make (P:=P) w t e i z ht hi hz .i64 .i64 n n (by omega) (by omega) (by rw [hb];have:(by_:Int)*(n:Int)<=24*1048576:=by have:=Nat.mul_le_mul hby hn;omega
                                                                                     omega) (by omega)
 rw [hr,hs];simp only [Int.toNat_natCast,Nat.mul_one];rw [hzc,<-toList_madeCells_one z n]
theorem qZ (e:TypeId) (w:World) (z:Value) (n:Nat) (hn:n<=1048576):Ow e (w.alloc (.cells (List.replicate n z).toArray e)) w.heap.size n (List.replicate n z):=by
 have:=World.ownsRow_lit (base:=w.heap.size) (e:=e) (size:=1) w (List.replicate n z).toArray n (Nat.le_refl _) (by unfold maxLen;omega) (by simp);exact (FY (by simpa using this)).1
theorem nN {P:Program} {w:World} {ops:Array Oper} {rest:List Oper} {o:Oper} {a:Act} {Q:Exit->Act->World->Prop} (hgd:o.guard=none) (s x:Operand) (t:TypeId)
 (ho:o.op= .call { callee:= .builtin .append,args:= #[s,x],argTypes:= #[t,t] }) (U:TypeId) (ht:P.underlying t=some (.slice U)) (z:Value) (by_:Nat) (hinfo:(P.info? U).map (fun i=>(i.zero,i.size,i.bytes))=some (some z,1,by_)) (hzc:z.cells= #[z]) (hby:by_<=24)
 (w0:World) (hw:w=w0.alloc (.cells #[] U)) (hs:a.eval s= .slice (some ⟨w0.heap.size,0,none⟩) 0 0) (b m c:Nat) (vs:List Value) (hx:a.eval x= .slice (some ⟨b,0,none⟩) m c) (hl:vs.length=m) (hv:Ow U w0 b c vs)
 (h1:∀u∈vs,u.oneCell'=true) (hp:0<m) (hm:m<=1048576)
 (h:∀g cap w',Hid (Ow U w' g cap vs)->Hid (w0.heap.size<=g)->Hid (Bw w0 w')->wpList P ops Q rest (a.put o.dst (.slice (some ⟨g,0,none⟩) m cap)) w'):wpList P ops Q (o::rest) a w:=by
 obtain ⟨i,hi,hz,hs1,hb1⟩:=info_parts hinfo;refine wpList_plain hgd fun K hK=>?_
 have hown:w.ownsRow w0.heap.size U 1 (.slice (some ⟨w0.heap.size,0,none⟩) 0 0) 0 []:=by
  subst hw;exact World.ownsRow_lit (base:=w0.heap.size) (e:=U) (size:=1) w0 #[] 0 (Nat.le_refl _) (Nat.zero_le _) (by simp)
 have hv1:Ow U w b c vs:=hv.below (B:=w0.heap.size) (by subst hw;exact bAx) hv.lt;have hmb:m*by_<=25165824:=Nat.mul_le_mul hm hby
 obtain ⟨v',w',hrun,h2,h3,h4,h5⟩:=run_append_own_at (P:=P) (w:=w) w0.heap.size t o.type U i z 1 by_ ht hi hz hs1 hb1 (by rw [hzc];rfl) (by decide) (.slice (some ⟨w0.heap.size,0,none⟩) 0 0) 0 [] hown ⟨b,0,none⟩ m c vs (by omega) (fun j u hj=>by
  have hjl:j<vs.length:=by
   rcases Nat.lt_or_ge j vs.length with h'|h'
   . exact h'
   . rw [List.getElem?_eq_none h'] at hj;cases hj
  obtain rfl:u=vs[j]:=by simpa [hjl] using hj.symm
  rw [<-hv1.cell hjl]
  by_cases h0:j=0<;>simp [Addr.add,h0]) h1 (by unfold maxLen;omega) (by rw [Nat.zero_add];omega) (by subst hw;simp)
 simp only [Nat.zero_add,List.nil_append] at h2;have h2':=h2;obtain ⟨_,hc⟩:=h2';rcases hc with ⟨_,h0⟩|⟨g,cap,cur,rfl,_⟩
 . omega
 . obtain ⟨k1,k2,_⟩:=FY h2
   unfold Oper.wp execOp;simp only [ho,resolve,invoke,builtin,Sem.run_bind,Sem.run_pure,Result.andThen_ok,List.map_toArray,List.map_cons,List.map_nil,hs,hx,hrun];refine hK _ _ (h g cap w' k1 k2 ?_);have hb0:Bw w0 w:=by subst hw;exact bAx
   exact hb0.grown h3 hb0.size (fun k hk=>by
    obtain rfl:w0.heap.size=k:=by simpa [Value.ownBlock] using hk
    exact Nat.le_refl _)
end Go.Proofs.YtjpjjnalpdpljaaGreatDoor.Mem
namespace Go.Proofs.YtjpjjnalpdpljaaGreatDoor.Mem
open Go.RowKit
def OD (x:Int):Value:= .int .i64 x
def wF (l:List Int):List Value:=l.map OD
@[simp] theorem IW (l:List Int):(wF l).length=l.length:=by simp [wF]
def IL (w:World) (p:Option Addr) (l:List Int):Prop:=
 0<l.length->∃b o,p=some ⟨b,o,none⟩/\∀i (h:i<l.length),w.cell? ⟨b,o+i,none⟩=some (OD l[i])
theorem IL.nil (w:World) (p:Option Addr):IL w p []:=fun h=>absurd h (by simp)
theorem IL.at_ {w:World} {p:Option Addr} {l:List Int} (h:IL w p l) {i:Nat} (hi:i<l.length):∃b o,p=some ⟨b,o,none⟩/\w.cell? ⟨b,o+i,none⟩=some (.int .i64 l[i]):=by
 obtain ⟨b,o,e,hc⟩:=h (by omega);exact ⟨b,o,e,hc i hi⟩
theorem IL.lt {w:World} {p:Option Addr} {l:List Int} (h:IL w p l) (hl:0<l.length):∀a,p=some a->a.block<w.heap.size:=by
 rintro a rfl;obtain ⟨b,o,e,hc⟩:=h hl;obtain rfl:a=⟨b,o,none⟩:=by simpa using e
 have h0:=hc 0 hl;rcases Nat.lt_or_ge b w.heap.size with h'|h'
 . exact h'
 . simp [World.cell?,Array.getElem?_eq_none h'] at h0
theorem IL.keep {w w':World} {p:Option Addr} {l:List Int} (h:IL w p l) (hk:0<l.length->∀a,p=some a->w'.heap[a.block]? =w.heap[a.block]?):IL w' p l:=fun hl=>by
 obtain ⟨b,o,rfl,hc⟩:=h hl;refine ⟨b,o,rfl,fun i hi=>?_⟩;rw [<-hc i hi];exact World.cell?_of_block (w:=w) (a:=⟨b,o+i,none⟩) (show w'.heap[b]? =w.heap[b]? from hk hl ⟨b,o,none⟩ rfl)
theorem IL.below {w w':World} {p:Option Addr} {l:List Int} (h:IL w p l) (hb:Bw w w'):IL w' p l:=h.keep fun hl a ha=>hb.block _ (h.lt hl a ha)
theorem IL.into {S:List Nat} {w w':World} {p:Option Addr} {l:List Int} (h:IL w p l) (hb:Flow.Into S w w') (hn:∀a,p=some a->a.block∉S):IL w' p l:=h.keep fun hl a ha=>hb.block _ (h.lt hl a ha) (hn a ha)
def Iow (U:TypeId) (w:World) (B:Nat) (A:Option Addr) (c:Nat) (l:List Int):Prop:=w.ownsRow B U 1 (.slice A l.length c) l.length (wF l)
section
variable {U:TypeId} {w w':World} {B c:Nat} {A:Option Addr} {l:List Int}
theorem Iow.nil (U:TypeId) (w:World) (B:Nat):Iow U w B none 0 []:=World.ownsRow_nil w B U 1
theorem Iow.from_ (h:Iow U w B A c l):∀a,A=some a->B<=a.block:=by
 obtain ⟨_,h2⟩:=h;rintro a rfl;rcases h2 with ⟨h',_⟩|⟨g,cap,cur,he,hB,_⟩
 . cases h'
 . obtain ⟨rfl,_⟩:a=⟨g,0,none⟩/\c=cap:=by simpa using he
   exact hB
theorem Iow.room (h:Iow U w B A c l):l.length<=c:=by
 obtain ⟨_,h2⟩:=h;rcases h2 with ⟨h',h0⟩|⟨g,cap,cur,he,_,_,hle,_⟩
 . omega
 . obtain ⟨_,rfl⟩:A=some ⟨g,0,none⟩/\c=cap:=by simpa using he
   exact hle
theorem Iow.il (h:Iow U w B A c l):IL w A l:=by
 intro hl;obtain ⟨_,h2⟩:=h;rcases h2 with ⟨h',h0⟩|⟨g,cap,cur,he,_,hh,_,_,_,htake⟩
 . omega
 . obtain ⟨rfl,rfl⟩:A=some ⟨g,0,none⟩/\c=cap:=by simpa using he
   refine ⟨g,0,rfl,fun i hi=>?_⟩
   have h3:cur.toList[i]? =some (OD l[i]):=by
    have:=congrArg (·[i]?) htake;simp only [Nat.mul_one,List.getElem?_take,if_pos hi] at this;rw [this];simp [wF,hi]
   simp only [World.cell?,Nat.zero_add,hh];simpa using h3
theorem Iow.keep (h:Iow U w B A c l) (hk:∀a,A=some a->w'.heap[a.block]? =w.heap[a.block]?):Iow U w' B A c l:=by
 obtain ⟨h1,h2⟩:=h;refine ⟨h1,?_⟩;rcases h2 with h|⟨g,cap,cur,he,hB,hh,hr⟩
 . exact .inl h
 . obtain ⟨rfl,rfl⟩:A=some ⟨g,0,none⟩/\c=cap:=by simpa using he
   exact .inr ⟨g,c,cur,rfl,hB,(hk _ rfl).trans hh,hr⟩
theorem Iow.lt (h:Iow U w B A c l):∀a,A=some a->a.block<w.heap.size:=by
 obtain ⟨_,h2⟩:=h;rintro a rfl;rcases h2 with ⟨h',_⟩|⟨g,cap,cur,he,hB,hh,_⟩
 . cases h'
 . obtain ⟨rfl,_⟩:a=⟨g,0,none⟩/\c=cap:=by simpa using he
   exact (Array.getElem?_eq_some_iff.1 hh).1
theorem Iow.kept (h:Iow U w B A c l) (hb:Bw w w'):Iow U w' B A c l:=h.keep fun a ha=>hb.block _ (h.lt a ha)
theorem Iow.into {S:List Nat} (h:Iow U w B A c l) (hb:Flow.Into S w w') (hn:∀a,A=some a->a.block∉S):Iow U w' B A c l:=h.keep fun a ha=>hb.block _ (h.lt a ha) (hn a ha)
theorem Iow.mono {B':Nat} (h:Iow U w B A c l) (hb:B'<=B):Iow U w B' A c l:=by
 obtain ⟨h1,h2⟩:=h;refine ⟨h1,?_⟩;rcases h2 with h|⟨g,cap,cur,he,hB,hr⟩
 . exact .inl h
 . exact .inr ⟨g,cap,cur,he,Nat.le_trans hb hB,hr⟩
end
theorem Iow.lit (U:TypeId) (w:World) (B:Nat) (l:List Int) (hB:B<=w.heap.size) (hl:l.length<=maxLen):Iow U (w.alloc (.cells (wF l).toArray U)) B (some ⟨w.heap.size,0,none⟩) l.length l:=by
 have:=World.ownsRow_lit (base:=B) (e:=U) (size:=1) w (wF l).toArray l.length hB hl (by simp);exact this
theorem IL.lit (U:TypeId) (w:World) (l:List Int) (hl:l.length<=maxLen):IL (w.alloc (.cells (wF l).toArray U)) (some ⟨w.heap.size,0,none⟩) l:=(Iow.lit U w 0 l (Nat.zero_le _) hl).il
theorem IL.one (U:TypeId) (w:World) (x:Int):IL (w.alloc (.cells #[x] U)) (some ⟨w.heap.size,0,none⟩) [x]:=IL.lit U w [x] (by simp [maxLen])
theorem Iow.one (U:TypeId) (w:World) (B:Nat) (x:Int) (hB:B<=w.heap.size):Iow U (w.alloc (.cells #[x] U)) B (some ⟨w.heap.size,0,none⟩) 1 [x]:=Iow.lit U w B [x] hB (by simp [maxLen])
theorem Iow.none_ (U:TypeId) (w:World) (B:Nat) (hB:B<=w.heap.size):Iow U (w.alloc (.cells #[] U)) B (some ⟨w.heap.size,0,none⟩) 0 []:=Iow.lit U w B [] hB (by decide)
theorem IL.alloc {w:World} {p:Option Addr} {l:List Int} (h:IL w p l) (o:Obj):IL (w.alloc o) p l:=h.below (bAx)
theorem Iow.alloc {U:TypeId} {w:World} {B c:Nat} {A:Option Addr} {l:List Int} (h:Iow U w B A c l) (o:Obj):Iow U (w.alloc o) B A c l:=h.kept (bAx)
theorem Iow.made (U:TypeId) (w:World) (B n:Nat) (hB:B<=w.heap.size) (hn:n<=1048576):Iow U (w.alloc (.cells (List.replicate n (.int .i64 0)).toArray U)) B (some ⟨w.heap.size,0,none⟩) n []:=
 World.ownsRow_made w _ n hB (by unfold maxLen;omega) (by simp)
end Go.Proofs.YtjpjjnalpdpljaaGreatDoor.Mem
namespace Go.Proofs.YtjpjjnalpdpljaaGreatDoor
open Go.RowKit
abbrev CB (f:FuncId) (a:Array Value) (w:World) (v:Value):Prop:=Calls Tryz.prog f a w fun e w'=>e= .returned v/\Below w.heap.size w w'
abbrev CW (f:FuncId) (a:Array Value) (w:World) (v:Value):Prop:=Calls Tryz.prog f a w fun e w'=>e= .returned v/\w=w'
end Go.Proofs.YtjpjjnalpdpljaaGreatDoor
namespace Go.Proofs.YtjpjjnalpdpljaaGreatDoor.Mem
open Go.RowKit
def j6 (x:UInt8):Value:= .int .u8 (x.toNat:Int)
def aI (l:List UInt8):List Value:=l.map j6
@[simp] theorem bM (l:List UInt8):(aI l).length=l.length:=by simp [aI]
def BL (w:World) (p:Option Addr) (l:List UInt8):Prop:=
 0<l.length->∃b o,p=some ⟨b,o,none⟩/\∀i (h:i<l.length),w.cell? ⟨b,o+i,none⟩=some (j6 l[i])
theorem BL.nil (w:World) (p:Option Addr):BL w p []:=fun h=>absurd h (by simp)
theorem BL.at_ {w:World} {p:Option Addr} {l:List UInt8} (h:BL w p l) {i:Nat} (hi:i<l.length):∃b o,p=some ⟨b,o,none⟩/\w.cell? ⟨b,o+i,none⟩=some (.int .u8 (l[i].toNat:Int)):=by
 obtain ⟨b,o,e,hc⟩:=h (by omega);exact ⟨b,o,e,hc i hi⟩
theorem BL.lt {w:World} {p:Option Addr} {l:List UInt8} (h:BL w p l) (hl:0<l.length):∀a,p=some a->a.block<w.heap.size:=by
 rintro a rfl;obtain ⟨b,o,e,hc⟩:=h hl;obtain rfl:a=⟨b,o,none⟩:=by simpa using e
 have h0:=hc 0 hl;rcases Nat.lt_or_ge b w.heap.size with h'|h'
 . exact h'
 . simp [World.cell?,Array.getElem?_eq_none h'] at h0
theorem BL.keep {w w':World} {p:Option Addr} {l:List UInt8} (h:BL w p l) (hk:0<l.length->∀a,p=some a->w'.heap[a.block]? =w.heap[a.block]?):BL w' p l:=fun hl=>by
 obtain ⟨b,o,rfl,hc⟩:=h hl;refine ⟨b,o,rfl,fun i hi=>?_⟩;rw [<-hc i hi];exact World.cell?_of_block (w:=w) (a:=⟨b,o+i,none⟩) (show w'.heap[b]? =w.heap[b]? from hk hl ⟨b,o,none⟩ rfl)
theorem BL.below {w w':World} {p:Option Addr} {l:List UInt8} (h:BL w p l) (hb:Bw w w'):BL w' p l:=h.keep fun hl a ha=>hb.block _ (h.lt hl a ha)
theorem BL.grown {w w':World} {p:Option Addr} {l:List UInt8} {row:Option Nat} (h:BL w p l) (hb:w.grownBy w' row) (hn:0<l.length->∀a,p=some a->some a.block≠row):BL w' p l:=
 h.keep fun hl a ha=>hb.block _ (h.lt hl a ha) (hn hl a ha)
theorem BL.drewN {w:World} {p:Option Addr} {l:List UInt8} (h:BL w p l) (n:Nat):BL (w.drewN n) p l:=h
theorem BL.take {w:World} {p:Option Addr} {l:List UInt8} (h:BL w p l) (k:Nat):BL w p (l.take k):=fun hl=>by
 simp only [List.length_take] at hl;obtain ⟨b,o,e,hc⟩:=h (by omega);refine ⟨b,o,e,fun i hi=>?_⟩;simp only [List.length_take] at hi;rw [hc i (by omega),List.getElem_take]
def FZ (A:Option Addr) (c k:Nat):Option Addr:=if c=k then A else A.map (·.add k)
theorem BL.cut {w:World} {p:Option Addr} {l:List UInt8} (h:BL w p l) {k c:Nat} (hc:l.length<=c):BL w (FZ p c k) (l.drop k):=fun hl=>by
 simp only [List.length_drop] at hl;obtain ⟨b,o,rfl,hcell⟩:=h (by omega);unfold FZ;rw [if_neg (by omega)];refine ⟨b,o+k,by by_cases hk:k=0<;>simp [Addr.add,hk],fun i hi=>?_⟩;simp only [List.length_drop] at hi;rw [Nat.add_assoc,hcell (k+i) (by omega),List.getElem_drop]
theorem BX {P:Program} {t e:TypeId} {i:TypeInfo} (ht:P.underlying t=some (.slice e)) (hi:P.info? e=some i) (hs:i.size=1) (A:Option Addr) (n c k:Nat) (hk:k<=n) (w:World):
 (Instr.slice t (.slice A n c) (some (.int .i64 (k:Int))) none none).run P w= .ok (.slice (FZ A c k) (n-k) (c-k)) w:=by
 have he:P.elem t=e:=by simp [Program.elem,ht]
 rw [run_slice_l w t A n c (by rw [he];exact ht) .i64 (k:Int) (by omega) (by omega),he];simp [sizeOf,typeInfo,hi,hs,sliced,FZ,Result.andThen]
theorem yE {P:Program} {t e:TypeId} {i:TypeInfo} (ht:P.underlying t=some (.slice e)) (hi:P.info? e=some i) (A:Option Addr) (n c k:Nat) (hk:k<=c) (w:World):
 (Instr.slice t (.slice A n c) none (some (.int .i64 (k:Int))) none).run P w= .ok (.slice A k c) w:=by
 have he:P.elem t=e:=by simp [Program.elem,ht]
 rw [run_slice_h w t A n c (by rw [he];exact ht) .i64 (k:Int) (by omega) (by omega),he];by_cases hc:c=0
 . simp [sizeOf,typeInfo,hi,sliced,Result.andThen,hc]
 . simp [sizeOf,typeInfo,hi,sliced,Result.andThen,hc,Addr.add]
def strOf (l:List UInt8):ByteArray:=⟨l.toArray⟩
theorem l7 (l:List UInt8):(strOf l).size=l.length:=rfl
theorem run_text {P:Program} {src dst e:TypeId} (hs:P.underlying src=some (.slice e)) (he:P.underlying e=some (.int .u8)) (hd:P.underlying dst=some .string) {w:World} {p:Option Addr} {l:List UInt8} (h:BL w p l) (c:Nat):
 (convert src dst (.slice p l.length c)).run P w= .ok (.string (strOf l)) w:=by
 have OE:∀x:UInt8,UInt8.ofNat ((x.toNat:Int)).toNat=x:=fun x=>by simp
 by_cases h0:l.length=0
 . obtain rfl:l=[]:=List.eq_nil_of_length_eq_zero h0
   rw [run_convert_bytes_string w src dst e _ _ c hs he hd];cases p with
   |none=>simp [Conv.bytesToString,strOf,ByteArray.empty,ByteArray.emptyWithCapacity];rfl
   |some a=>
    rw [show ([]:List UInt8).length=0 from rfl,run_bytesToString w a 0 c [] (by simpa using run_loadCells_list (P:=P) w a [] (fun j v hj=>by simp at hj))];simp [strOf,ByteArray.empty,ByteArray.emptyWithCapacity];rfl
 . obtain ⟨b,o,rfl,hc⟩:=h (by omega)
   have:=run_convert_bytes_arg (P:=P) w src e hs he b o l.length c (l.map fun x=>(x.toNat:Int)) (by simp) (fun i hi=>by
    rw [hc i hi];simp [j6,hi]) dst hd
   rw [this];simp [strOfNums,strOf,Function.comp_def]
theorem zY {P:Program} {src dst e:TypeId} (hs:P.underlying src=some (.slice e)) (he:P.underlying e=some (.int .u8)) (hd:P.underlying dst=some .string) {w:World} {p:Option Addr} {l:List UInt8} (h:BL w p l) {n:Nat} (hn:l.length=n) (c:Nat):
 (convert src dst (.slice p n c)).run P w= .ok (.string (strOf l)) w:=by subst hn;exact run_text hs he hd h c
def Row (U:TypeId) (w:World) (g:Nat) (l:List UInt8):Prop:=w.heap[g]? =some (.cells (aI l).toArray U (0,0))
section
variable {U:TypeId} {w w':World} {g:Nat} {l:List UInt8}
theorem Row.lt (h:Row U w g l):g<w.heap.size:=(Array.getElem?_eq_some_iff.1 h).1
theorem Row.bl (h:Row U w g l):BL w (some ⟨g,0,none⟩) l:=fun _=>⟨g,0,rfl,fun i hi=>by
 unfold Row at h
 simp [World.cell?,h,aI,hi]⟩
theorem Row.cell (h:Row U w g l) {i:Nat} (hi:i<l.length):w.cell? ⟨g,i,none⟩=some (.int .u8 (l[i].toNat:Int)):=by
 unfold Row at h;simp [World.cell?,h,aI,hi,j6]
theorem Row.free (h:Row U w g l) (i:Nat):w.frozen? ⟨g,i,none⟩=false:=by
 unfold Row at h;simp [World.frozen?,h]
theorem Row.below {B:Nat} (h:Row U w g l) (hb:Below B w w') (hg:g<B):Row U w' g l:=(hb.block g hg).trans h
theorem Row.kept (h:Row U w g l) (hb:Bw w w'):Row U w' g l:=(hb.block g h.lt).trans h
theorem Row.set (h:Row U w g l) {i:Nat} (hi:i<l.length) (x:UInt8) {z:Int} (hz:z=(x.toNat:Int)):Row U (w.setCell ⟨g,i,none⟩ (.int .u8 z)) g (l.set i x):=by
 subst hz;have hb:aI (l.set i x)=(aI l).set i (j6 x):=by simp [aI,List.map_set]
 unfold Row at h ⊢;rw [hb];have:i<(aI l).length:=by simpa using hi
 simp [World.setCell,Array.getElem?_modify,h,j6]
theorem Row.drewN (h:Row U w g l) (n:Nat):Row U (w.drewN n) g l:=h
end
theorem oq {z:Array Value} (hz:z= #[.int .u8 0]) (n:Nat):(madeCells z n).toList=aI (List.replicate n 0):=by
 subst hz;apply List.ext_getElem
 . simp [madeCells]
 . intro i h1 h2
   simp [madeCells,aI,j6,Nat.mod_one]
theorem l8 (l:List UInt8):∀v∈aI l,v.oneCell'=true:=by
 intro v hv;obtain ⟨x,_,rfl⟩:=List.mem_map.1 hv;rfl
theorem um (l L:List UInt8):splice (aI L) 0 (aI l)=aI (l++L.drop l.length):=by
 simp [splice,aI]
theorem iT {P:Program} {w:World} {ops:Array Oper} {rest:List Oper} {o:Oper} {a:Act} {Q:Exit->Act->World->Prop} (hgd:o.guard=none) (d s:Operand) (dT sT:TypeId)
 (ho:o.op= .call { callee:= .builtin .copy,args:= #[d,s],argTypes:= #[dT,sT] }) (U:TypeId) (hu:P.underlying dT=some (.slice U)) (hsz:(P.info? U).map (·.size)=some 1)
 (g n c1 m c2:Nat) (sp:Option Addr) (hd:a.eval d= .slice (some ⟨g,0,none⟩) n c1) (hs:a.eval s= .slice sp m c2)
 (L l:List UInt8) (hg:Row U w g L) (hl:l.length=m) (hb:BL w sp l) (hmn:m<=n) (hn:n<=L.length) (B:Nat) (w0:World) (hB:Below B w0 w) (hBg:B<=g)
 (h:∀w',Hid (Row U w' g (l++L.drop l.length))->Below B w0 w'->wpList P ops Q rest (a.put o.dst (goInt m)) w'):wpList P ops Q (o::rest) a w:=by
 subst hl;have hlen:(aI l).length=l.length:=by simp
 refine wpList_copy_splice hgd d s dT sT ho U hu hsz (some ⟨g,0,none⟩) sp n c1 l.length c2 hd hs g 0 (aI L) U hg (aI l) (by rw [hlen];exact (Nat.min_eq_left hmn).symm) (fun hp=>⟨rfl,?_⟩) (by rw [hlen,bM];omega) (l8 l) B w0 hB hBg ?_
 . obtain ⟨b,o,rfl,hc⟩:=hb (by simpa using hp)
   refine ⟨_,rfl,fun j v hj=>?_⟩
   have hjl:j<l.length:=by
    rcases Nat.lt_or_ge j l.length with h'|h'
    . exact h'
    . rw [List.getElem?_eq_none (by simpa using h')] at hj;cases hj
   have hv:v=j6 l[j]:=(by simpa [aI,hjl] using hj.symm);rw [hv,<-hc j hjl];by_cases h0:j=0<;>simp [Addr.add,h0]
 . intro w' h1 h2
   rw [um,hlen] at*;exact h w' h1 h2
def Own (U:TypeId) (w:World) (B:Nat) (v:Value) (l:List UInt8):Prop:=w.ownsRow B U 1 v l.length (aI l)
theorem Own.slice {U:TypeId} {w:World} {B:Nat} {v:Value} {l:List UInt8} (h:Own U w B v l):∃A c,v= .slice A l.length c/\BL w A l/\l.length<=c:=by
 obtain ⟨_,h2⟩:=h;rcases h2 with ⟨rfl,h0⟩|⟨g,cap,cur,rfl,_,hh,hle,_,hsz,htake⟩
 . exact ⟨none,0,by rw [h0],by rw [List.eq_nil_of_length_eq_zero h0];exact BL.nil _ _,by omega⟩
 . refine ⟨some ⟨g,0,none⟩,cap,rfl,fun _=>⟨g,0,rfl,fun i hi=>?_⟩,hle⟩
   have h3:cur.toList[i]? =some (j6 l[i]):=by
    have:=congrArg (·[i]?) htake;simp only [Nat.mul_one,List.getElem?_take,if_pos hi] at this;rw [this];simp [aI,hi]
   simp only [World.cell?,Nat.zero_add,hh];simpa using h3
theorem Own.lit (U:TypeId) (w:World) (B:Nat) (l:List UInt8) (hB:B<=w.heap.size) (hl:l.length<=maxLen):Own U (w.alloc (.cells (aI l).toArray U)) B (.slice (some ⟨w.heap.size,0,none⟩) l.length l.length) l:=by
 have:=World.ownsRow_lit (base:=B) (e:=U) (size:=1) w (aI l).toArray l.length hB hl (by simp);exact this
theorem gW {P:Program} {w:World} {ops:Array Oper} {rest:List Oper} {o:Oper} {a:Act} {Q:Exit->Act->World->Prop} (hgd:o.guard=none) (s x:Operand) (t:TypeId)
 (ho:o.op= .call { callee:= .builtin .append,args:= #[s,x],argTypes:= #[t,t] }) (B:Nat) (U:TypeId) (ht:P.underlying t=some (.slice U)) (hinfo:(P.info? U).map (fun i=>(i.zero,i.size,i.bytes))=some (some (.int .u8 0),1,1))
 (v:Value) (xs:List UInt8) (hs:a.eval s=v) (hown:Own U w B v xs) (A:Option Addr) (m c:Nat) (l:List UInt8) (hx:a.eval x= .slice A m c) (hl:l.length=m) (hb:BL w A l)
 (hsz:xs.length+m<=140737488355328) (hB:B<=w.heap.size)
 (h:∀v' w',Hid (Own U w' B v' (xs++l))->w.grownBy w' v.ownBlock->(v'.ownBlock=v.ownBlock\/v'.ownBlock=some w.heap.size)->wpList P ops Q rest (a.put o.dst v') w'):wpList P ops Q (o::rest) a w:=by
 subst hl;obtain ⟨i,hi,hz,hs1,hb1⟩:=info_parts hinfo;refine wpList_plain hgd fun K hK=>?_
 obtain ⟨v',w',hrun,h2,h3,h4⟩:∃v' w',(Builtin.append_ #[t,t] o.type #[v,.slice A l.length c]).run P w= .ok v' w'/\w'.ownsRow B U 1 v' (xs.length+l.length) (aI xs++aI l)/\w.grownBy w' v.ownBlock/\(v'.ownBlock=v.ownBlock\/v'.ownBlock=some w.heap.size):=by
  cases A with
  |none=>
   have h0:l=[]:=by
    cases l with
    |nil=>rfl
    |cons y l=>obtain ⟨_,_,e,_⟩:=hb (by simp);cases e
   subst h0;refine ⟨v,w,?_,by simpa [aI,Own] using hown,World.grownBy.refl w _,.inl rfl⟩;rcases hown.2 with ⟨rfl,_⟩|⟨g,cap,cur,rfl,_,_,hnc,_⟩
   . simp [Builtin.append_,run_underlying ht,sizeOf,typeInfo,hi,Builtin.lenOf,Builtin.firstCells]
   . simp [Builtin.append_,run_underlying ht,sizeOf,typeInfo,hi,Builtin.lenOf,Builtin.firstCells,hnc,storeCells]
  |some ad=>
   obtain ⟨v',w',h1,h2,h3,_,h5⟩:=run_append_own_at (P:=P) w B t o.type U i (.int .u8 0) 1 1 ht hi hz hs1 hb1 rfl (by decide) v xs.length (aI xs) hown ad l.length c (aI l) (by simp) (fun j u hj=>by
    have hjl:j<l.length:=by
     rcases Nat.lt_or_ge j l.length with h'|h'
     . exact h'
     . rw [List.getElem?_eq_none (by simpa using h')] at hj;cases hj
    obtain ⟨b,o,e,hc⟩:=hb (by omega);obtain rfl:ad=⟨b,o,none⟩:=(by simpa using e);have hv:u=j6 l[j]:=(by simpa [aI,hjl] using hj.symm);rw [hv,<-hc j hjl]
    by_cases h0:j=0<;>simp [Addr.add,h0]) (l8 l) (by unfold maxLen;omega) (by omega) hB
   exact ⟨v',w',h1,h2,h3,h5⟩
 unfold Oper.wp execOp;simp only [ho,resolve,invoke,builtin,Sem.run_bind,Sem.run_pure,Result.andThen_ok,List.map_toArray,List.map_cons,List.map_nil,hs,hx,hrun];refine hK _ _ (h v' w' ?_ h3 h4);show w'.ownsRow B U 1 v' (xs++l).length (aI (xs++l));rw [List.length_append,show aI (xs++l)=aI xs++aI l by simp [aI]];exact h2
theorem Row.new (U:TypeId) (w:World) (l:List UInt8):Row U (w.alloc (.cells (aI l).toArray U)) w.heap.size l:=heap_alloc_new w _
theorem BL.alloc {w:World} {p:Option Addr} {l:List UInt8} (h:BL w p l) (o:Obj):BL (w.alloc o) p l:=h.below (bAx)
end Go.Proofs.YtjpjjnalpdpljaaGreatDoor.Mem
namespace Go.Proofs.YtjpjjnalpdpljaaGreatDoor.Mem
open Go.RowKit
def VO (U:TypeId) (w:World) (B:Nat) (A:Option Addr) (c:Nat) (vs:List Value):Prop:=w.ownsRow B U 1 (.slice A vs.length c) vs.length vs
section
variable {U:TypeId} {w w':World} {B c:Nat} {A:Option Addr} {vs:List Value}
theorem VO.nil (U:TypeId) (w:World) (B:Nat):VO U w B none 0 []:=World.ownsRow_nil w B U 1
theorem VO.at_ (h:VO U w B A c vs):∀a,A=some a->B<=a.block/\a.block<w.heap.size:=by
 obtain ⟨_,h2⟩:=h;rintro a rfl;rcases h2 with ⟨h',_⟩|⟨g,cap,cur,he,hB,hh,_⟩
 . cases h'
 . obtain ⟨rfl,_⟩:a=⟨g,0,none⟩/\c=cap:=by simpa using he
   exact ⟨hB,(Array.getElem?_eq_some_iff.1 hh).1⟩
theorem VO.keep (h:VO U w B A c vs) (hk:∀a,A=some a->w'.heap[a.block]? =w.heap[a.block]?):VO U w' B A c vs:=by
 obtain ⟨h1,h2⟩:=h;refine ⟨h1,?_⟩;rcases h2 with h|⟨g,cap,cur,he,hB,hh,hr⟩
 . exact .inl h
 . obtain ⟨rfl,rfl⟩:A=some ⟨g,0,none⟩/\c=cap:=by simpa using he
   exact .inr ⟨g,c,cur,rfl,hB,(hk _ rfl).trans hh,hr⟩
theorem VO.kept (h:VO U w B A c vs) (hb:Bw w w'):VO U w' B A c vs:=h.keep fun a ha=>hb.block _ (h.at_ a ha).2
theorem VO.into {S:List Nat} (h:VO U w B A c vs) (hb:Flow.Into S w w') (hn:∀a,A=some a->a.block∉S):VO U w' B A c vs:=h.keep fun a ha=>hb.block _ (h.at_ a ha).2 (hn a ha)
theorem VO.ow (h:VO U w B A c vs) (h0:0<vs.length):∃g,A=some ⟨g,0,none⟩/\B<=g/\Ow U w g c vs:=by
 have h':=h;obtain ⟨_,h2⟩:=h';rcases h2 with ⟨_,h'⟩|⟨g,cap,cur,he,hB,_⟩
 . omega
 . obtain ⟨rfl,rfl⟩:A=some ⟨g,0,none⟩/\c=cap:=by simpa using he
   exact ⟨g,rfl,hB,(FY h).1⟩
end
structure LH (U:TypeId) (B:Nat) (w w':World) (A A':Option Addr) (c':Nat) (vs:List Value):Prop where
 vo:VO U w' B A' c' vs
 block:∀k,k<w.heap.size->(∀a,A=some a->a.block≠k)->w'.heap[k]? =w.heap[k]?
 below:Below B w w'
 row:∀a',A'=some a'->(∃a,A=some a/\a'.block=a.block)\/a'.block=w.heap.size
theorem p9 {P:Program} {U:TypeId} {z:Value} {by_:Nat} (t ty:TypeId) (ht:P.underlying t=some (.slice U)) (hinfo:(P.info? U).map (fun i=>(i.zero,i.size,i.bytes))=some (some z,1,by_)) (hzc:z.cells= #[z]) (hby:by_<=24)
 {w:World} {B:Nat} {A:Option Addr} {c:Nat} {vs:List Value} (h:VO U w B A c vs) (xb cx:Nat) (u:Value) (hu:w.cell? ⟨xb,0,none⟩=some u) (h1:u.oneCell'=true) (hn:vs.length+1<=1048576) (hB:B<=w.heap.size):
 ∃A' c' w',(Builtin.append_ #[t,t] ty #[.slice A vs.length c,.slice (some ⟨xb,0,none⟩) 1 cx]).run P w= .ok (.slice A' (vs.length+1) c') w'/\LH U B w w' A A' c' (vs++[u]):=by
 obtain ⟨i,hi,hz,hs1,hb1⟩:=info_parts hinfo;have hmb:(vs.length+1)*by_<=25165824:=Nat.mul_le_mul hn hby
 obtain ⟨v',w',hrun,h2,h3,_,h5⟩:=run_append_own_at (P:=P) w B t ty U i z 1 by_ ht hi hz hs1 hb1 (by rw [hzc];rfl) (by decide) (.slice A vs.length c) vs.length vs h ⟨xb,0,none⟩ 1 cx [u] rfl (fun j x hj=>by
  have hj0:j=0:=by
   rcases Nat.lt_or_ge j 1 with h'|h'
   . omega
   . rw [List.getElem?_eq_none (by simpa using h')] at hj;cases hj
  subst hj0;obtain rfl:u=x:=by simpa using hj
  simpa [Addr.add] using hu) (by intro x hx;obtain rfl:x=u:=by simpa using hx
                                 exact h1) (by unfold maxLen;omega) (by omega) hB
 have hv':∃A' c',v'= .slice A' (vs.length+1) c':=by
  rcases h2.2 with ⟨_,h0⟩|⟨g,cap,cur,rfl,_⟩
  . omega
  . exact ⟨_,_,rfl⟩
 obtain ⟨A',c',rfl⟩:=hv';refine ⟨A',c',w',hrun,⟨?_,?_,(Below.refl _ _).grown h3 hB fun k hk=>?_,?_⟩⟩
 . unfold VO
   rw [List.length_append];exact h2
 . intro k hk hne
   refine h3.block k hk ?_;rcases A with _|a
   . simp [Value.ownBlock]
   . have:=hne a rfl
     simp only [Value.ownBlock,ne_eq,Option.some.injEq];exact fun e=>this e.symm
 . rcases A with _|a
   . cases hk
   . obtain rfl:a.block=k:=by simpa [Value.ownBlock] using hk
     exact (h.at_ _ rfl).1
 . rintro a' rfl
   rcases h5 with h5|h5
   . rcases A with _|a
     . simp [Value.ownBlock] at h5
     . left;exact ⟨a,rfl,by simpa [Value.ownBlock] using h5⟩
   . right;simpa [Value.ownBlock] using h5
theorem dQ {P:Program} {w:World} {ops:Array Oper} {rest:List Oper} {o:Oper} {a:Act} {Q:Exit->Act->World->Prop} (hgd:o.guard=none) (s x:Operand) (t:TypeId)
 (ho:o.op= .call { callee:= .builtin .append,args:= #[s,x],argTypes:= #[t,t] }) (U:TypeId) (ht:P.underlying t=some (.slice U)) (z:Value) (by_:Nat) (hinfo:(P.info? U).map (fun i=>(i.zero,i.size,i.bytes))=some (some z,1,by_)) (hzc:z.cells= #[z]) (hby:by_<=24)
 (B:Nat) (A:Option Addr) (n c:Nat) (vs:List Value) (hs:a.eval s= .slice A n c) (hvn:vs.length=n) (h:VO U w B A c vs) (xb cx:Nat) (u:Value) (hx:a.eval x= .slice (some ⟨xb,0,none⟩) 1 cx) (hu:w.cell? ⟨xb,0,none⟩=some u) (h1:u.oneCell'=true) (hn:n+1<=1048576) (hB:B<=w.heap.size)
 (hh:∀A' c' w',Hid (LH U B w w' A A' c' (vs++[u]))->wpList P ops Q rest (a.put o.dst (.slice A' (n+1) c')) w'):wpList P ops Q (o::rest) a w:=by
 subst hvn;refine wpList_plain hgd fun K hK=>?_;obtain ⟨A',c',w',hrun,hd⟩:=p9 t o.type ht hinfo hzc hby h xb cx u hu h1 hn hB;unfold Oper.wp execOp;simp only [ho,resolve,invoke,builtin,Sem.run_bind,Sem.run_pure,Result.andThen_ok,List.map_toArray,List.map_cons,List.map_nil,hs,hx,hrun];exact hK _ _ (hh A' c' w' hd)
section
variable {U:TypeId} {w w':World} {B c:Nat} {A:Option Addr} {vs:List Value}
theorem VO.mono {B':Nat} (h:VO U w B A c vs) (hb:B'<=B):VO U w B' A c vs:=by
 obtain ⟨h1,h2⟩:=h;refine ⟨h1,?_⟩;rcases h2 with h|⟨g,cap,cur,he,hB,hr⟩
 . exact .inl h
 . exact .inr ⟨g,cap,cur,he,Nat.le_trans hb hB,hr⟩
theorem VO.cell (h:VO U w B A c vs) (h0:0<vs.length):∃g,A=some ⟨g,0,none⟩/\∀i (hi:i<vs.length),w.cell? ⟨g,i,none⟩=some vs[i]:=by
 obtain ⟨g,rfl,_,ho⟩:=h.ow h0;exact ⟨g,rfl,fun i hi=>ho.cell hi⟩
end
theorem VO.none_ (U:TypeId) (w:World) (B:Nat) (hB:B<=w.heap.size):VO U (w.alloc (.cells #[] U)) B (some ⟨w.heap.size,0,none⟩) 0 []:=
 World.ownsRow_lit (base:=B) (e:=U) (size:=1) w #[] 0 hB (Nat.zero_le _) (by simp)
theorem VO.made (U:TypeId) (w:World) (B:Nat) (z:Value) (n:Nat) (hB:B<=w.heap.size) (hn:n<=1048576):VO U (w.alloc (.cells (List.replicate n z).toArray U)) B (some ⟨w.heap.size,0,none⟩) n []:=
 World.ownsRow_made w _ n hB (by unfold maxLen;omega) (by simp)
theorem iN {P:Program} {t e:TypeId} {z:Value} {by_:Nat} (ht:P.underlying t=some (.slice e)) (hinfo:(P.info? e).map (fun i=>(i.zero,i.size,i.bytes))=some (some z,1,by_)) (hzc:z.cells= #[z]) (hby:by_<=24) (n:Nat) (hn:n<=1048576) (w:World):
 (Instr.makeSlice t (.int .i64 0) (.int .i64 (n:Int))).run P w= .ok (.slice (some ⟨w.heap.size,0,none⟩) 0 n) (w.alloc (.cells (List.replicate n z).toArray e)):=by
 obtain ⟨i,hi,hz,hs,hb⟩:=info_parts hinfo
 have hr:=run_make (P:=P) w t e i z ht hi hz .i64 .i64 0 n (by omega) (by omega) (by rw [hb];have:(by_:Int)*(n:Int)<=24*1048576:=by have:=Nat.mul_le_mul hby hn;omega
                                                                                     omega) (by omega)
 rw [hr,hs];simp only [Int.toNat_natCast,Nat.mul_one,Int.toNat_zero];rw [hzc,<-toList_madeCells_one z n]
end Go.Proofs.YtjpjjnalpdpljaaGreatDoor.Mem
set_option maxHeartbeats 1000000
set_option maxRecDepth 100000
namespace Go.Proofs.YtjpjjnalpdpljaaGreatDoor
open Go.RowKit
namespace Po
open Mem
theorem Oc {a b:Bool} (h:a=b):Ending.returned (.bool a)=.returned (.bool b):=by rw [h]
theorem l9:(Tryz.prog.info? 25).map (fun i=>(i.zero,i.size,i.bytes))=some (some (.int .u32 0),1,4):=by kernel_rfl
def jc (x:Nat):Value:= .int .u32 (x:Int)
def UL (w:World) (A:Option Addr) (l:List Nat):Prop:=0<l.length->∃b,A=some ⟨b,0,none⟩/\b<w.heap.size/\∀i (h:i<l.length),w.cell? ⟨b,i,none⟩=some (.int .u32 (l[i]:Int))
theorem UL.below {B:Nat} {w w':World} {A:Option Addr} {l:List Nat} (h:UL w A l) (hb:Below B w w') (hB:w.heap.size<=B):UL w' A l:=fun h0=>by
 obtain ⟨b,rfl,hlt,hc⟩:=h h0;refine ⟨b,rfl,Nat.lt_of_lt_of_le hlt hb.size,fun i hi=>?_⟩;rw [<-hc i hi];exact World.cell?_of_block (w:=w) (a:=⟨b,i,none⟩) (hb.block b (by omega))
theorem UL.kept {w w':World} {A:Option Addr} {l:List Nat} (h:UL w A l) (hb:Bw w w'):UL w' A l:=h.below hb (Nat.le_refl _)
theorem UL.Jy {w:World} {B c:Nat} {A:Option Addr} {l:List Nat} (h:VO 25 w B A c (l.map jc)):UL w A l:=fun h0=>by
 obtain ⟨g,rfl,hc⟩:=h.cell (by simpa using h0);refine ⟨g,rfl,(h.at_ _ rfl).2,fun i hi=>?_⟩;rw [hc i (by simpa using hi)];simp [jc]
theorem UL.nil (w:World):UL w none []:=fun h=>absurd h (by simp)
theorem F5 {U U':TypeId} {w:World} {B c h c':Nat} {A:Option Addr} {vs vs':List Value} (hv:VO U w B A c vs) (ho:Ow U' w h c' vs') (hU:U≠U'):∀a,A=some a->a.block≠h:=by
 rintro a rfl rfl;obtain ⟨_,h2⟩:=hv;obtain ⟨_,h4⟩:=ho;rcases h2 with ⟨h2,_⟩|⟨g,cap,cur,he,_,hh,_⟩
 . cases h2
 rcases h4 with ⟨h4,_⟩|⟨g',cap',cur',he',_,hh',_⟩
 . cases h4
 obtain ⟨rfl,_⟩:a=⟨g,0,none⟩/\c=cap:=by simpa using he
 obtain ⟨rfl,_⟩:g=g'/\c'=cap':=by simpa using he'
 rw [hh] at hh';injection hh' with hh'
 injection hh' with _ e _
 exact hU e
theorem Jz {l l':List Nat} {k:Nat} (h:∀i,i<k->l[i]? =l'[i]?) (h1:l.length<=k) (h2:l'.length<=k):l=l':=by
 apply List.ext_getElem?;intro i;by_cases hi:i<k
 . exact h i hi
 . rw [List.getElem?_eq_none (by omega),List.getElem?_eq_none (by omega)]
theorem below_drewN (w:World) (n:Nat):Bw w (w.drewN n):=⟨rfl,rfl,rfl,Nat.le_refl _,fun _ _=>rfl⟩
theorem F6 (A A':Option Addr) (m m' c c':Nat) (l l':List Nat) (w:World) (h:UL w A l) (h':UL w A' l') (hl:l.length=m) (hl':l'.length=m') (hm:m<=1048576) (hm':m'<=1048576):
 CB 19 #[.slice A m c,.slice A' m' c'] w (.bool (decide (l=l'))):=by
 by_cases hmm:m=m'
 . subst hmm
   have HU:=Lib.hid h;have HU':=Lib.hid h';have HL:=Lib.hid hl;have HL':=Lib.hid hl';clear h h' hl hl';go_enter Tryz.func19,Tryz.ntmps19
   go_wp2
   go_loopw [5] (fun i wr=>∃k:Nat,k<=m/\i= .int .i64 (k:Int)/\Hid (∀i,i<k->l[i]? =l'[i]?)/\∃n,wr=w.drewN n) (fun i _=>m-(intOf i).toNat)
   case atStart=>exact ⟨0,Nat.zero_le _,rfl,fun i hi=>by omega,0,rfl⟩
   case round=>
    obtain ⟨k,hk,rfl,HE,n,rfl⟩:=hrel;by_cases hlt:k<m
    . have k1:k<l.length:=by rw [HL.out];exact hlt
      have k2:k<l'.length:=(by rw [HL'.out];exact hlt);obtain ⟨b,rfl,-,hc⟩:=HU.out (by omega);obtain ⟨b',rfl,-,hc'⟩:=HU'.out (by omega);have d:=hc k k1;have d':=hc' k k2;obtain ⟨x,hx⟩:∃x,x=l[k]:=⟨_,rfl⟩
      obtain ⟨y,hy⟩:∃y,y=l'[k]:=⟨_,rfl⟩
      rw [<-hx] at d;rw [<-hy] at d';by_cases hxy:x=y
      . subst hxy
        have HE2:Hid (∀i,i<k+1->l[i]? =l'[i]?):=fun i hi=>by
         by_cases hik:i=k
         . subst hik
           rw [List.getElem?_eq_getElem k1,List.getElem?_eq_getElem k2,<-hx,<-hy]
         . exact HE.out i (by omega)
        clear hx hy hc hc' k1 k2
        go_wp2
        go_quiet (fail)
        go_wp2
        go_roundw
        case rel=>exact ⟨k+1,hlt,by go_num,HE2,_,rfl⟩
        case measure=>simp [intOf];omega
      . have HF:Hid (decide (l=l')=false):=by
         unfold Hid;simp only [decide_eq_false_iff_not];rintro rfl;exact hxy (by rw [hx,hy])
        have hne:((x:Int)==(y:Int))=false:=(by simp;omega);clear hx hy hc hc' k1 k2 hxy
        go_wp2
        go_quiet (fail)
        go_wp2
        go_ret
        exact ⟨Oc HF.out.symm,⟨rfl,rfl,rfl,Nat.le_refl _,fun _ _=>rfl⟩⟩
    . obtain rfl:k=m:=by omega
      have HT:Hid (decide (l=l')=true):=by
       unfold Hid;simp only [decide_eq_true_eq];exact Jz HE.out (by rw [HL.out];exact Nat.le_refl _) (by rw [HL'.out];exact Nat.le_refl _)
      go_wp2
      go_ret
      exact ⟨Oc HT.out.symm,below_drewN w _⟩
 . have HF:Hid (decide (l=l')=false):=by
    unfold Hid;simp only [decide_eq_false_iff_not];rintro rfl;omega
   have hne:((m:Int)==(m':Int))=false:=(by simp;omega);clear h h' hl hl' hmm;go_enter Tryz.func19,Tryz.ntmps19
   go_wp2
   go_ret
   exact ⟨Oc HF.out.symm,Below.refl _ _⟩
end Po
end Go.Proofs.YtjpjjnalpdpljaaGreatDoor
namespace Go.Proofs.YtjpjjnalpdpljaaGreatDoor
namespace Hp
section
variable {α:Type} [Inhabited α]
def gt (l:List α) (i:Nat):α:=l.getD i default
def swp (l:List α) (i j:Nat):List α:=(l.set i (gt l j)).set j (gt l i)
theorem jy {l:List α} {i:Nat} (h:i<l.length):gt l i=l[i]:=by simp [gt,h]
theorem JA (l:List α) (i j:Nat):(swp l i j).length=l.length:=by simp [swp]
theorem F7 {l:List α} {i j:Nat} (hi:i<l.length) (hj:j<l.length):(swp l i j).Perm l:=by
 unfold swp;rw [jy hi,jy hj];exact List.set_set_perm hi hj
theorem jA {l:List α} {i j:Nat} (hi:i<l.length) (hj:j<l.length) (k:Nat):gt (swp l i j) k=if k=j then gt l i else if k=i then gt l j else gt l k:=by
 unfold swp gt;by_cases h1:k=j
 . subst h1
   simp [hj]
 . rw [if_neg h1]
   by_cases h2:k=i
   . subst h2
     have h3:¬j=k:=fun e=>h1 e.symm;simp [hi,h3]
   . have h3:¬j=k:=fun e=>h1 e.symm
     have h4:¬i=k:=fun e=>h2 e.symm;simp [h2,h3,h4]
structure Ord (lt:α->α->Bool):Prop where
 asym:∀a b,lt a b=true->lt b a=false
 trans:∀a b c,lt b a=false->lt c b=false->lt c a=false
def HpF (lt:α->α->Bool) (l:List α) (n k:Nat):Prop:=∀j,0<j->j<n->k<=(j-1) / 2->lt (gt l j) (gt l ((j-1) / 2))=false
structure Sf (lt:α->α->Bool) (l:List α) (n k i:Nat):Prop where
 le:k<=i
 most:∀j,0<j->j<n->k<=(j-1) / 2->(j-1) / 2≠i->lt (gt l j) (gt l ((j-1) / 2))=false
 over:k<i->∀j,0<j->j<n->(j-1) / 2=i->lt (gt l j) (gt l ((i-1) / 2))=false
variable {lt:α->α->Bool} {l:List α} {n k i:Nat}
theorem HpF.sf (h:HpF lt l n (k+1)):Sf lt l n k k:=⟨Nat.le_refl _,fun j h1 h2 h3 h4=>h j h1 h2 (by omega),fun h0=>by omega⟩
theorem Sf.stop (h:Sf lt l n k i) (hc:∀j,0<j->j<n->(j-1) / 2=i->lt (gt l j) (gt l i)=false):HpF lt l n k:=fun j h1 h2 h3=>by
 by_cases e:(j-1) / 2=i
 . rw [e]
   exact hc j h1 h2 e
 . exact h.most j h1 h2 h3 e
theorem Sf.step (ho:Ord lt) (h:Sf lt l n k i) (hn:n<=l.length) {j:Nat} (h0:0<j) (hj:j<n) (hp:(j-1) / 2=i) (hlt:lt (gt l j) (gt l i)=true) (hc:∀c,0<c->c<n->(c-1) / 2=i->lt (gt l c) (gt l j)=false):Sf lt (swp l i j) n k j:=by
 have hij:i<j:=by omega
 have hk:=h.le;have G:=jA (l:=l) (i:=i) (j:=j) (by omega) (by omega);refine ⟨by omega,fun c h1 h2 h3 h4=>?_,fun _ c h1 h2 h3=>?_⟩
 . rw [G c,G ((c-1) / 2),if_neg h4]
   by_cases e:(c-1) / 2=i
   . rw [if_pos e]
     by_cases e2:c=j
     . rw [if_pos e2]
       exact ho.asym _ _ hlt
     . rw [if_neg e2,if_neg (by omega)]
       exact hc c h1 h2 e
   . rw [if_neg e,if_neg (by intro e2;subst e2;omega)]
     by_cases e2:c=i
     . rw [if_pos e2]
       subst e2;exact h.over (by omega) j h0 hj hp
     . rw [if_neg e2]
       exact h.most c h1 h2 h3 e
 . rw [G c,G ((j-1) / 2),hp,if_neg (by omega),if_neg (by omega),if_neg (by omega),if_pos rfl]
   have:=h.most c h1 h2 (by omega) (by omega);rw [h3] at this;exact this
theorem HpF.root (ho:Ord lt) (hs:∀a,lt a a=false) (h:HpF lt l n 0):∀m j,j<m->j<n->lt (gt l j) (gt l 0)=false
 |0,j,hm,_=>by omega
 |m+1,j,hm,hj=>by
  by_cases h0:j=0
  . subst h0
    exact hs _
  . exact ho.trans _ _ _ (HpF.root ho hs h m ((j-1) / 2) (by omega) (by omega)) (h j (by omega) hj (Nat.zero_le _))
theorem HpF.congr {l':List α} (h:HpF lt l n k) (he:∀i,i<n->gt l' i=gt l i):HpF lt l' n k:=fun j h1 h2 h3=>by
 rw [he j h2,he ((j-1) / 2) (by omega)];exact h j h1 h2 h3
theorem HpF.F8 (h:HpF lt l (n+1) 0) (hn:n<l.length):HpF lt (swp l 0 n) n 1:=fun j h1 h2 h3=>by
 have G:=jA (l:=l) (i:=0) (j:=n) (by omega) hn;rw [G j,G ((j-1) / 2),if_neg (by omega),if_neg (by omega),if_neg (by omega),if_neg (by omega)];exact h j h1 (by omega) (by omega)
structure RY (lt:α->α->Bool) (l:List α) (x:α) (l':List α):Prop where
 perm:l.Perm (x::l')
 heap:HpF lt l' l'.length 0
 least:∀y,y∈l'->lt y x=false
end
end Hp
end Go.Proofs.YtjpjjnalpdpljaaGreatDoor
