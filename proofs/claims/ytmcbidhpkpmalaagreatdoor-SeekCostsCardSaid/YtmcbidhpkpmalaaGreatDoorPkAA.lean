import Derived.Lib.QuietBelow
import Derived.StillTail
import Derived.Lib.Hide
import Derived.Deep.AppendLies
import Derived.Laws.CopyOwn
import Derived.Test.YtmcbidhpkpmalaaGreatDoorChecked
import Derived.Lib.SmallJoins
namespace Go.Proofs.YtmcbidhpkpmalaaGreatDoor
open Go.RowKit
instance ci:Coe Int Value:=⟨fun x=>.int .i64 x⟩
instance cn:Coe Nat Value:=⟨fun x=>.pointer (some ⟨x,0,none⟩)⟩
instance cu:Coe Unit Value:=⟨fun _=> .slice none 0 0⟩
abbrev Bw(w w':World):Prop:=Below w.heap.size w w'
theorem bAx{w:World}{o:Obj}:Below w.heap.size w (w.alloc o):=(Below.refl _ _).alloc (Nat.le_refl _) _
theorem eX{α:Type}(a:α):∃x,x=a:=⟨a,rfl⟩
instance ca:Coe Nat Addr:=⟨fun x=>⟨x,0,none⟩⟩
theorem lC:(∀{α:Type} {a:α} {l:List α},(a::l).length=l.length+1)/\(∀{α:Type},([]:List α).length=0)/\(∀{α:Type} {a:α} {l:List α} {i:Nat},(a::l).drop (i+1)=l.drop i):=⟨rfl,rfl,rfl⟩
end Go.Proofs.YtmcbidhpkpmalaaGreatDoor
namespace Go.Proofs.YtmcbidhpkpmalaaGreatDoor.Flow
open Go.RowKit Go.Sort
structure Into(S:List Nat)(w w':World):Prop where
 os:w'.os=w.os
 tape:w'.tape=w.tape
 output:w'.output=w.output
 size:w.heap.size<=w'.heap.size
 block:∀k,k<w.heap.size->k∉S->w'.heap[k]? =w.heap[k]?
theorem Into.refl(S:List Nat)(w:World):Into S w w:=⟨rfl,rfl,rfl,Nat.le_refl _,fun _ _ _=>rfl⟩
theorem Into.trans{S:List Nat}{a b c:World}(h:Into S a b)(k:Into S b c):Into S a c:=
 ⟨k.os.trans h.os,k.tape.trans h.tape,k.output.trans h.output,Nat.le_trans h.size k.size,fun i hi hn=>(k.block i (Nat.lt_of_lt_of_le hi h.size) hn).trans (h.block i hi hn)⟩
theorem Into.of_below{S:List Nat}{w w':World}(h:Bw w w'):Into S w w':=⟨h.os,h.tape,h.output,h.size,fun k hk _=>h.block k hk⟩
theorem Into.below{w w':World}(h:Into [] w w'):Bw w w':=⟨h.os,h.tape,h.output,h.size,fun k hk=>h.block k hk (by simp)⟩
theorem Into.mono{S S':List Nat}{w w':World}(h:Into S w w')(hs:∀k,k∈S->k∈S'):Into S' w w':=⟨h.os,h.tape,h.output,h.size,fun k hk hn=>h.block k hk fun hh=>hn (hs k hh)⟩
structure But where
 d:Nat
 os:Array Obj
 f:Nat->Obj
instance:Inhabited But:=⟨⟨0,#[],fun _=> .cells #[] 0⟩⟩
def but(S:List Nat)(w:World)(p:But):World:={ w with drawn:=p.d,heap:=(w.heap.mapIdx fun k o=>if k∈S then p.f k else o)++p.os }
theorem Gq(S:List Nat)(w:World)(p:But):Into S w (but S w p):=
 ⟨rfl,rfl,rfl,by simp[but],fun k hk hn=>by simp[but,Array.getElem?_append,hk,hn]⟩
theorem xD{S:List Nat}{w w':World}(h:Into S w w'):∃p:But,w'=but S w p:=by refine⟨⟨w'.drawn,w'.heap.extract w.heap.size w'.heap.size,fun k=>w'.heap.getD k (.cells #[] 0)⟩,?_⟩;obtain⟨heap',tape',drawn',os',output'⟩:=w';have e1:os'=w.os:=h.os;have e2:tape'=w.tape:=h.tape;have e3:output'=w.output:=h.output;have hs:w.heap.size<=heap'.size:=h.size;have hb:∀k,k<w.heap.size->k∉S->heap'[k]? =w.heap[k]? :=h.block;subst e1 e2 e3;simp only[but];congr 1;apply Array.ext_getElem?;intro k;by_cases hk:k<w.heap.size;(. rw[Array.getElem?_append_left (by simpa using hk)];by_cases hn:k∈S;(. (have:k<heap'.size:=by omega);simp[hk,hn,this]);. rw[hb k hk hn];simp[hk,hn]);. rw[Array.getElem?_append_right (by simpa using hk),Array.getElem?_extract];simp only[Array.size_mapIdx];by_cases hk2:k<heap'.size;(. rw[if_pos (by omega)];congr 1;omega);. rw[if_neg (by omega),Array.getElem?_eq_none (by omega)]
theorem lt_of_cell{w:World}{a:Addr}{v:Value}(h:w.cell? a=some v):a.block<w.heap.size:=by rcases Nat.lt_or_ge a.block w.heap.size with h'|h';(. exact h');. simp[World.cell?,Array.getElem?_eq_none h']at h
theorem Into.cell{S:List Nat}{w w':World}(h:Into S w w'){a:Addr}{v:Value}(hc:w.cell? a=some v)(hn:a.block∉S):w'.cell? a=some v:=
 (World.cell?_of_block (w:=w) (h.block a.block (lt_of_cell hc) hn)).trans hc
section
variable{P:Program}{ops:Array Oper}{md:Region.Mode}{S:List Nat}
def Kept(w w':World):Prop:=Bw w w'
theorem Kept.trans{a b c:World}(h:Kept a b)(k:Kept b c):Kept a c:=Below.trans h (Below.mono k h.size)
theorem Kept.into{a b:World}(h:Kept a b):Into S a b:=Into.of_below h
def upon(P:Program)(w:World)(v:Value):Result Next->Prop
 | .ok (.value u) w'=>w'=w/\u=v
 | .ok .skip w'=>w'=w/\v=undef
 | .ok (.enter f args) w'=>w'=w/\Calls P f args w (fun e w''=>e=.returned v/\Kept w w'')
 |_=>False
def gQ(P:Program)(o:Oper)(a:Act)(w:World)(v:Value):Prop:=upon P w v ((execOp a.eval o).run P w)
def yT(P:Program)(S:List Nat)(V:Value->World->Prop)(w:World):Result Next->Prop
 | .ok (.value u) w'=>V u w'/\Into S w w'
 | .ok .skip w'=>V undef w'/\Into S w w'
 | .ok (.enter f args) w'=>w'=w/\Calls P f args w (fun e w''=>∃v,e=.returned v/\V v w''/\Into S w w'')
 |_=>False
def Gg(P:Program)(S:List Nat)(o:Oper)(a:Act)(w:World)(V:Value->World->Prop):Prop:=yT P S V w ((execOp a.eval o).run P w)
theorem MV{p q r:Prop}(h:p\/q)(f:q->r):p\/r:=by rcases h with h|h;(. exact .inl h);. exact .inr (f h)
theorem block_lt{W:World}{b:Nat}{obj:Obj}(h:W.heap[b]? =some obj):b<W.heap.size:=(Array.getElem?_eq_some_iff.1 h).1
section
variable{n0:Nat}{obj:Obj}{bs:List World}{g:Option Nat}{W W':World}
end
theorem gT{listed:Array Bool}{i:Nat}(h:listed.getD i true=false):listed.getD i false=false:=by rcases Nat.lt_or_ge i listed.size with h'|h';(. simp[h']at h ⊢;exact h);. simp[Array.getElem?_eq_none h']at h
def Nrm(Q:Exit->Act->World->Prop):Exit->Act->World->Prop
 | .normal,a,w=>Q .normal a w
 |_,_,_=>False
@[go_sem] theorem aN (Q:Exit->Act->World->Prop) (a:Act) (w:World):Nrm Q .normal a w=Q .normal a w:=rfl
theorem MW(Q:Exit->Act->World->Prop):∀e a w,Nrm Q e a w->Q e a w:=fun e a w h=>by cases e<;>first|exact h|exact absurd h (fun h=>h)
end
attribute [go_sem] gQ upon Gg yT
end Go.Proofs.YtmcbidhpkpmalaaGreatDoor.Flow
namespace Go.Proofs.YtmcbidhpkpmalaaGreatDoor.Mem
open Go.RowKit
def Ow(U:TypeId)(w:World)(g cap:Nat)(vs:List Value):Prop:=w.ownsRow g U 1 (.slice (some g) vs.length cap) vs.length vs
section
variable{U:TypeId}{w w':World}{g cap:Nat}{vs:List Value}
theorem MX{B n:Nat}(h:w.ownsRow B U 1 (.slice (some g) n cap) n vs):Ow U w g cap vs/\B<=g/\vs.length=n:=by
 obtain⟨h1,h2⟩:=h;have hn:vs.length=n:=by omega
 subst hn;rcases h2 with⟨h,_⟩|⟨g',cap',cur,he,hB,hr⟩
 . cases h
 . obtain⟨rfl,rfl⟩:g=g'/\cap=cap':=by simpa using he
   exact⟨⟨h1,.inr ⟨g,cap,cur,rfl,Nat.le_refl _,hr⟩⟩,hB,rfl⟩
theorem Ow.lt(h:Ow U w g cap vs):g<w.heap.size:=by
 obtain⟨_,h2⟩:=h;rcases h2 with⟨h,_⟩|⟨g',cap',cur,he,_,hh,_⟩
 . cases h
 . obtain⟨rfl,_⟩:g=g'/\cap=cap':=by simpa using he
   exact(Array.getElem?_eq_some_iff.1 hh).1
theorem Ow.cell(h:Ow U w g cap vs){i:Nat}(hi:i<vs.length):w.cell? ⟨g,i,none⟩=some vs[i]:=by rw[World.ownsRow.cellAt h i (by omega)];simp[hi]
theorem Ow.free(h:Ow U w g cap vs)(i:Nat):w.frozen? ⟨g,i,none⟩=false:=World.ownsRow.frozenAt h i
theorem Ow.keep(h:Ow U w g cap vs)(hk:w'.heap[g]? =w.heap[g]?):Ow U w' g cap vs:=by obtain⟨h1,h2⟩:=h;refine⟨h1,?_⟩;rcases h2 with h|⟨g',cap',cur,he,hB,hh,hr⟩;(. exact .inl h);. (obtain⟨rfl,rfl⟩:g=g'/\cap=cap':=by simpa using he);exact .inr ⟨g,cap,cur,rfl,hB,hk.trans hh,hr⟩
theorem Ow.kept(h:Ow U w g cap vs)(hb:Bw w w'):Ow U w' g cap vs:=h.keep (hb.block g h.lt)
theorem Ow.into{S:List Nat}(h:Ow U w g cap vs)(hb:Flow.Into S w w')(hn:g∉S):Ow U w' g cap vs:=h.keep (hb.block g h.lt hn)
theorem Ow.set(h:Ow U w g cap vs)(i:Nat)(u:Value):Ow U (w.setCell ⟨g,i,none⟩ u) g cap (vs.set i u)/\Flow.Into [g] w (w.setCell ⟨g,i,none⟩ u):=by refine⟨?_,⟨rfl,rfl,rfl,by simp[World.setCell],fun k _ hn=>Below.heap_setCell _ _ _ _ (by simpa using hn)⟩⟩;have:=(World.ownsRow.stored h i u).1;unfold Ow;rw[List.length_set];exact this
end
theorem fP{P:Program}{t e:TypeId}{z:Value}{by_:Nat}(ht:P.underlying t=some (.slice e))(hinfo:(P.info? e).map (fun i=>(i.zero,i.size,i.bytes))=some (some z,1,by_))(hzc:z.cells= #[z])(hby:by_<=24)(n:Nat)(hn:n<=1048576)(w:World):
 (Instr.makeSlice t (.int .i64 (n:Int)) (.int .i64 (n:Int))).run P w= .ok (.slice (some w.heap.size) n n) (w.alloc (.cells (List.replicate n z).toArray e)):=by
 obtain⟨i,hi,hz,hs,hb⟩:=info_parts hinfo
 have hr:=run_make (P:=P) w t e i z ht hi hz .i64 .i64 n n (by omega) (by omega) (by rw[hb];have:(by_:Int)*(n:Int)<=24*1048576:=by have:=Nat.mul_le_mul hby hn;omega
                                                                                     omega) (by omega)
 rw[hr,hs];simp only[Int.toNat_natCast,Nat.mul_one];rw[hzc,<-toList_madeCells_one z n]
theorem xE(e:TypeId)(w:World)(z:Value)(n:Nat)(hn:n<=1048576):Ow e (w.alloc (.cells (List.replicate n z).toArray e)) w.heap.size n (List.replicate n z):=by have:=World.ownsRow_lit (base:=w.heap.size) (e:=e) (size:=1) w (List.replicate n z).toArray n (Nat.le_refl _) (by unfold maxLen;omega) (by simp);exact(MX (by simpa using this)).1
end Go.Proofs.YtmcbidhpkpmalaaGreatDoor.Mem
namespace Go.Proofs.YtmcbidhpkpmalaaGreatDoor.Mem
open Go.RowKit
section
variable{U:TypeId}{w w':World}{B c:Nat}{A:Option Addr}{vs:List Value}
end
section
variable{U:TypeId}{w w':World}{B c:Nat}{A:Option Addr}{vs:List Value}
end
theorem kK{P:Program}{t e:TypeId}{z:Value}{by_:Nat}(ht:P.underlying t=some (.slice e))(hinfo:(P.info? e).map (fun i=>(i.zero,i.size,i.bytes))=some (some z,1,by_))(hzc:z.cells= #[z])(hby:by_<=24)(n:Nat)(hn:n<=1048576)(w:World):
 (Instr.makeSlice t (.int .i64 0) (.int .i64 (n:Int))).run P w= .ok (.slice (some w.heap.size) 0 n) (w.alloc (.cells (List.replicate n z).toArray e)):=by
 obtain⟨i,hi,hz,hs,hb⟩:=info_parts hinfo
 have hr:=run_make (P:=P) w t e i z ht hi hz .i64 .i64 0 n (by omega) (by omega) (by rw[hb];have:(by_:Int)*(n:Int)<=24*1048576:=by have:=Nat.mul_le_mul hby hn;omega
                                                                                     omega) (by omega)
 rw[hr,hs];simp only[Int.toNat_natCast,Nat.mul_one,Int.toNat_zero];rw[hzc,<-toList_madeCells_one z n]
end Go.Proofs.YtmcbidhpkpmalaaGreatDoor.Mem
namespace Go.Proofs.YtmcbidhpkpmalaaGreatDoor
open Go.RowKit
namespace Mem
structure Kind(α:Type) where
 T:TypeId
 k:Nat
 cs:α->List Value
 len:∀x,(cs x).length=k
 one:∀x u,u∈cs x->u.oneCell'=true
section
variable{α:Type}(K:Kind α)
theorem Kind.Kc(L:List α):∀u∈L.flatMap K.cs,u.oneCell'=true:=fun u hu=>by rw[List.mem_flatMap]at hu;obtain⟨x,_,hu⟩:=hu;exact K.one x u hu
theorem Kind.Ch(L:List α):(L.flatMap K.cs).length=L.length*K.k:=by induction L with|nil=>simp|cons x L ih=>rw[List.flatMap_cons,List.length_append,ih,K.len,List.length_cons,Nat.succ_mul,Nat.add_comm]
theorem Kind.at_{L:List α}{i:Nat}{x:α}(h:L[i]? =some x){j:Nat}(hj:j<K.k):(L.flatMap K.cs)[i*K.k+j]? =(K.cs x)[j]? :=by induction L generalizing i with|nil=>simp at h|cons y L ih=>(rw[List.flatMap_cons];cases i with|zero=>obtain rfl:y=x:=(by simpa using h);rw[Nat.zero_mul,Nat.zero_add,List.getElem?_append_left (by rw[K.len];exact hj)]|succ i=>have e:(i+1)*K.k+j=K.k+(i*K.k+j):=(by rw[Nat.succ_mul];omega);rw[List.getElem?_append_right (by rw[K.len,e];omega),K.len,e,Nat.add_sub_cancel_left];exact ih (by simpa using h))
def RdK(w:World)(A:Option Addr)(L:List α):Prop:=0<L.length->∃b o,A=some ⟨b,o,none⟩/\b<w.heap.size/\∀(i:Nat) (x:α),L[i]? =some x->∀(j:Nat) (u:Value),(K.cs x)[j]? =some u->w.cell? ⟨b,o+(i*K.k+j),none⟩=some u
def VK(w:World)(B:Nat)(A:Option Addr)(c:Nat)(L:List α):Prop:=w.ownsRow B K.T K.k (.slice A L.length c) L.length (L.flatMap K.cs)
variable{K}{w w':World}{B c:Nat}{A:Option Addr}{L:List α}
theorem RdK.below{B:Nat}(h:RdK K w A L)(hb:Below B w w')(hB:w.heap.size<=B):RdK K w' A L:=fun h0=>by obtain⟨b,o,rfl,hl,hc⟩:=h h0;refine⟨b,o,rfl,Nat.lt_of_lt_of_le hl hb.size,fun i x hx j u hu=>?_⟩;rw[<-hc i x hx j u hu];exact World.cell?_of_block (w:=w) (a:=⟨b,o+(i*K.k+j),none⟩) (hb.block b (by omega))
theorem RdK.kept(h:RdK K w A L)(hb:Bw w w'):RdK K w' A L:=h.below hb (Nat.le_refl _)
theorem RdK.nil(w:World)(A:Option Addr):RdK K w A []:=fun h=>absurd h (by simp)
theorem RdK.take(h:RdK K w A L)(n:Nat):RdK K w A (L.take n):=fun h0=>by obtain⟨b,o,e,hl,hc⟩:=h (by rw[List.length_take]at h0;omega);refine⟨b,o,e,hl,fun i x hx=>hc i x ?_⟩;rw[List.getElem?_take]at hx;split at hx;(. exact hx);. cases hx
theorem RdK.drop(h:RdK K w A L){n:Nat}(hn:n<L.length):∃b o,A=some ⟨b,o,none⟩/\RdK K w (some ⟨b,o+n*K.k,none⟩) (L.drop n):=by obtain⟨b,o,e,hl,hc⟩:=h (by omega);refine⟨b,o,e,fun _=>⟨b,o+n*K.k,rfl,hl,fun i x hx j u hu=>?_⟩⟩;rw[List.getElem?_drop]at hx;have:=hc (n+i) x hx j u hu;rw[Nat.add_mul]at this;rw[show o+n*K.k+(i*K.k+j)=o+(n*K.k+i*K.k+j) by omega];exact this
theorem VK.nil(w:World)(B:Nat):VK K w B none 0 []:=World.ownsRow_nil w B _ _
theorem VK.at_(h:VK K w B A c L):∀a,A=some a->B<=a.block/\a.block<w.heap.size:=by
 obtain⟨_,h2⟩:=h;rintro a rfl;rcases h2 with⟨h',_⟩|⟨g,cap,cur,he,hB,hh,_⟩
 . cases h'
 . obtain⟨rfl,_⟩:a=⟨g,0,none⟩/\c=cap:=by simpa using he
   exact⟨hB,(Array.getElem?_eq_some_iff.1 hh).1⟩
theorem VK.keep(h:VK K w B A c L)(hk:∀a,A=some a->w'.heap[a.block]? =w.heap[a.block]?):VK K w' B A c L:=by obtain⟨h1,h2⟩:=h;refine⟨h1,?_⟩;rcases h2 with h|⟨g,cap,cur,he,hB,hh,hr⟩;(. exact .inl h);. (obtain⟨rfl,rfl⟩:A=some ⟨g,0,none⟩/\c=cap:=by simpa using he);exact .inr ⟨g,c,cur,rfl,hB,(hk _ rfl).trans hh,hr⟩
theorem VK.kept(h:VK K w B A c L)(hb:Bw w w'):VK K w' B A c L:=h.keep fun a ha=>hb.block _ (h.at_ a ha).2
theorem VK.into{T:List Nat}(h:VK K w B A c L)(hi:Flow.Into T w w')(hn:∀a,A=some a->a.block∉T):VK K w' B A c L:=h.keep fun a ha=>hi.block _ (h.at_ a ha).2 (hn a ha)
theorem VK.mono{B':Nat}(h:VK K w B A c L)(hB':B'<=B):VK K w B' A c L:=by obtain⟨h1,h2⟩:=h;refine⟨h1,?_⟩;rcases h2 with h|⟨g,cap,cur,he,hB,hr⟩;(. exact .inl h);. exact .inr ⟨g,cap,cur,he,Nat.le_trans hB' hB,hr⟩
theorem VK.lit(w:World)(B:Nat)(hB:B<=w.heap.size):VK K (w.alloc (.cells #[] K.T)) B (some ⟨w.heap.size,0,none⟩) 0 []:=by have:=World.ownsRow_lit (base:=B) (e:=K.T) (size:=K.k) w #[] 0 hB (Nat.zero_le _) (by simp);simpa[VK]using this
theorem VK.cell(h:VK K w B A c L){i:Nat}{x:α}(hx:L[i]? =some x):∃g,A=some ⟨g,0,none⟩/\∀(j:Nat) (u:Value),(K.cs x)[j]? =some u->w.cell? ⟨g,i*K.k+j,none⟩=some u:=by (have hi:i<L.length:=(List.getElem?_eq_some_iff.1 hx).1;have h':=h;obtain⟨_,h2⟩:=h';rcases h2 with⟨_,h'⟩|⟨g,cap,cur,he,_⟩);(. omega);. (obtain⟨rfl,rfl⟩:A=some ⟨g,0,none⟩/\c=cap:=by simpa using he);(refine⟨g,rfl,fun j u hu=>?_⟩;have hj:j<K.k:=by rw[<-K.len x];exact(List.getElem?_eq_some_iff.1 hu).1);(have hlt:i*K.k+j<L.length*K.k:=by have:=Nat.mul_le_mul_right K.k (show i+1<=L.length by omega);rw[Nat.succ_mul]at this;omega);rw[World.ownsRow.cellAt h (i*K.k+j) hlt,K.at_ hx hj];exact hu
theorem VK.rd(h:VK K w B A c L):RdK K w A L:=fun h0=>by
 obtain⟨g,rfl,_⟩:=h.cell (i:=0) (List.getElem?_eq_getElem h0);refine⟨g,0,rfl,(h.at_ _ rfl).2,fun i x hx j u hu=>?_⟩;obtain⟨g',e,hc⟩:=h.cell hx;obtain rfl:g=g':=by simpa using e
 rw[Nat.zero_add];exact hc j u hu
structure jF(K:Kind α)(B:Nat)(w w':World)(A A':Option Addr)(c':Nat)(L:List α):Prop where
 vo:VK K w' B A' c' L
 below:Below B w w'
 block:∀k,k<w.heap.size->(∀a,A=some a->a.block≠k)->w'.heap[k]? =w.heap[k]?
 row:∀a',A'=some a'->(∃a,A=some a/\a'.block=a.block)\/a'.block=w.heap.size
end
section
variable{α:Type}{K:Kind α}{P:Program}
theorem pz{S:TypeId}{z:Value}{by_:Nat}(hS:P.underlying S=some (.slice K.T))(hinfo:(P.info? K.T).map (fun i=>(i.zero,i.size,i.bytes))=some (some z,K.k,by_))(hz:z.cells.size=K.k)(hby:by_<=4096)(ty:TypeId){w:World}{B:Nat}{A:Option Addr}{c:Nat}{L:List α}(h:VK K w B A c L)(xb cx:Nat)(x:α)(hx:w.heap[xb]? =some (.cells (K.cs x).toArray K.T (0,0)))(hn:L.length+1<=1048576)(hk:0<K.k)(hB:B<=w.heap.size):
 ∃A' c' w',(Builtin.append_ #[S,S] ty #[.slice A L.length c,.slice (some xb) 1 cx]).run P w= .ok (.slice A' (L.length+1) c') w'/\jF K B w w' A A' c' (L++[x]):=by
 obtain⟨i,hi,hz1,hs1,hb1⟩:=info_parts hinfo
 obtain⟨v',w',hrun,h2,h3,_,h5⟩:=run_append_own_at (P:=P) w B S ty K.T i z K.k by_ hS hi hz1 hs1 hb1 hz hk (.slice A L.length c) L.length (L.flatMap K.cs) h ⟨xb,0,none⟩ 1 cx (K.cs x) (by rw[K.len,Nat.one_mul]) (fun j u hj=>by
  have:(⟨xb,0,none⟩:Addr).add j=⟨xb,j,none⟩:=by by_cases h0:j=0<;>simp[Addr.add,h0]
  rw[this];simp only[World.cell?,hx]
  simpa using hj) (fun u hu=>K.one x u hu) (by unfold maxLen;omega) (Nat.le_trans (Nat.mul_le_mul hn hby) (by decide)) hB
 have hv':∃A' c',v'= .slice A' (L.length+1) c':=by
  rcases h2.2 with⟨_,h0⟩|⟨g,cap,cur,rfl,_⟩
  . omega
  . exact⟨_,_,rfl⟩
 obtain⟨A',c',rfl⟩:=hv';refine⟨A',c',w',hrun,⟨?_,(Below.refl _ _).grown h3 hB fun k hk=>?_,?_,?_⟩⟩
 . unfold VK
   rw[List.length_append,List.flatMap_append];simpa using h2
 . rcases A with _|a
   . cases hk
   . obtain rfl:a.block=k:=by simpa[Value.ownBlock]using hk
     exact(h.at_ _ rfl).1
 . intro k hk hne
   refine h3.block k hk ?_;rcases A with _|a
   . simp[Value.ownBlock]
   . have:=hne a rfl
     simp only[Value.ownBlock,ne_eq,Option.some.injEq];exact fun e=>this e.symm
 . rintro a' rfl
   rcases h5 with h5|h5
   . rcases A with _|a
     . simp[Value.ownBlock]at h5
     . left;exact⟨a,rfl,by simpa[Value.ownBlock]using h5⟩
   . right;simpa[Value.ownBlock]using h5
theorem aI{S:TypeId}{z:Value}{by_:Nat}(hS:P.underlying S=some (.slice K.T))(hinfo:(P.info? K.T).map (fun i=>(i.zero,i.size,i.bytes))=some (some z,K.k,by_))(hz:z.cells.size=K.k)(hby:by_<=4096)(hk:0<K.k)
 {w:World} {ops:Array Oper} {rest:List Oper} {o:Oper} {a:Act} {Q:Exit->Act->World->Prop} (hgd:o.guard=none) (s x:Operand)
 (ho:o.op= .call { callee:= .builtin .append,args:= #[s,x],argTypes:= #[S,S] })
 (B:Nat) (A:Option Addr) (n c:Nat) (L:List α) (hs:a.eval s= .slice A n c) (hvn:L.length=n) (h:VK K w B A c L) (xb cx:Nat) (y:α) (hx:a.eval x= .slice (some xb) 1 cx) (hu:w.heap[xb]? =some (.cells (K.cs y).toArray K.T (0,0))) (hn:n+1<=1048576) (hB:B<=w.heap.size)
 (hh:∀A' c' w',Hid (jF K B w w' A A' c' (L++[y]))->wpList P ops Q rest (a.put o.dst (.slice A' (n+1) c')) w'):wpList P ops Q (o::rest) a w:=by
 subst hvn;refine wpList_plain hgd fun C hC=>?_;obtain⟨A',c',w',hrun,hd⟩:=pz hS hinfo hz hby o.type h xb cx y hu hn hk hB;unfold Oper.wp execOp;simp only[ho,resolve,invoke,builtin,Sem.run_bind,Sem.run_pure,Result.andThen_ok,List.map_toArray,List.map_cons,List.map_nil,hs,hx,hrun];exact hC _ _ (hh A' c' w' hd)
theorem pE{S:TypeId}{z:Value}{by_:Nat}(hS:P.underlying S=some (.slice K.T))(hinfo:(P.info? K.T).map (fun i=>(i.zero,i.size,i.bytes))=some (some z,K.k,by_))(hz:z.cells.size=K.k)(hby:by_<=4096)(ty:TypeId){w:World}{B:Nat}{A:Option Addr}{c:Nat}{L:List α}(h:VK K w B A c L){A2:Option Addr}(c2:Nat){M:List α}(hM:RdK K w A2 M)(hn:L.length+M.length<=1048576)(hk:0<K.k)(hB:B<=w.heap.size):
 ∃A' c' w',(Builtin.append_ #[S,S] ty #[.slice A L.length c,.slice A2 M.length c2]).run P w= .ok (.slice A' (L.length+M.length) c') w'/\VK K w' B A' c' (L++M)/\Below B w w':=by
 obtain⟨i,hi,hz1,hs1,hb1⟩:=info_parts hinfo;cases A2 with
 |none=>
  have h0:M=[]:=by
   cases M with
   |nil=>rfl
   |cons y l=>obtain⟨_,_,e,_⟩:=hM (by simp);cases e
  subst h0;refine⟨A,c,w,?_,by simpa using h,Below.refl _ _⟩;rcases h.2 with⟨h',_⟩|⟨g,cap,cur,h',_,_,hnc,_⟩
  . rw[h']
    obtain⟨rfl,this,rfl⟩:A=none/\L.length=0/\c=0:=(by simpa using h');simp[Builtin.append_,run_underlying hS,sizeOf,typeInfo,hi,Builtin.lenOf,Builtin.firstCells,this]
  . obtain⟨rfl,rfl⟩:A=some ⟨g,0,none⟩/\c=cap:=by simpa using h'
    simp[Builtin.append_,run_underlying hS,sizeOf,typeInfo,hi,Builtin.lenOf,Builtin.firstCells,hnc,storeCells]
 |some ad=>
  obtain⟨v',w',hrun,h2,h3,_,h5⟩:=run_append_own_at (P:=P) w B S ty K.T i z K.k by_ hS hi hz1 hs1 hb1 hz hk (.slice A L.length c) L.length (L.flatMap K.cs) h ad M.length c2 (M.flatMap K.cs) (K.Ch M) (fun j u hj=>by
   have hjl:j<M.length*K.k:=by
    have:=(List.getElem?_eq_some_iff.1 hj).1;rw[K.Ch]at this;exact this
   have hM0:0<M.length:=by
    rcases Nat.eq_zero_or_pos M.length with h0|h0
    . rw[h0,Nat.zero_mul]at hjl
      exact absurd hjl (Nat.not_lt_zero _)
    . exact h0
   obtain⟨b,o,e,_,hc⟩:=hM hM0;obtain rfl:ad=⟨b,o,none⟩:=(by simpa using e);have hq:j / K.k<M.length:=Nat.div_lt_of_lt_mul (by rw[Nat.mul_comm];exact hjl);have hr:j % K.k<K.k:=Nat.mod_lt _ hk;have hjj:j / K.k*K.k+j % K.k=j:=Nat.div_add_mod' j K.k;have hx:=List.getElem?_eq_getElem hq;have:=K.at_ hx hr;rw[hjj,hj]at this;have:=hc _ _ hx _ u this.symm;rw[hjj]at this;rw[<-this]
   by_cases h0:j=0<;>simp[Addr.add,h0]) (fun u hu=>K.Kc M u hu) (by unfold maxLen;omega) (Nat.le_trans (Nat.mul_le_mul hn hby) (by decide)) hB
  have hv':∃A' c',v'= .slice A' (L.length+M.length) c':=by
   rcases h2.2 with⟨rfl,h0⟩|⟨g,cap,cur,rfl,_⟩
   . exact⟨none,0,by rw[h0]⟩
   . exact⟨_,_,rfl⟩
  obtain⟨A',c',rfl⟩:=hv';refine⟨A',c',w',hrun,?_,(Below.refl _ _).grown h3 hB fun k hk=>?_⟩
  . unfold VK
    rw[List.length_append,List.flatMap_append];exact h2
  . rcases A with _|a
    . cases hk
    . obtain rfl:a.block=k:=by simpa[Value.ownBlock]using hk
      exact(h.at_ _ rfl).1
theorem fE{S:TypeId}{z:Value}{by_:Nat}(hS:P.underlying S=some (.slice K.T))(hinfo:(P.info? K.T).map (fun i=>(i.zero,i.size,i.bytes))=some (some z,K.k,by_))(hz:z.cells.size=K.k)(hby:by_<=4096)(hk:0<K.k)
 {w:World} {ops:Array Oper} {rest:List Oper} {o:Oper} {a:Act} {Q:Exit->Act->World->Prop} (hgd:o.guard=none) (s x:Operand)
 (ho:o.op= .call { callee:= .builtin .append,args:= #[s,x],argTypes:= #[S,S] })
 (B:Nat) (A:Option Addr) (n c:Nat) (L:List α) (hs:a.eval s= .slice A n c) (hvn:L.length=n) (h:VK K w B A c L) (A2:Option Addr) (m c2:Nat) (M:List α) (hx:a.eval x= .slice A2 m c2) (hM:M.length=m) (hb:RdK K w A2 M) (hn:n+m<=1048576) (hB:B<=w.heap.size)
 (hh:∀A' c' w',Hid (VK K w' B A' c' (L++M))->Hid (Below B w w')->wpList P ops Q rest (a.put o.dst (.slice A' (n+m) c')) w'):wpList P ops Q (o::rest) a w:=by
 subst hvn hM;refine wpList_plain hgd fun C hC=>?_;obtain⟨A',c',w',hrun,hd,he⟩:=pE hS hinfo hz hby o.type h c2 hb hn hk hB;unfold Oper.wp execOp;simp only[ho,resolve,invoke,builtin,Sem.run_bind,Sem.run_pure,Result.andThen_ok,List.map_toArray,List.map_cons,List.map_nil,hs,hx,hrun];exact hC _ _ (hh A' c' w' hd he)
end
end Mem
end Go.Proofs.YtmcbidhpkpmalaaGreatDoor
namespace Go.Proofs.YtmcbidhpkpmalaaGreatDoor.Mem
open Go.RowKit
def kH(x:UInt8):Value:= .int .u8 (x.toNat:Int)
def aD(l:List UInt8):List Value:=l.map kH
@[simp] theorem bE (l:List UInt8):(aD l).length=l.length:=by simp[aD]
def BL(w:World)(p:Option Addr)(l:List UInt8):Prop:=
 0<l.length->∃b o,p=some ⟨b,o,none⟩/\∀i (h:i<l.length),w.cell? ⟨b,o+i,none⟩=some (kH l[i])
theorem BL.nil(w:World)(p:Option Addr):BL w p []:=fun h=>absurd h (by simp)
theorem BL.at_{w:World}{p:Option Addr}{l:List UInt8}(h:BL w p l){i:Nat}(hi:i<l.length):∃b o,p=some ⟨b,o,none⟩/\w.cell? ⟨b,o+i,none⟩=some (.int .u8 (l[i].toNat:Int)):=by obtain⟨b,o,e,hc⟩:=h (by omega);exact⟨b,o,e,hc i hi⟩
theorem BL.lt{w:World}{p:Option Addr}{l:List UInt8}(h:BL w p l)(hl:0<l.length):∀a,p=some a->a.block<w.heap.size:=by
 rintro a rfl;obtain⟨b,o,e,hc⟩:=h hl;obtain rfl:a=⟨b,o,none⟩:=by simpa using e
 have h0:=hc 0 hl;rcases Nat.lt_or_ge b w.heap.size with h'|h'
 . exact h'
 . simp[World.cell?,Array.getElem?_eq_none h']at h0
theorem BL.keep{w w':World}{p:Option Addr}{l:List UInt8}(h:BL w p l)(hk:0<l.length->∀a,p=some a->w'.heap[a.block]? =w.heap[a.block]?):BL w' p l:=fun hl=>by obtain⟨b,o,rfl,hc⟩:=h hl;refine⟨b,o,rfl,fun i hi=>?_⟩;rw[<-hc i hi];exact World.cell?_of_block (w:=w) (a:=⟨b,o+i,none⟩) (show w'.heap[b]? =w.heap[b]? from hk hl ⟨b,o,none⟩ rfl)
theorem BL.below{w w':World}{p:Option Addr}{l:List UInt8}(h:BL w p l)(hb:Bw w w'):BL w' p l:=h.keep fun hl a ha=>hb.block _ (h.lt hl a ha)
theorem BL.take{w:World}{p:Option Addr}{l:List UInt8}(h:BL w p l)(k:Nat):BL w p (l.take k):=fun hl=>by simp only[List.length_take]at hl;obtain⟨b,o,e,hc⟩:=h (by omega);refine⟨b,o,e,fun i hi=>?_⟩;simp only[List.length_take]at hi;rw[hc i (by omega),List.getElem_take]
def Gr(A:Option Addr)(c k:Nat):Option Addr:=if c=k then A else A.map (·.add k)
theorem BL.cut{w:World}{p:Option Addr}{l:List UInt8}(h:BL w p l){k c:Nat}(hc:l.length<=c):BL w (Gr p c k) (l.drop k):=fun hl=>by simp only[List.length_drop]at hl;obtain⟨b,o,rfl,hcell⟩:=h (by omega);unfold Gr;rw[if_neg (by omega)];refine⟨b,o+k,by by_cases hk:k=0<;>simp[Addr.add,hk],fun i hi=>?_⟩;simp only[List.length_drop]at hi;rw[Nat.add_assoc,hcell (k+i) (by omega),List.getElem_drop]
theorem Ci{P:Program}{t e:TypeId}{i:TypeInfo}(ht:P.underlying t=some (.slice e))(hi:P.info? e=some i)(hs:i.size=1)(A:Option Addr)(n c k:Nat)(hk:k<=n)(w:World):
 (Instr.slice t (.slice A n c) (some (.int .i64 (k:Int))) none none).run P w= .ok (.slice (Gr A c k) (n-k) (c-k)) w:=by
 have he:P.elem t=e:=by simp[Program.elem,ht]
 rw[run_slice_l w t A n c (by rw[he];exact ht) .i64 (k:Int) (by omega) (by omega),he];simp[sizeOf,typeInfo,hi,hs,sliced,Gr,Result.andThen]
theorem sQ{P:Program}{t e:TypeId}{i:TypeInfo}(ht:P.underlying t=some (.slice e))(hi:P.info? e=some i)(A:Option Addr)(n c k:Nat)(hk:k<=c)(w:World):
 (Instr.slice t (.slice A n c) none (some (.int .i64 (k:Int))) none).run P w= .ok (.slice A k c) w:=by
 have he:P.elem t=e:=by simp[Program.elem,ht]
 rw[run_slice_h w t A n c (by rw[he];exact ht) .i64 (k:Int) (by omega) (by omega),he];by_cases hc:c=0
 . simp[sizeOf,typeInfo,hi,sliced,Result.andThen,hc]
 . simp[sizeOf,typeInfo,hi,sliced,Result.andThen,hc,Addr.add]
def strOf(l:List UInt8):ByteArray:=⟨l.toArray⟩
theorem rR(l:List UInt8):(strOf l).size=l.length:=rfl
theorem run_text{P:Program}{src dst e:TypeId}(hs:P.underlying src=some (.slice e))(he:P.underlying e=some (.int .u8))(hd:P.underlying dst=some .string){w:World}{p:Option Addr}{l:List UInt8}(h:BL w p l)(c:Nat):
 (convert src dst (.slice p l.length c)).run P w= .ok (.string (strOf l)) w:=by
 have Uk:∀x:UInt8,UInt8.ofNat ((x.toNat:Int)).toNat=x:=fun x=>by simp
 by_cases h0:l.length=0
 . obtain rfl:l=[]:=List.eq_nil_of_length_eq_zero h0
   rw[run_convert_bytes_string w src dst e _ _ c hs he hd];cases p with
   |none=>simp[Conv.bytesToString,strOf,ByteArray.empty,ByteArray.emptyWithCapacity];rfl
   |some a=>
    rw[show([]:List UInt8).length=0 from rfl,run_bytesToString w a 0 c [] (by simpa using run_loadCells_list (P:=P) w a [] (fun j v hj=>by simp at hj))];simp[strOf,ByteArray.empty,ByteArray.emptyWithCapacity];rfl
 . obtain⟨b,o,rfl,hc⟩:=h (by omega)
   have:=run_convert_bytes_arg (P:=P) w src e hs he b o l.length c (l.map fun x=>(x.toNat:Int)) (by simp) (fun i hi=>by
    rw[hc i hi];simp[kH,hi]) dst hd
   rw[this];simp[strOfNums,strOf,Function.comp_def]
theorem Av{P:Program}{src dst e:TypeId}(hs:P.underlying src=some (.slice e))(he:P.underlying e=some (.int .u8))(hd:P.underlying dst=some .string){w:World}{p:Option Addr}{l:List UInt8}(h:BL w p l){n:Nat}(hn:l.length=n)(c:Nat):
 (convert src dst (.slice p n c)).run P w= .ok (.string (strOf l)) w:=by subst hn;exact run_text hs he hd h c
def Row(U:TypeId)(w:World)(g:Nat)(l:List UInt8):Prop:=w.heap[g]? =some (.cells (aD l).toArray U (0,0))
section
variable{U:TypeId}{w w':World}{g:Nat}{l:List UInt8}
theorem Row.lt(h:Row U w g l):g<w.heap.size:=(Array.getElem?_eq_some_iff.1 h).1
theorem Row.bl(h:Row U w g l):BL w (some ⟨g,0,none⟩) l:=fun _=>⟨g,0,rfl,fun i hi=>by unfold Row at h;simp[World.cell?,h,aD,hi]⟩
theorem Row.cell(h:Row U w g l){i:Nat}(hi:i<l.length):w.cell? ⟨g,i,none⟩=some (.int .u8 (l[i].toNat:Int)):=by unfold Row at h;simp[World.cell?,h,aD,hi,kH]
theorem Row.free(h:Row U w g l)(i:Nat):w.frozen? ⟨g,i,none⟩=false:=by unfold Row at h;simp[World.frozen?,h]
theorem Row.kept(h:Row U w g l)(hb:Bw w w'):Row U w' g l:=(hb.block g h.lt).trans h
theorem Row.set(h:Row U w g l){i:Nat}(hi:i<l.length)(x:UInt8){z:Int}(hz:z=(x.toNat:Int)):Row U (w.setCell ⟨g,i,none⟩ (.int .u8 z)) g (l.set i x):=by
 subst hz;have hb:aD (l.set i x)=(aD l).set i (kH x):=by simp[aD,List.map_set]
 unfold Row at h ⊢;rw[hb];have:i<(aD l).length:=by simpa using hi
 simp[World.setCell,Array.getElem?_modify,h,kH]
end
theorem pF{z:Array Value}(hz:z= #[.int .u8 0])(n:Nat):(madeCells z n).toList=aD (List.replicate n 0):=by subst hz;apply List.ext_getElem;(. simp[madeCells]);. intro i h1 h2;simp[madeCells,aD,kH,Nat.mod_one]
theorem nu(l:List UInt8):∀v∈aD l,v.oneCell'=true:=by intro v hv;obtain⟨x,_,rfl⟩:=List.mem_map.1 hv;rfl
theorem vB(l L:List UInt8):splice (aD L) 0 (aD l)=aD (l++L.drop l.length):=by simp[splice,aD]
theorem iI{P:Program}{w:World}{ops:Array Oper}{rest:List Oper}{o:Oper}{a:Act}{Q:Exit->Act->World->Prop}(hgd:o.guard=none)(d s:Operand)(dT sT:TypeId)
 (ho:o.op= .call { callee:= .builtin .copy,args:= #[d,s],argTypes:= #[dT,sT] }) (U:TypeId) (hu:P.underlying dT=some (.slice U)) (hsz:(P.info? U).map (·.size)=some 1)
 (g n c1 m c2:Nat) (sp:Option Addr) (hd:a.eval d= .slice (some g) n c1) (hs:a.eval s= .slice sp m c2)
 (L l:List UInt8) (hg:Row U w g L) (hl:l.length=m) (hb:BL w sp l) (hmn:m<=n) (hn:n<=L.length) (B:Nat) (w0:World) (hB:Below B w0 w) (hBg:B<=g)
 (h:∀w',Hid (Row U w' g (l++L.drop l.length))->Below B w0 w'->wpList P ops Q rest (a.put o.dst (goInt m)) w'):wpList P ops Q (o::rest) a w:=by
 subst hl;have hlen:(aD l).length=l.length:=by simp
 refine wpList_copy_splice hgd d s dT sT ho U hu hsz (some ⟨g,0,none⟩) sp n c1 l.length c2 hd hs g 0 (aD L) U hg (aD l) (by rw[hlen];exact(Nat.min_eq_left hmn).symm) (fun hp=>⟨rfl,?_⟩) (by rw[hlen,bE];omega) (nu l) B w0 hB hBg ?_
 . obtain⟨b,o,rfl,hc⟩:=hb (by simpa using hp)
   refine⟨_,rfl,fun j v hj=>?_⟩
   have hjl:j<l.length:=by
    rcases Nat.lt_or_ge j l.length with h'|h'
    . exact h'
    . rw[List.getElem?_eq_none (by simpa using h')]at hj;cases hj
   have hv:v=kH l[j]:=(by simpa[aD,hjl]using hj.symm);rw[hv,<-hc j hjl];by_cases h0:j=0<;>simp[Addr.add,h0]
 . intro w' h1 h2
   rw[vB,hlen]at*;exact h w' h1 h2
def Own(U:TypeId)(w:World)(B:Nat)(v:Value)(l:List UInt8):Prop:=w.ownsRow B U 1 v l.length (aD l)
theorem Own.slice{U:TypeId}{w:World}{B:Nat}{v:Value}{l:List UInt8}(h:Own U w B v l):∃A c,v= .slice A l.length c/\BL w A l/\l.length<=c:=by (obtain⟨_,h2⟩:=h;rcases h2 with⟨rfl,h0⟩|⟨g,cap,cur,rfl,_,hh,hle,_,hsz,htake⟩);(. exact⟨none,0,by rw[h0],by rw[List.eq_nil_of_length_eq_zero h0];exact BL.nil _ _,by omega⟩);. refine⟨some ⟨g,0,none⟩,cap,rfl,fun _=>⟨g,0,rfl,fun i hi=>?_⟩,hle⟩;(have h3:cur.toList[i]? =some (kH l[i]):=by have:=congrArg (·[i]?) htake;simp only[Nat.mul_one,List.getElem?_take,if_pos hi]at this;rw[this];simp[aD,hi]);simp only[World.cell?,Nat.zero_add,hh];simpa using h3
theorem Own.lit(U:TypeId)(w:World)(B:Nat)(l:List UInt8)(hB:B<=w.heap.size)(hl:l.length<=maxLen):Own U (w.alloc (.cells (aD l).toArray U)) B (.slice (some w.heap.size) l.length l.length) l:=by have:=World.ownsRow_lit (base:=B) (e:=U) (size:=1) w (aD l).toArray l.length hB hl (by simp);exact this
theorem gU{P:Program}{w:World}{ops:Array Oper}{rest:List Oper}{o:Oper}{a:Act}{Q:Exit->Act->World->Prop}(hgd:o.guard=none)(s x:Operand)(t:TypeId)
 (ho:o.op= .call { callee:= .builtin .append,args:= #[s,x],argTypes:= #[t,t] }) (B:Nat) (U:TypeId) (ht:P.underlying t=some (.slice U)) (hinfo:(P.info? U).map (fun i=>(i.zero,i.size,i.bytes))=some (some (.int .u8 0),1,1))
 (v:Value) (xs:List UInt8) (hs:a.eval s=v) (hown:Own U w B v xs) (A:Option Addr) (m c:Nat) (l:List UInt8) (hx:a.eval x= .slice A m c) (hl:l.length=m) (hb:BL w A l)
 (hsz:xs.length+m<=140737488355328) (hB:B<=w.heap.size)
 (h:∀v' w',Hid (Own U w' B v' (xs++l))->w.grownBy w' v.ownBlock->(v'.ownBlock=v.ownBlock\/v'.ownBlock=some w.heap.size)->wpList P ops Q rest (a.put o.dst v') w'):wpList P ops Q (o::rest) a w:=by
 subst hl;obtain⟨i,hi,hz,hs1,hb1⟩:=info_parts hinfo;refine wpList_plain hgd fun K hK=>?_
 obtain⟨v',w',hrun,h2,h3,h4⟩:∃v' w',(Builtin.append_ #[t,t] o.type #[v,.slice A l.length c]).run P w= .ok v' w'/\w'.ownsRow B U 1 v' (xs.length+l.length) (aD xs++aD l)/\w.grownBy w' v.ownBlock/\(v'.ownBlock=v.ownBlock\/v'.ownBlock=some w.heap.size):=by
  cases A with
  |none=>
   have h0:l=[]:=by
    cases l with
    |nil=>rfl
    |cons y l=>obtain⟨_,_,e,_⟩:=hb (by simp);cases e
   subst h0;refine⟨v,w,?_,by simpa[aD,Own]using hown,World.grownBy.refl w _,.inl rfl⟩;rcases hown.2 with⟨rfl,_⟩|⟨g,cap,cur,rfl,_,_,hnc,_⟩
   . simp[Builtin.append_,run_underlying ht,sizeOf,typeInfo,hi,Builtin.lenOf,Builtin.firstCells]
   . simp[Builtin.append_,run_underlying ht,sizeOf,typeInfo,hi,Builtin.lenOf,Builtin.firstCells,hnc,storeCells]
  |some ad=>
   obtain⟨v',w',h1,h2,h3,_,h5⟩:=run_append_own_at (P:=P) w B t o.type U i (.int .u8 0) 1 1 ht hi hz hs1 hb1 rfl (by decide) v xs.length (aD xs) hown ad l.length c (aD l) (by simp) (fun j u hj=>by
    have hjl:j<l.length:=by
     rcases Nat.lt_or_ge j l.length with h'|h'
     . exact h'
     . rw[List.getElem?_eq_none (by simpa using h')]at hj;cases hj
    obtain⟨b,o,e,hc⟩:=hb (by omega);obtain rfl:ad=⟨b,o,none⟩:=(by simpa using e);have hv:u=kH l[j]:=(by simpa[aD,hjl]using hj.symm);rw[hv,<-hc j hjl]
    by_cases h0:j=0<;>simp[Addr.add,h0]) (nu l) (by unfold maxLen;omega) (by omega) hB
   exact⟨v',w',h1,h2,h3,h5⟩
 unfold Oper.wp execOp;simp only[ho,resolve,invoke,builtin,Sem.run_bind,Sem.run_pure,Result.andThen_ok,List.map_toArray,List.map_cons,List.map_nil,hs,hx,hrun];refine hK _ _ (h v' w' ?_ h3 h4);show w'.ownsRow B U 1 v' (xs++l).length (aD (xs++l));rw[List.length_append,show aD (xs++l)=aD xs++aD l by simp[aD]];exact h2
theorem Row.new(U:TypeId)(w:World)(l:List UInt8):Row U (w.alloc (.cells (aD l).toArray U)) w.heap.size l:=heap_alloc_new w _
theorem BL.alloc{w:World}{p:Option Addr}{l:List UInt8}(h:BL w p l)(o:Obj):BL (w.alloc o) p l:=h.below (bAx)
end Go.Proofs.YtmcbidhpkpmalaaGreatDoor.Mem
namespace Go.Proofs.YtmcbidhpkpmalaaGreatDoor
open Go.RowKit
namespace Mem
section
variable{α:Type}{K:Kind α}{w w':World}{B c:Nat}{A:Option Addr}{L:List α}
def RC(K:Kind α)(w:World)(A:Option Addr)(c:Nat)(L:List α):Prop:=RdK K w A L/\L.length<=c
theorem RC.kept(h:RC K w A c L)(hb:Bw w w'):RC K w' A c L:=⟨h.1.kept hb,h.2⟩
theorem RC.nil(w:World)(A:Option Addr)(c:Nat):RC K w A c []:=⟨RdK.nil w A,Nat.zero_le _⟩
theorem VK.rc(h:VK K w B A c L):RC K w A c L:=by
 refine⟨h.rd,?_⟩;rcases h.2 with⟨_,h1⟩|⟨g,cap,cur,h1,_,_,hn,_⟩
 . omega
 . obtain⟨_,rfl⟩:A=some ⟨g,0,none⟩/\c=cap:=by simpa using h1
   exact hn
def yU(k:Nat)(A:Option Addr)(c n:Nat):Option Addr:=if c=n then A else A.map (·.add (n*k))
theorem RC.cut(h:RC K w A c L)(n:Nat):RC K w (yU K.k A c n) (c-n) (L.drop n):=by refine⟨?_,by rw[List.length_drop];have:=h.2;omega⟩;rcases Nat.lt_or_ge n L.length with hk|hk;(. obtain⟨b,o,e,hd⟩:=h.1.drop hk;subst e;have hc:=h.2;unfold yU;rw[if_neg (by omega)];have:(⟨b,o,none⟩:Addr).add (n*K.k)=⟨b,o+n*K.k,none⟩:=(by by_cases h0:n*K.k=0<;>simp[Addr.add,h0]);rw[Option.map_some,this];exact hd);. rw[List.drop_eq_nil_of_le hk];exact RdK.nil _ _
theorem RC.upTo(h:RC K w A c L)(n:Nat):RC K w A c (L.take n):=
 ⟨h.1.take n,by rw[List.length_take];have:=h.2;omega⟩
end
section
variable{P:Program}{t e:TypeId}{z:Value}{k by_:Nat}
theorem Gs(ht:P.underlying t=some (.slice e))(hinfo:(P.info? e).map (fun i=>(i.zero,i.size,i.bytes))=some (some z,k,by_))(A:Option Addr)(n c m:Nat)(hk:m<=n)(w:World):
 (Instr.slice t (.slice A n c) (some (.int .i64 (m:Int))) none none).run P w= .ok (.slice (yU k A c m) (n-m) (c-m)) w:=by
 obtain⟨i,hi,-,hs,-⟩:=info_parts hinfo;have he:P.elem t=e:=by simp[Program.elem,ht]
 rw[run_slice_l w t A n c (by rw[he];exact ht) .i64 (m:Int) (by omega) (by omega),he];simp[sizeOf,typeInfo,hi,hs,sliced,yU,Result.andThen]
theorem Cj(ht:P.underlying t=some (.slice e))(hinfo:(P.info? e).map (fun i=>(i.zero,i.size,i.bytes))=some (some z,k,by_))(A:Option Addr)(n c m:Nat)(hk:m<=c)(w:World):
 (Instr.slice t (.slice A n c) none (some (.int .i64 (m:Int))) none).run P w= .ok (.slice A m c) w:=by
 obtain⟨i,hi,-,hs,-⟩:=info_parts hinfo;exact sQ ht hi A n c m hk w
end
end Mem
end Go.Proofs.YtmcbidhpkpmalaaGreatDoor
namespace Go.Proofs.YtmcbidhpkpmalaaGreatDoor
open Go.RowKit
abbrev CB(f:FuncId)(a:Array Value)(w:World)(v:Value):Prop:=Calls Tryz.prog f a w fun e w'=>e= .returned v/\Below w.heap.size w w'
abbrev CW(f:FuncId)(a:Array Value)(w:World)(v:Value):Prop:=Calls Tryz.prog f a w fun e w'=>e= .returned v/\w=w'
end Go.Proofs.YtmcbidhpkpmalaaGreatDoor
namespace Go.Proofs.YtmcbidhpkpmalaaGreatDoor
open Go.RowKit
namespace No
structure Cfg where
 blocks:Int
 bytes:Int
 frames:Int
 fan:Int
 buffer:Int
 leaf:Int
 key:Int
 val:Int
def bC(c:Cfg):Array Value:= #[.int .i64 c.blocks,.int .i64 c.bytes,.int .i64 c.frames,.int .i64 c.fan,.int .i64 c.buffer,.int .i64 c.leaf,.int .i64 c.key,.int .i64 c.val]
end No
end Go.Proofs.YtmcbidhpkpmalaaGreatDoor
namespace Go.Proofs.YtmcbidhpkpmalaaGreatDoor.Args
open Go.RowKit Go.WideShapes Go.ChangeShapes Go.Deep
section
variable{H:Type}{enc:TypeId × Value->H}{P:Program}{W:World}
theorem plain_of_cell{a:Addr}{i:Nat}{v:Value}(h:W.cell? (a.add i)=some v)(h0:i=0):a.spot=none:=by subst h0;simpa[Addr.add]using World.cell?_spot h
theorem JJ{P:Program}:∀{ts:List TypeId} {ds:List (DataW H)} {j:Nat} {t:TypeId} {d:DataW H},ts[j]? =some t->ds[j]? =some d->∀n∈d.weights P t,n∈DataW.weightsEach P ts ds
 |[],_,j,_,_,h,_,_,_=>by simp at h
 |_::_,[],j,_,_,_,h,_,_=>by simp at h
 |t0::ts,d0::ds,0,t,d,h1,h2,n,hn=>by (obtain rfl:t0=t:=by simpa using h1);(obtain rfl:d0=d:=by simpa using h2);simp only[DataW.weightsEach,List.mem_append];exact .inl hn
 |t0::ts,d0::ds,j+1,t,d,h1,h2,n,hn=>by simp only[DataW.weightsEach,List.mem_append];exact .inr (JJ (j:=j) (by simpa using h1) (by simpa using h2) n hn)
theorem MZ{P:Program}{e:TypeId}:∀{ds:List (DataW H)} {d:DataW H},d∈ds->∀n∈d.weights P e,n∈DataW.weightsAll P e ds
 |_::ds,d,hd,n,hn=>by simp only[DataW.weightsAll,List.mem_append];rcases List.mem_cons.1 hd with rfl|hd;(. exact .inl hn);. exact .inr (MZ hd n hn)
theorem kL{t e:TypeId}{fs:Array Field}(ht:P.underlying t=some (.slice e))(he:P.underlying e=some (.struct fs))(hone:oneCellFields P fs=true)(hC:P.cellsOf e=fs.size)(hpos:0<fs.size)
 {v:Value} {d:DataW H} {p:List MemPlace} {fuel:Nat} (hf:DataW.trod enc P W 0 (fun _=>true) true fuel t [v]=some (d,p)):
 ∃(A:Option Addr) (len c:Nat),v= .slice A len c/\len<=c/\c<=maxLen/\
  (0<len->∃b o,A=some ⟨b,o,none⟩/\∀i,i<len->∀(j:Nat) (f:Field),fs[j]? =some f->∃(u:Value) (y:DataW H × List MemPlace) (n:Nat),W.cell? ⟨b,o+(i*fs.size+j),none⟩=some u/\DataW.trod enc P W 0 (fun _=>true) true n f.type [u]=some y/\∀k∈y.1.weights P f.type,k∈d.weights P t):=by
 rcases open_slice ht hf with⟨hcs,_⟩|⟨a,len,cap,m,n,D,Pl,hcs,_,hl,hm,hmm,hx,hi⟩
 . obtain rfl:v=_:=by simpa using hcs
   exact⟨none,0,0,rfl,Nat.le_refl _,Nat.zero_le _,fun h=>absurd h (Nat.lt_irrefl 0)⟩
 . obtain rfl:v=_:=by simpa using hcs
   simp only[if_true]at hmm;simp only[Prod.mk.injEq]at hx
   have each:∀i,i<len->∀(j:Nat) (f:Field),fs[j]? =some f->∃(u:Value) (y:DataW H × List MemPlace) (n:Nat),W.cell? (a.add (i*fs.size+j))=some u/\DataW.trod enc P W 0 (fun _=>true) true n f.type [u]=some y/\∀k∈y.1.weights P f.type,k∈d.weights P t:=by
    intro i hil j f hj;obtain⟨cs',hc,ht'⟩:=hi i (by omega);rw[hC]at hc;obtain⟨ys,n',_,hD,hlen,hyl,hfl⟩:=DataW.trod_struct he ht';obtain⟨_,hcl,hat⟩:=World.cells?_some hc;obtain⟨ho,hk⟩:=hone_of hone j f hj;have hjl:j<fs.size:=(Array.getElem?_eq_some_iff.1 hj).1;have hcell:=hat j hjl;have h1:=hfl j f hj;rw[ho,hk]at h1;have hu:(cs'.drop j).take 1=[cs'[j]'(by omega)]:=(by rw[List.drop_eq_getElem_cons (by omega)];rfl);rw[hu,List.getElem?_eq_getElem (show j<ys.length by omega)]at h1;refine⟨cs'[j]'(by omega),_,n',?_,h1,fun k hk=>?_⟩
    . rw[<-Go.Deep.add_add,hcell]
      exact List.getElem?_eq_getElem (by omega)
    . rw[hx.1]
      simp only[DataW.weights,ht,List.mem_cons,List.mem_append];refine .inr (.inl (MZ (d:=D i) (List.mem_map.2 ⟨i,by simpa using hil,rfl⟩) k ?_));simp only[Prod.mk.injEq]at hD;rw[hD.1];simp only[DataW.weights,he];refine JJ (j:=j) (t:=f.type) (d:=(ys[j]'(by omega)).1) ?_ ?_ k hk
      . rw[List.getElem?_map,Array.getElem?_toList,hj];rfl
      . rw[List.getElem?_map,List.getElem?_eq_getElem (show j<ys.length by omega)];rfl
   refine⟨some a,len,cap,rfl,hl,hm,fun hp=>?_⟩;obtain⟨b,o,sp⟩:=a
   have hsp:sp=none:=by
    obtain⟨u,_,_,hu,_,_⟩:=each 0 hp 0 (fs[0]'hpos) (Array.getElem?_eq_getElem hpos);exact plain_of_cell hu (by simp)
   subst hsp;refine⟨b,o,rfl,fun i hil j f hj=>?_⟩;obtain⟨u,y,n,h1,h2,h3⟩:=each i hil j f hj;refine⟨u,y,n,?_,h2,h3⟩;have e:(⟨b,o,none⟩:Addr).add (i*fs.size+j)=⟨b,o+(i*fs.size+j),none⟩:=(by unfold Addr.add;split<;>simp_all);rw[<-e];exact h1
end
end Go.Proofs.YtmcbidhpkpmalaaGreatDoor.Args
namespace Go.Proofs.YtmcbidhpkpmalaaGreatDoor.Args
open Go.RowKit Go.WideShapes Go.ChangeShapes Mem
section
variable{H:Type}{enc:TypeId × Value->H}{P:Program}{W:World}
theorem Ck{x:Int}(h:(Lit.int .u8 x).wf=true):∃n:Nat,x=n/\n<256:=by have h1:IntKind.u8.min=0:=rfl;have h2:IntKind.u8.max=255:=rfl;simp only[Lit.wf,Bool.and_eq_true,decide_eq_true_eq]at h;exact⟨x.toNat,by omega,by omega⟩
end
end Go.Proofs.YtmcbidhpkpmalaaGreatDoor.Args
namespace Go.Proofs.YtmcbidhpkpmalaaGreatDoor.Mem
open Go.RowKit
section
variable{U:TypeId}{w w':World}{B c:Nat}{A:Option Addr}{l:List Int}
end
end Go.Proofs.YtmcbidhpkpmalaaGreatDoor.Mem
namespace Go.Proofs.YtmcbidhpkpmalaaGreatDoor
open List (mem_append mem_cons mem_cons_of_mem nodup_append nodup_cons)
namespace Cn
def upd(f:Nat->Nat)(k v:Nat):Nat->Nat:=fun x=>if x=k then v else f x
theorem upd_same(f:Nat->Nat)(k v:Nat):upd f k v k=v:=by simp[upd]
theorem aP(f:Nat->Nat){k x:Nat}(v:Nat)(h:x≠k):upd f k v x=f x:=by simp[upd,h]
def lst:Nat->List Nat->Nat
 |x,[]=>x
 |_,y::r=>lst y r
def hd:List Nat->Nat->Nat
 |[],z=>z
 |y::_,_=>y
def Lk(A B:Nat->Nat):Nat->List Nat->Nat->Prop
 |x,[],z=>B x=z/\A z=x
 |x,y::r,z=>B x=y/\A y=x/\Lk A B y r z
def Pre(A B:Nat->Nat):Nat->List Nat->Prop
 |_,[]=>True
 |x,y::r=>B x=y/\A y=x/\Pre A B y r
def Tail(A B:Nat->Nat):List Nat->Nat->Prop
 |[],_=>True
 |y::r,z=>Lk A B y r z
theorem kR:∀(x:Nat) (l:List Nat),lst x l∈x::l
 |x,[]=>by simp[lst]
 |x,y::r=>by have:=kR y r;simp only[lst];exact mem_cons_of_mem _ this
theorem rT:∀(l:List Nat) (z:Nat),hd l z=z\/hd l z∈l
 |[],z=> .inl rfl
 |y::r,z=> .inr (by simp[hd])
theorem fU{A B:Nat->Nat}:∀{x:Nat} {l1 l2:List Nat} {z:Nat},Lk A B x (l1++l2) z↔Pre A B x l1/\B (lst x l1)=hd l2 z/\A (hd l2 z)=lst x l1/\Tail A B l2 z
 |x,[],[],z=>by simp[Lk,Pre,lst,hd,Tail]
 |x,[],y::r,z=>by simp[Lk,Pre,lst,hd,Tail]
 |x,u::l1,l2,z=>by have:= @fU A B u l1 l2 z;simp only[List.cons_append,Lk,Pre,lst,this,and_assoc]
theorem tail_cons{A B:Nat->Nat}{i z:Nat}{l:List Nat}:Tail A B (i::l) z↔B i=hd l z/\A (hd l z)=i/\Tail A B l z:=by have:= @fU A B i [] l z;simpa[Pre,lst,Tail]using this
theorem pG{A B A' B':Nat->Nat}:∀{x:Nat} {l:List Nat},(x::l).Nodup->(∀y∈x::l,y≠lst x l->B' y=B y)->(∀y∈l,A' y=A y)->Pre A B x l->Pre A' B' x l
 |x,[],_,_,_,_=>trivial
 |x,y::r,hn,hB,hA,⟨h1,h2,h3⟩=>by (have hx:x≠lst y r:=by have h:=kR y r;rw[nodup_cons]at hn;rintro rfl;exact hn.1 h);refine⟨by rw[hB x (by simp) hx,h1],by rw[hA y (by simp),h2],pG (nodup_cons.1 hn).2 (fun u hu hne=>hB u (mem_cons_of_mem _ hu) hne) (fun u hu=>hA u (mem_cons_of_mem _ hu)) h3⟩
theorem yV{A B A' B':Nat->Nat}:∀{x:Nat} {l:List Nat} {z:Nat},(∀y∈x::l,B' y=B y)->(∀y∈l,A' y=A y)->A' z=A z->Lk A B x l z->Lk A' B' x l z
 |x,[],z,hB,_,hz,⟨h1,h2⟩=>⟨by rw[hB x (by simp),h1],by rw[hz,h2]⟩
 |x,y::r,z,hB,hA,hz,⟨h1,h2,h3⟩=>⟨by rw[hB x (by simp),h1],by rw[hA y (by simp),h2],yV (fun u hu=>hB u (mem_cons_of_mem _ hu)) (fun u hu=>hA u (mem_cons_of_mem _ hu)) hz h3⟩
theorem rU{A B A' B':Nat->Nat}{l:List Nat}{z:Nat}(hd':(l++[z]).Nodup)(hB:∀y∈l,B' y=B y)(hA:∀y,y∈l\/y=z->y≠hd l z->A' y=A y)(h:Tail A B l z):Tail A' B' l z:=by cases l with|nil=>trivial|cons y r=>have hn:=hd';simp only[List.cons_append,nodup_cons,mem_append,List.mem_singleton,not_or]at hn;refine yV (A:=A) (B:=B) hB (fun u hu=>hA u (.inl (mem_cons_of_mem _ hu)) ?_) (hA z (.inr rfl) ?_) h;(. rintro rfl;exact hn.1.1 hu);. rintro rfl;exact hn.1.2 rfl
structure Ring(n:Nat)(A B:Nat->Nat)(l:List Nat):Prop where
 lt:∀x∈l,x<n
 nd:l.Nodup
 lk:Lk A B n l n
 out:∀x,x<n->x∉l->B x=x
section
variable{n:Nat}{A B:Nat->Nat}{l l1 l2:List Nat}{i:Nat}
theorem Ring.M4(h:Ring n A B l):n∉l:=fun hn=>Nat.lt_irrefl _ (h.lt n hn)
theorem Ring.next(h:Ring n A B (l1++i::l2)):B i=hd l2 n/\A (hd l2 n)=i/\A i=lst n l1/\B (lst n l1)=i:=by obtain⟨_,h1,h2,h3⟩:=fU.1 h.lk;obtain⟨h4,h5,_⟩:=tail_cons.1 h3;exact⟨h4,h5,h2,h1⟩
theorem Ring.ends(h:Ring n A B l):B n=hd l n/\A n=lst n l:=by have h1:=fU (l1:=[]).1 h.lk;have h2:=(fU (l1:=l) (l2:=[])).1 (by simpa using h.lk);exact⟨h1.2.1,h2.2.2.1⟩
theorem M5(h:∀x∈l,x<n):hd l n<=n:=by rcases rT l n with h1|h1;(. omega);. have:=h _ h1;omega
theorem JK(h:∀x∈l,x<n):lst n l<=n:=by have h1:=kR n l;rcases mem_cons.1 h1 with h1|h1;(. omega);. have:=h _ h1;omega
theorem Ring.has(h:Ring n A B l)(hi:i<n):(B i≠i)=(i∈l):=by by_cases hm:i∈l;(. refine propext ⟨fun _=>hm,fun _=>?_⟩;obtain⟨l1,l2,rfl⟩:=List.append_of_mem hm;rw[h.next.1];have hn:=h.nd;simp only[nodup_append,nodup_cons]at hn;rcases rT l2 n with h1|h1;(. omega);. rintro h2;rw[h2]at h1;exact hn.2.1.1 h1);. exact propext ⟨fun hh=>absurd (h.out i hi hm) hh,fun hh=>absurd hh hm⟩
theorem pI(h:Ring n A B (l1++i::l2)):i∉l1/\i∉l2/\(∀x∈l1,x∉l2)/\l1.Nodup/\l2.Nodup/\n∉l1/\n∉l2/\i<n:=by have hn:=h.nd;have hx:=h.M4;have hi:=h.lt i (by simp);simp only[nodup_append,nodup_cons,mem_cons]at hn;simp only[mem_append,mem_cons,not_or]at hx;obtain⟨a1,⟨a2,a3⟩,a4⟩:=hn;refine⟨fun hh=>(a4 i hh i (.inl rfl)) rfl,a2,fun x hx1 hx2=>a4 x hx1 x (.inr hx2) rfl,a1,a3,hx.1,hx.2.2,hi⟩
theorem Ring.loosen(h:Ring n A B (l1++i::l2)):Ring n (upd (upd A (B i) (A i)) i i) (upd (upd B (A i) (B i)) i i) (l1++l2):=by obtain⟨e1,e2,e3,e4⟩:=h.next;obtain⟨f1,f2,f3,f4,f5,f6,f7,f8⟩:=pI h;obtain⟨h1,_,_,h2⟩:=fU.1 h.lk;obtain⟨_,_,h3⟩:=tail_cons.1 h2;have hp:=kR n l1;have hq:=rT l2 n;rw[e1,e3];(have hpi:lst n l1≠i:=by rintro he;rw[he]at hp;rcases mem_cons.1 hp with hp|hp;(. omega);. exact f1 hp);(have hqi:hd l2 n≠i:=by rintro he;rw[he]at hq;rcases hq with hq|hq;(. omega);. exact f2 hq);refine⟨fun x hx=>h.lt x (by simp at hx ⊢;rcases hx with hx|hx<;>simp[hx]),?_,?_,?_⟩;(. exact nodup_append.2 ⟨f4,f5,fun x hx y hy he=>f3 x hx (he▸hy)⟩);(. refine fU.2 ⟨pG (nodup_cons.2 ⟨f6,f4⟩) (fun y hy hne=>?_) (fun y hy=>?_) h1,?_,?_,rU ?_ (fun y hy=>?_) (fun y hy hne=>?_) h3⟩;(. (have hyi:y≠i:=by rintro rfl;rcases mem_cons.1 hy with hy|hy;(. omega);. exact f1 hy);rw[aP _ _ hyi,aP _ _ hne]);(. (have hyi:y≠i:=by rintro rfl;exact f1 hy);(have hyq:y≠hd l2 n:=by rintro he;rcases hq with hq|hq;(. rw[he,hq]at hy;exact f6 hy);. exact f3 y hy (he▸hq));rw[aP _ _ hyi,aP _ _ hyq]);(. rw[aP _ _ hpi,upd_same]);(. rw[aP _ _ hqi,upd_same]);(. exact nodup_append.2 ⟨f5,by simp,fun x hx y hy he=>by simp at hy;subst hy he;exact f7 hx⟩);(. (have hyi:y≠i:=by rintro rfl;exact f2 hy);(have hyp:y≠lst n l1:=by rintro he;rw[<-he]at hp;rcases mem_cons.1 hp with hp|hp;(. subst hp;exact f7 hy);. exact f3 y hp hy);rw[aP _ _ hyi,aP _ _ hyp]);. (have hyi:y≠i:=by rintro rfl;rcases hy with hy|hy;(. exact f2 hy);. omega);rw[aP _ _ hyi,aP _ _ hne]);. intro x hx hm;by_cases hxi:x=i;(. subst hxi;exact upd_same _ _ _);. (have hxp:x≠lst n l1:=by rintro he;rw[<-he]at hp;rcases mem_cons.1 hp with hp|hp;(. omega);. exact hm (List.mem_append_left _ hp));rw[aP _ _ hxi,aP _ _ hxp];refine h.out x hx fun hh=>hm ?_;simp only[mem_append,mem_cons]at hh ⊢;rcases hh with hh|hh|hh;(. exact .inl hh);(. exact absurd hh hxi);. exact .inr hh
theorem Ring.join(h:Ring n A B (l1++l2))(hi:i<n)(hm:i∉l1++l2){a b:Nat}(ha:a=lst n l1)(hb:b=B a):Ring n (upd (upd A i a) b i) (upd (upd B i b) a i) (l1++i::l2):=by obtain⟨h1,h2,h3,h4⟩:=fU.1 h.lk;rw[<-ha]at h2 h3;rw[<-hb]at h2;subst h2;have hp:=kR n l1;have hq:=rT l2 n;rw[<-ha]at hp;have hn:=h.nd;have hx:=h.M4;have hm':=hm;simp only[mem_append,not_or]at hm' hx;obtain⟨g1,g2⟩:=hm';obtain⟨k1,k2⟩:=hx;obtain⟨f4,f5,f3⟩:=nodup_append.1 hn;(have hai:i≠a:=by rintro rfl;rcases mem_cons.1 hp with hp|hp;(. omega);. exact g1 hp);(have hbi:i≠hd l2 n:=by rintro he;rcases hq with hq|hq;(. omega);. rw[<-he]at hq;exact g2 hq);refine⟨fun x hx=>?_,?_,?_,?_⟩;(. simp only[mem_append,mem_cons]at hx;rcases hx with hx|hx|hx;(. exact h.lt x (List.mem_append_left _ hx));(. omega);. exact h.lt x (List.mem_append_right _ hx));(. refine nodup_append.2 ⟨f4,nodup_cons.2 ⟨g2,f5⟩,fun x hx y hy he=>?_⟩;subst he;rcases mem_cons.1 hy with hy|hy;(. subst hy;exact g1 hx);. exact f3 x hx x hy rfl);(. refine fU.2 ⟨pG (nodup_cons.2 ⟨k1,f4⟩) (fun y hy hne=>?_) (fun y hy=>?_) h1,?_,?_,tail_cons.2 ⟨?_,?_,rU ?_ (fun y hy=>?_) (fun y hy hne=>?_) h4⟩⟩;(. (have hyi:y≠i:=by rintro rfl;rcases mem_cons.1 hy with hy|hy;(. omega);. exact g1 hy);rw[<-ha]at hne;rw[aP _ _ hne,aP _ _ hyi]);(. (have hyi:y≠i:=by rintro rfl;exact g1 hy);(have hyq:y≠hd l2 n:=by rintro he;rcases hq with hq|hq;(. rw[he,hq]at hy;exact k1 hy);. exact f3 y hy y (he▸hq) rfl);rw[aP _ _ hyq,aP _ _ hyi]);(. rw[<-ha];exact upd_same _ _ _);(. show upd (upd A i a) (hd l2 n) i i=_;rw[aP _ _ hbi,upd_same,ha]);(. rw[aP _ _ hai,upd_same]);(. exact upd_same _ _ _);(. exact nodup_append.2 ⟨f5,by simp,fun x hx y hy he=>by simp at hy;subst hy he;exact k2 hx⟩);(. (have hyi:y≠i:=by rintro rfl;exact g2 hy);(have hyp:y≠a:=by rintro he;rw[<-he]at hp;rcases mem_cons.1 hp with hp|hp;(. subst hp;exact k2 hy);. exact f3 y hp y hy rfl);rw[aP _ _ hyp,aP _ _ hyi]);. (have hyi:y≠i:=by rintro rfl;rcases hy with hy|hy;(. exact g2 hy);. omega);rw[aP _ _ hne,aP _ _ hyi]);. intro x hx hm2;simp only[mem_append,mem_cons,not_or]at hm2;(have hxa:x≠a:=by rintro rfl;rcases mem_cons.1 hp with hp|hp;(. omega);. exact hm2.1 hp);rw[aP _ _ hxa,aP _ _ hm2.2.1];exact h.out x hx (by simp[hm2])
theorem Ring.front(h:Ring n A B l)(hi:i<n)(hm:i∉l){b:Nat}(hb:b=B n):Ring n (upd (upd A i n) b i) (upd (upd B i b) n i) (i::l):=
 Ring.join (l1:=[]) (l2:=l) h hi hm rfl hb
theorem Ring.back(h:Ring n A B l)(hi:i<n)(hm:i∉l){a b:Nat}(ha:a=A n)(hb:b=B a):Ring n (upd (upd A i a) b i) (upd (upd B i b) a i) (l++[i]):=
 Ring.join (l1:=l) (l2:=[]) (by simpa using h) hi (by simpa using hm) (ha.trans h.ends.2) hb
def del(l:List Nat)(i:Nat):List Nat:=l.filter (· != i)
theorem lM(h:i∉l):del l i=l:=List.filter_eq_self.2 fun x hx=>by
 have:x≠i:=by rintro rfl;exact h hx
 simpa using this
theorem Cm(h1:i∉l1)(h2:i∉l2):del (l1++i::l2) i=l1++l2:=by unfold del;rw[List.filter_append,List.filter_cons_of_neg (by simp)];exact congr (congrArg _ (lM h1)) (lM h2)
theorem gV(l:List Nat)(i:Nat):i∉del l i:=by simp[del]
theorem pJ:∀(n:Nat) (l:List Nat),l.Nodup->(∀x∈l,x<n)->l.length<=n
 |0,l,_,h=>by cases l with|nil=>exact Nat.le_refl _|cons x r=>exact absurd (h x (by simp)) (by omega)
 |n+1,l,hn,h=>by by_cases hm:n∈l;(. obtain⟨l1,l2,rfl⟩:=List.append_of_mem hm;simp only[nodup_append,nodup_cons,mem_cons]at hn;obtain⟨a1,⟨a2,a3⟩,a4⟩:=hn;have:=pJ n (l1++l2) (nodup_append.2 ⟨a1,a3,fun x hx y hy he=>a4 x hx y (.inr hy) he⟩) (fun x hx=>by have h1:=h x (by simp at hx ⊢;rcases hx with hx|hx<;>simp[hx]);(have h2:x≠n:=by rintro rfl;rcases mem_append.1 hx with hx|hx;(. exact a4 x hx x (.inl rfl) rfl);. exact a2 hx);omega);simp at this ⊢;omega);. have:=pJ n l hn (fun x hx=>by (have h1:=h x hx;have h2:x≠n:=by rintro rfl;exact hm hx);omega);omega
theorem Ring.yX(h:Ring n A B l):l.length<=n:=pJ n l h.nd h.lt
end
end Cn
end Go.Proofs.YtmcbidhpkpmalaaGreatDoor
