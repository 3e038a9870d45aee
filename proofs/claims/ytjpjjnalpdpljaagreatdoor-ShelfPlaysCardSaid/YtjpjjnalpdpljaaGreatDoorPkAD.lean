import Derived.Test.YtjpjjnalpdpljaaGreatDoorPkAB
import Derived.Lib.AppendStr
import Derived.Lib.AppendZeros
import Derived.Test.YtjpjjnalpdpljaaGreatDoorPkAA
import Derived.Test.YtjpjjnalpdpljaaGreatDoorProg
import Derived.WalkKit
import Derived.WalkLawsBesides
import Derived.KernelRfl
import Derived.Lib.Hide
import Derived.ProofKit
import Derived.Deep.Slices
import Derived.Deep.Fields
import Derived.ChangeSame
import Derived.Lib.SmallJoins
import Derived.SizedLaws
import Derived.Lib.QuietBelow
import Derived.StillTail
namespace Go.Proofs.YtjpjjnalpdpljaaGreatDoor
open Go.RowKit
open List (length replicate)
namespace Mem
structure Kp (T1 T2:TypeId) (B:Nat) (w w':World):Prop where
 below:Below B w w'
 block:∀(b:Nat) (C:Array Value) (T:TypeId) (f:Nat × Nat),w.heap[b]? =some (Obj.cells C T f)->T≠T1->T≠T2->w'.heap[b]? =some (Obj.cells C T f)
section
variable {T1 T2:TypeId} {B:Nat} {w w' w2:World}
theorem Kp.refl (T1 T2:TypeId) (B:Nat) (w:World):Kp T1 T2 B w w:=⟨Below.refl _ _,fun _ _ _ _ h _ _=>h⟩
theorem Kp.trans (h:Kp T1 T2 B w w') (k:Kp T1 T2 B w' w2):Kp T1 T2 B w w2:=⟨h.below.trans k.below,fun b C T f hb h1 h2=>k.block b C T f (h.block b C T f hb h1 h2) h1 h2⟩
theorem Kp.of_below (h:Bw w w') (hB:B<=w.heap.size):Kp T1 T2 B w w':=⟨h.mono hB,fun b _ _ _ hb _ _=>(h.block b (Array.getElem?_eq_some_iff.1 hb).1).trans hb⟩
theorem Kp.set (h:Kp T1 T2 B w w') {g i:Nat} {C:Array Value} {T:TypeId} {f:Nat × Nat} (hg:B<=g) (hx:w'.heap[g]? =some (.cells C T f)) (hT:T=T1\/T=T2) (v:Value):Kp T1 T2 B w (w'.setCell ⟨g,i,none⟩ v):=by
 refine ⟨h.below.setCell hg _,fun b C' T' f' hb h1 h2=>?_⟩;have h3:=h.block b C' T' f' hb h1 h2;by_cases e:b=g
 . subst e
   rw [hx] at h3;simp only [Option.some.injEq,Obj.cells.injEq] at h3;obtain ⟨-,rfl,-⟩:=h3;rcases hT with hT|hT
   . exact absurd hT h1
   . exact absurd hT h2
 . rw [<-h3]
   exact Below.heap_setCell _ _ _ _ e
theorem Kp.mono {B':Nat} (h:Kp T1 T2 B w w') (hB:B'<=B):Kp T1 T2 B' w w':=⟨h.below.mono hB,h.block⟩
theorem Kp.box (h:Kp T1 T2 B w w') {b:Nat} {C:Array Value} {T:TypeId} {f:Nat × Nat} (hb:w.heap[b]? =some (.cells C T f)) (h1:T≠T1) (h2:T≠T2):w'.heap[b]? =some (.cells C T f):=h.block b C T f hb h1 h2
end
section
variable {U:TypeId} {B:Nat} {w w':World} {v:Value} {l:List UInt8}
theorem Own.row (h:Own U w B v l):∀k,v.ownBlock=some k->B<=k/\∃C,w.heap[k]? =some (.cells C U (0,0)):=by
 intro k hk;rcases h.2 with ⟨rfl,_⟩|⟨g,cap,cur,rfl,hb,hg,_⟩
 . simp [Value.ownBlock] at hk
 . simp [Value.ownBlock] at hk
   subst hk;exact ⟨hb,cur,hg⟩
theorem Own.sl (h:Own U w B v l):∃A m c,v= .slice A m c:=by
 obtain ⟨A,c,e,-,-⟩:=h.slice;exact ⟨A,_,c,e⟩
theorem Own.grown {T2:TypeId} (h:Own U w B v l) (hg:w.grownBy w' v.ownBlock) (hB:B<=w.heap.size):Kp U T2 B w w':=by
 refine ⟨⟨hg.os,hg.tape,hg.output,hg.size,fun k hk=>hg.block k (by omega) fun e=>?_⟩,fun b C T f hb h1 _=>?_⟩
 . have:=(h.row k e.symm).1
   omega
 . refine (hg.block b (Array.getElem?_eq_some_iff.1 hb).1 fun e=>?_).trans hb
   obtain ⟨-,C',h3⟩:=h.row b e.symm;rw [hb] at h3;simp only [Option.some.injEq,Obj.cells.injEq] at h3;exact h1 h3.2.1
theorem Own.keep (h:Own U w B v l) (hk:∀k,v.ownBlock=some k->w'.heap[k]? =w.heap[k]?):Own U w' B v l:=by
 refine ⟨h.1,?_⟩;rcases h.2 with hn|⟨g,cap,cur,rfl,hb,hg,hr⟩
 . exact .inl hn
 . exact .inr ⟨g,cap,cur,rfl,hb,(hk g rfl).trans hg,hr⟩
theorem Own.kept (h:Own U w B v l) (hb:Bw w w'):Own U w' B v l:=h.keep fun k hk=>by
 obtain ⟨-,C,hc⟩:=h.row k hk;exact hb.block k (Array.getElem?_eq_some_iff.1 hc).1
theorem Own.aQ (h:Own U w B v l) {g i:Nat} {C:Array Value} {T:TypeId} {f:Nat × Nat} (hx:w.heap[g]? =some (.cells C T f)) (hT:T≠U) (x:Value):Own U (w.setCell ⟨g,i,none⟩ x) B v l:=h.keep fun k hk=>by
 obtain ⟨-,C',hc⟩:=h.row k hk;refine Below.heap_setCell _ _ _ _ fun e=>?_;subst e;rw [hx] at hc;simp only [Option.some.injEq,Obj.cells.injEq] at hc;exact hT hc.2.1
end
theorem wpList_append_text {P:Program} {w:World} {ops:Array Oper} {rest:List Oper} {o:Oper} {a:Act} {Q:Exit->Act->World->Prop} (hgd:o.guard=none) (s x:Operand) (t u:TypeId)
 (ho:o.op= .call { callee:= .builtin .append,args:= #[s,x],argTypes:= #[t,u] }) (B:Nat) (U:TypeId) (ht:P.underlying t=some (.slice U)) (hu:P.underlying u=some .string) (hinfo:(P.info? U).map (fun i=>(i.zero,i.size,i.bytes))=some (some (.int .u8 0),1,1))
 (v:Value) (xs:List UInt8) (hs:a.eval s=v) (hown:Own U w B v xs) (sb:ByteArray) (hx:a.eval x= .string sb) (hsz:xs.length+sb.size<=1048576) (hB:B<=w.heap.size)
 (h:∀v' w',Hid (Own U w' B v' (xs++sb.data.toList))->w.grownBy w' v.ownBlock->wpList P ops Q rest (a.put o.dst v') w'):wpList P ops Q (o::rest) a w:=by
 obtain ⟨i,hi,hz,hs1,hb1⟩:=info_parts hinfo;refine Lib.wpList_append_own_string w hgd s x t u ho B U i ht hu hi hz hs1 hb1 v xs.length (aI xs) hs hown sb hx (by unfold maxLen;omega) (by omega) hB fun v' w' h1 h2 _=>h v' w' ?_ h2;show w'.ownsRow B U 1 v' (xs++sb.data.toList).length (aI (xs++sb.data.toList));rw [List.length_append,show aI (xs++sb.data.toList)=aI xs++aI sb.data.toList by simp [aI]];exact h1
theorem uz (k:Nat):Builtin.zeroCells (Value.int IntKind.u8 0).cells k=(replicate k (Value.int .u8 0)).toArray:=by
 have e:(Value.int IntKind.u8 0).cells= #[Value.int .u8 0]:=rfl;apply Array.ext';rw [e];simp [Builtin.zeroCells,Nat.mod_one];rw [List.eq_replicate_iff];simp
theorem qb {P:Program} (w:World) (t tn u ty e:TypeId) (i:TypeInfo) (kn:IntKind) (ht:P.underlying t=some (.slice e)) (htn:P.underlying tn=some (.int kn)) (hu:P.underlying u=some .string) (hi:P.info? e=some i) (hz:i.zero=some (.int .u8 0)) (hs1:i.size=1) (hb1:i.bytes=1)
 (A:Option Addr) (n c k:Nat) (hk:n+k<=1048576) (sb:ByteArray) (hsb:sb.data.toList=replicate k 0):
 (Builtin.append_ #[t,tn] ty #[.slice A n c,(k:Int)]).run P w=(Builtin.append_ #[t,u] ty #[.slice A n c,.string sb]).run P w:=by
 have hw:IntKind.i64.wrap (k:Int)=k:=by rw [IntKind.wrap_i64];omega
 have hneg:¬((k:Int)<0):=by omega
 have h48:¬(281474976710656<(k:Int)):=by omega
 have hsz:sb.size=k:=by
  have:=congrArg length hsb;simpa using this
 have hex:((sb.extract 0 k).data.map fun b=>Value.int .u8 b.toNat)=(replicate k (Value.int .u8 0)).toArray:=by
  apply Array.ext';simp [ByteArray.data_extract,hsb]
 have hfc:Builtin.firstCells 1 k (.string sb)=pure (replicate k (Value.int .u8 0)).toArray:=by
  simp only [Builtin.firstCells];rw [hex]
 generalize hv:(replicate k (Value.int .u8 0)).toArray=vs at*;have hzc:Builtin.zeroCells (Value.int IntKind.u8 0).cells k=vs:=by rw [uz,hv]
 by_cases h0:k=0
 . subst h0
   have hvs:vs= #[]:=(by rw [<-hv];rfl);have hw0:IntKind.i64.wrap 0=0:=rfl;subst hvs;by_cases hc:n<=c
   . simp [Builtin.append_,run_underlying ht,run_underlying htn,run_underlying hu,sizeOf,typeInfo,hi,hs1,hb1,Builtin.lenOf,asInt,asIntOf,hw0,hsz,hfc,hc]
   . have h48':¬(281474976710656<Builtin.nextslicecap n c):=by
      have:=growslice_fits (need:=n) (old:=c) (bytes:=1) (by omega) (by omega);omega
     have h63:¬(9223372036854775807<(n:Int)):=(by omega);simp [Builtin.append_,run_underlying ht,run_underlying htn,run_underlying hu,sizeOf,typeInfo,hi,hs1,hb1,Builtin.lenOf,asInt,asIntOf,hw0,hsz,hfc,hc,h48',h63]
 . by_cases hc:n+k<=c
   . simp [Builtin.append_,run_underlying ht,run_underlying htn,run_underlying hu,sizeOf,typeInfo,hi,hs1,hb1,Builtin.lenOf,asInt,asIntOf,hw,hneg,h48,hsz,hfc,hc,h0,zeroValue,hz,hzc]
   . have h48':¬(281474976710656<Builtin.nextslicecap (n+k) c):=by
      have:=growslice_fits (need:=n+k) (old:=c) (bytes:=1) (by omega) (by omega);omega
     have h63:¬(9223372036854775807<(n:Int)+(k:Int)):=(by omega);simp [Builtin.append_,run_underlying ht,run_underlying htn,run_underlying hu,sizeOf,typeInfo,hi,hs1,hb1,Builtin.lenOf,asInt,asIntOf,hw,hneg,h48,hsz,hfc,hc,h0,zeroValue,hz,hzc,h48',h63]
theorem ku {P:Program} {w:World} {ops:Array Oper} {rest:List Oper} {o:Oper} {a:Act} {Q:Exit->Act->World->Prop} (hgd:o.guard=none) (s x:Operand) (t tn u:TypeId) {kn:IntKind}
 (ho:o.op= .call { callee:= .builtin .append,args:= #[s,x],argTypes:= #[t,tn] }) (B:Nat) (U:TypeId) (ht:P.underlying t=some (.slice U)) (htn:P.underlying tn=some (.int kn)) (hu:P.underlying u=some .string) (hinfo:(P.info? U).map (fun i=>(i.zero,i.size,i.bytes))=some (some (.int .u8 0),1,1))
 (v:Value) (xs:List UInt8) (hs:a.eval s=v) (hown:Own U w B v xs) (k:Nat) (hx:a.eval x= .int .i64 (k:Int)) (hsz:xs.length+k<=1048576) (hB:B<=w.heap.size)
 (h:∀v' w',Hid (Own U w' B v' (xs++replicate k 0))->w.grownBy w' v.ownBlock->wpList P ops Q rest (a.put o.dst v') w'):wpList P ops Q (o::rest) a w:=by
 obtain ⟨i,hi,hz,hs1,hb1⟩:=info_parts hinfo;obtain ⟨A,c,rfl,-,-⟩:=hown.slice;obtain ⟨sb,hsb⟩:∃sb:ByteArray,sb.data.toList=replicate k 0:=⟨⟨(replicate k 0).toArray⟩,rfl⟩
 have hsl:sb.size=k:=by
  have:=congrArg length hsb;simpa using this
 obtain ⟨v',w',hr,h2,h3,_⟩:=Lib.run_append_own_string (P:=P) w B t u o.type U i ht hu hi hz hs1 hb1 (.slice A xs.length c) xs.length (aI xs) hown sb (by unfold maxLen;omega) (by omega) hB;rw [<-qb w t tn u o.type U i kn ht htn hu hi hz hs1 hb1 A xs.length c k hsz sb hsb] at hr;refine Lib.wpList_append_run w hgd s x t tn ho _ _ hs hx v' w' hr (h v' w' ?_ h3)
 have e:Lib.strCells sb=aI (replicate k 0):=by
  unfold Lib.strCells;rw [hsb];rfl
 rw [e,hsl] at h2;show w'.ownsRow B U 1 v' (xs++replicate k 0).length (aI (xs++replicate k 0));rw [List.length_append,List.length_replicate,show aI (xs++replicate k 0)=aI xs++aI (replicate k 0) by simp [aI]];exact h2
end Mem
end Go.Proofs.YtjpjjnalpdpljaaGreatDoor
namespace Go.Proofs.YtjpjjnalpdpljaaGreatDoor
open Go.RowKit
namespace Mem
structure Kind (α:Type) where
 T:TypeId
 k:Nat
 cs:α->List Value
 len:∀x,(cs x).length=k
 one:∀x u,u∈cs x->u.oneCell'=true
section
variable {α:Type} (K:Kind α)
theorem Kind.JQ (L:List α):∀u∈L.flatMap K.cs,u.oneCell'=true:=fun u hu=>by
 rw [List.mem_flatMap] at hu;obtain ⟨x,_,hu⟩:=hu;exact K.one x u hu
theorem Kind.Ct (L:List α):(L.flatMap K.cs).length=L.length*K.k:=by
 induction L with
 |nil=>simp
 |cons x L ih=>rw [List.flatMap_cons,List.length_append,ih,K.len,List.length_cons,Nat.succ_mul,Nat.add_comm]
theorem Kind.at_ {L:List α} {i:Nat} {x:α} (h:L[i]? =some x) {j:Nat} (hj:j<K.k):(L.flatMap K.cs)[i*K.k+j]? =(K.cs x)[j]? :=by
 induction L generalizing i with
 |nil=>simp at h
 |cons y L ih=>
  rw [List.flatMap_cons];cases i with
  |zero=>
   obtain rfl:y=x:=(by simpa using h);rw [Nat.zero_mul,Nat.zero_add,List.getElem?_append_left (by rw [K.len];exact hj)]
  |succ i=>
   have e:(i+1)*K.k+j=K.k+(i*K.k+j):=(by rw [Nat.succ_mul];omega);rw [List.getElem?_append_right (by rw [K.len,e];omega),K.len,e,Nat.add_sub_cancel_left];exact ih (by simpa using h)
def RdK (w:World) (A:Option Addr) (L:List α):Prop:=0<L.length->∃b o,A=some ⟨b,o,none⟩/\b<w.heap.size/\∀(i:Nat) (x:α),L[i]? =some x->∀(j:Nat) (u:Value),(K.cs x)[j]? =some u->w.cell? ⟨b,o+(i*K.k+j),none⟩=some u
def VK (w:World) (B:Nat) (A:Option Addr) (c:Nat) (L:List α):Prop:=w.ownsRow B K.T K.k (.slice A L.length c) L.length (L.flatMap K.cs)
variable {K} {w w':World} {B c:Nat} {A:Option Addr} {L:List α}
theorem RdK.keep (h:RdK K w A L) (hs:w.heap.size<=w'.heap.size) (hk:∀a,A=some a->w'.heap[a.block]? =w.heap[a.block]?):RdK K w' A L:=fun h0=>by
 obtain ⟨b,o,rfl,hl,hc⟩:=h h0;refine ⟨b,o,rfl,Nat.lt_of_lt_of_le hl hs,fun i x hx j u hu=>?_⟩;rw [<-hc i x hx j u hu];exact World.cell?_of_block (w:=w) (a:=⟨b,o+(i*K.k+j),none⟩) (hk ⟨b,o,none⟩ rfl)
theorem RdK.below {B:Nat} (h:RdK K w A L) (hb:Below B w w') (hB:w.heap.size<=B):RdK K w' A L:=fun h0=>by
 obtain ⟨b,o,rfl,hl,hc⟩:=h h0;refine ⟨b,o,rfl,Nat.lt_of_lt_of_le hl hb.size,fun i x hx j u hu=>?_⟩;rw [<-hc i x hx j u hu];exact World.cell?_of_block (w:=w) (a:=⟨b,o+(i*K.k+j),none⟩) (hb.block b (by omega))
theorem RdK.kept (h:RdK K w A L) (hb:Bw w w'):RdK K w' A L:=h.below hb (Nat.le_refl _)
theorem RdK.nil (w:World) (A:Option Addr):RdK K w A []:=fun h=>absurd h (by simp)
theorem RdK.take (h:RdK K w A L) (n:Nat):RdK K w A (L.take n):=fun h0=>by
 obtain ⟨b,o,e,hl,hc⟩:=h (by rw [List.length_take] at h0;omega);refine ⟨b,o,e,hl,fun i x hx=>hc i x ?_⟩;rw [List.getElem?_take] at hx;split at hx
 . exact hx
 . cases hx
theorem RdK.drop (h:RdK K w A L) {n:Nat} (hn:n<L.length):∃b o,A=some ⟨b,o,none⟩/\RdK K w (some ⟨b,o+n*K.k,none⟩) (L.drop n):=by
 obtain ⟨b,o,e,hl,hc⟩:=h (by omega);refine ⟨b,o,e,fun _=>⟨b,o+n*K.k,rfl,hl,fun i x hx j u hu=>?_⟩⟩;rw [List.getElem?_drop] at hx;have:=hc (n+i) x hx j u hu;rw [Nat.add_mul] at this;rw [show o+n*K.k+(i*K.k+j)=o+(n*K.k+i*K.k+j) by omega];exact this
theorem VK.nil (w:World) (B:Nat):VK K w B none 0 []:=World.ownsRow_nil w B _ _
theorem VK.at_ (h:VK K w B A c L):∀a,A=some a->B<=a.block/\a.block<w.heap.size:=by
 obtain ⟨_,h2⟩:=h;rintro a rfl;rcases h2 with ⟨h',_⟩|⟨g,cap,cur,he,hB,hh,_⟩
 . cases h'
 . obtain ⟨rfl,_⟩:a=⟨g,0,none⟩/\c=cap:=by simpa using he
   exact ⟨hB,(Array.getElem?_eq_some_iff.1 hh).1⟩
theorem VK.keep (h:VK K w B A c L) (hk:∀a,A=some a->w'.heap[a.block]? =w.heap[a.block]?):VK K w' B A c L:=by
 obtain ⟨h1,h2⟩:=h;refine ⟨h1,?_⟩;rcases h2 with h|⟨g,cap,cur,he,hB,hh,hr⟩
 . exact .inl h
 . obtain ⟨rfl,rfl⟩:A=some ⟨g,0,none⟩/\c=cap:=by simpa using he
   exact .inr ⟨g,c,cur,rfl,hB,(hk _ rfl).trans hh,hr⟩
theorem VK.kept (h:VK K w B A c L) (hb:Bw w w'):VK K w' B A c L:=h.keep fun a ha=>hb.block _ (h.at_ a ha).2
theorem VK.into {T:List Nat} (h:VK K w B A c L) (hi:Flow.Into T w w') (hn:∀a,A=some a->a.block∉T):VK K w' B A c L:=h.keep fun a ha=>hi.block _ (h.at_ a ha).2 (hn a ha)
theorem VK.mono {B':Nat} (h:VK K w B A c L) (hB':B'<=B):VK K w B' A c L:=by
 obtain ⟨h1,h2⟩:=h;refine ⟨h1,?_⟩;rcases h2 with h|⟨g,cap,cur,he,hB,hr⟩
 . exact .inl h
 . exact .inr ⟨g,cap,cur,he,Nat.le_trans hB' hB,hr⟩
theorem VK.lit (w:World) (B:Nat) (hB:B<=w.heap.size):VK K (w.alloc (.cells #[] K.T)) B (some ⟨w.heap.size,0,none⟩) 0 []:=by
 have:=World.ownsRow_lit (base:=B) (e:=K.T) (size:=K.k) w #[] 0 hB (Nat.zero_le _) (by simp);simpa [VK] using this
theorem VK.cell (h:VK K w B A c L) {i:Nat} {x:α} (hx:L[i]? =some x):∃g,A=some ⟨g,0,none⟩/\∀(j:Nat) (u:Value),(K.cs x)[j]? =some u->w.cell? ⟨g,i*K.k+j,none⟩=some u:=by
 have hi:i<L.length:=(List.getElem?_eq_some_iff.1 hx).1;have h':=h;obtain ⟨_,h2⟩:=h';rcases h2 with ⟨_,h'⟩|⟨g,cap,cur,he,_⟩
 . omega
 . obtain ⟨rfl,rfl⟩:A=some ⟨g,0,none⟩/\c=cap:=by simpa using he
   refine ⟨g,rfl,fun j u hu=>?_⟩;have hj:j<K.k:=by rw [<-K.len x];exact (List.getElem?_eq_some_iff.1 hu).1
   have hlt:i*K.k+j<L.length*K.k:=by
    have:=Nat.mul_le_mul_right K.k (show i+1<=L.length by omega);rw [Nat.succ_mul] at this;omega
   rw [World.ownsRow.cellAt h (i*K.k+j) hlt,K.at_ hx hj];exact hu
theorem VK.rd (h:VK K w B A c L):RdK K w A L:=fun h0=>by
 obtain ⟨g,rfl,_⟩:=h.cell (i:=0) (List.getElem?_eq_getElem h0);refine ⟨g,0,rfl,(h.at_ _ rfl).2,fun i x hx j u hu=>?_⟩;obtain ⟨g',e,hc⟩:=h.cell hx;obtain rfl:g=g':=by simpa using e
 rw [Nat.zero_add];exact hc j u hu
structure Gg (K:Kind α) (B:Nat) (w w':World) (A A':Option Addr) (c':Nat) (L:List α):Prop where
 vo:VK K w' B A' c' L
 below:Below B w w'
 block:∀k,k<w.heap.size->(∀a,A=some a->a.block≠k)->w'.heap[k]? =w.heap[k]?
 row:∀a',A'=some a'->(∃a,A=some a/\a'.block=a.block)\/a'.block=w.heap.size
end
section
variable {α:Type} {K:Kind α} {P:Program}
theorem oG {S:TypeId} {z:Value} {by_:Nat} (hS:P.underlying S=some (.slice K.T)) (hinfo:(P.info? K.T).map (fun i=>(i.zero,i.size,i.bytes))=some (some z,K.k,by_)) (hz:z.cells.size=K.k) (hby:by_<=4096) (ty:TypeId) {w:World} {B:Nat} {A:Option Addr} {c:Nat} {L:List α} (h:VK K w B A c L) (xb cx:Nat) (x:α) (hx:w.heap[xb]? =some (.cells (K.cs x).toArray K.T (0,0))) (hn:L.length+1<=1048576) (hk:0<K.k) (hB:B<=w.heap.size):
 ∃A' c' w',(Builtin.append_ #[S,S] ty #[.slice A L.length c,.slice (some ⟨xb,0,none⟩) 1 cx]).run P w= .ok (.slice A' (L.length+1) c') w'/\Gg K B w w' A A' c' (L++[x]):=by
 obtain ⟨i,hi,hz1,hs1,hb1⟩:=info_parts hinfo
 obtain ⟨v',w',hrun,h2,h3,_,h5⟩:=run_append_own_at (P:=P) w B S ty K.T i z K.k by_ hS hi hz1 hs1 hb1 hz hk (.slice A L.length c) L.length (L.flatMap K.cs) h ⟨xb,0,none⟩ 1 cx (K.cs x) (by rw [K.len,Nat.one_mul]) (fun j u hj=>by
  have:(⟨xb,0,none⟩:Addr).add j=⟨xb,j,none⟩:=by by_cases h0:j=0<;>simp [Addr.add,h0]
  rw [this];simp only [World.cell?,hx]
  simpa using hj) (fun u hu=>K.one x u hu) (by unfold maxLen;omega) (Nat.le_trans (Nat.mul_le_mul hn hby) (by decide)) hB
 have hv':∃A' c',v'= .slice A' (L.length+1) c':=by
  rcases h2.2 with ⟨_,h0⟩|⟨g,cap,cur,rfl,_⟩
  . omega
  . exact ⟨_,_,rfl⟩
 obtain ⟨A',c',rfl⟩:=hv';refine ⟨A',c',w',hrun,⟨?_,(Below.refl _ _).grown h3 hB fun k hk=>?_,?_,?_⟩⟩
 . unfold VK
   rw [List.length_append,List.flatMap_append];simpa using h2
 . rcases A with _|a
   . cases hk
   . obtain rfl:a.block=k:=by simpa [Value.ownBlock] using hk
     exact (h.at_ _ rfl).1
 . intro k hk hne
   refine h3.block k hk ?_;rcases A with _|a
   . simp [Value.ownBlock]
   . have:=hne a rfl
     simp only [Value.ownBlock,ne_eq,Option.some.injEq];exact fun e=>this e.symm
 . rintro a' rfl
   rcases h5 with h5|h5
   . rcases A with _|a
     . simp [Value.ownBlock] at h5
     . left;exact ⟨a,rfl,by simpa [Value.ownBlock] using h5⟩
   . right;simpa [Value.ownBlock] using h5
theorem jZ {S:TypeId} {z:Value} {by_:Nat} (hS:P.underlying S=some (.slice K.T)) (hinfo:(P.info? K.T).map (fun i=>(i.zero,i.size,i.bytes))=some (some z,K.k,by_)) (hz:z.cells.size=K.k) (hby:by_<=4096) (hk:0<K.k)
 {w:World} {ops:Array Oper} {rest:List Oper} {o:Oper} {a:Act} {Q:Exit->Act->World->Prop} (hgd:o.guard=none) (s x:Operand)
 (ho:o.op= .call { callee:= .builtin .append,args:= #[s,x],argTypes:= #[S,S] })
 (B:Nat) (A:Option Addr) (n c:Nat) (L:List α) (hs:a.eval s= .slice A n c) (hvn:L.length=n) (h:VK K w B A c L) (xb cx:Nat) (y:α) (hx:a.eval x= .slice (some ⟨xb,0,none⟩) 1 cx) (hu:w.heap[xb]? =some (.cells (K.cs y).toArray K.T (0,0))) (hn:n+1<=1048576) (hB:B<=w.heap.size)
 (hh:∀A' c' w',Hid (Gg K B w w' A A' c' (L++[y]))->wpList P ops Q rest (a.put o.dst (.slice A' (n+1) c')) w'):wpList P ops Q (o::rest) a w:=by
 subst hvn;refine wpList_plain hgd fun C hC=>?_;obtain ⟨A',c',w',hrun,hd⟩:=oG hS hinfo hz hby o.type h xb cx y hu hn hk hB;unfold Oper.wp execOp;simp only [ho,resolve,invoke,builtin,Sem.run_bind,Sem.run_pure,Result.andThen_ok,List.map_toArray,List.map_cons,List.map_nil,hs,hx,hrun];exact hC _ _ (hh A' c' w' hd)
theorem oH {S:TypeId} {z:Value} {by_:Nat} (hS:P.underlying S=some (.slice K.T)) (hinfo:(P.info? K.T).map (fun i=>(i.zero,i.size,i.bytes))=some (some z,K.k,by_)) (hz:z.cells.size=K.k) (hby:by_<=4096) (ty:TypeId) {w:World} {B:Nat} {A:Option Addr} {c:Nat} {L:List α} (h:VK K w B A c L) {A2:Option Addr} (c2:Nat) {M:List α} (hM:RdK K w A2 M) (hn:L.length+M.length<=1048576) (hk:0<K.k) (hB:B<=w.heap.size):
 ∃A' c' w',(Builtin.append_ #[S,S] ty #[.slice A L.length c,.slice A2 M.length c2]).run P w= .ok (.slice A' (L.length+M.length) c') w'/\VK K w' B A' c' (L++M)/\Below B w w':=by
 obtain ⟨i,hi,hz1,hs1,hb1⟩:=info_parts hinfo;cases A2 with
 |none=>
  have h0:M=[]:=by
   cases M with
   |nil=>rfl
   |cons y l=>obtain ⟨_,_,e,_⟩:=hM (by simp);cases e
  subst h0;refine ⟨A,c,w,?_,by simpa using h,Below.refl _ _⟩;rcases h.2 with ⟨h',_⟩|⟨g,cap,cur,h',_,_,hnc,_⟩
  . rw [h']
    obtain ⟨rfl,this,rfl⟩:A=none/\L.length=0/\c=0:=(by simpa using h');simp [Builtin.append_,run_underlying hS,sizeOf,typeInfo,hi,Builtin.lenOf,Builtin.firstCells,this]
  . obtain ⟨rfl,rfl⟩:A=some ⟨g,0,none⟩/\c=cap:=by simpa using h'
    simp [Builtin.append_,run_underlying hS,sizeOf,typeInfo,hi,Builtin.lenOf,Builtin.firstCells,hnc,storeCells]
 |some ad=>
  obtain ⟨v',w',hrun,h2,h3,_,h5⟩:=run_append_own_at (P:=P) w B S ty K.T i z K.k by_ hS hi hz1 hs1 hb1 hz hk (.slice A L.length c) L.length (L.flatMap K.cs) h ad M.length c2 (M.flatMap K.cs) (K.Ct M) (fun j u hj=>by
   have hjl:j<M.length*K.k:=by
    have:=(List.getElem?_eq_some_iff.1 hj).1;rw [K.Ct] at this;exact this
   have hM0:0<M.length:=by
    rcases Nat.eq_zero_or_pos M.length with h0|h0
    . rw [h0,Nat.zero_mul] at hjl
      exact absurd hjl (Nat.not_lt_zero _)
    . exact h0
   obtain ⟨b,o,e,_,hc⟩:=hM hM0;obtain rfl:ad=⟨b,o,none⟩:=(by simpa using e);have hq:j / K.k<M.length:=Nat.div_lt_of_lt_mul (by rw [Nat.mul_comm];exact hjl);have hr:j % K.k<K.k:=Nat.mod_lt _ hk;have hjj:j / K.k*K.k+j % K.k=j:=Nat.div_add_mod' j K.k;have hx:=List.getElem?_eq_getElem hq;have:=K.at_ hx hr;rw [hjj,hj] at this;have:=hc _ _ hx _ u this.symm;rw [hjj] at this;rw [<-this]
   by_cases h0:j=0<;>simp [Addr.add,h0]) (fun u hu=>K.JQ M u hu) (by unfold maxLen;omega) (Nat.le_trans (Nat.mul_le_mul hn hby) (by decide)) hB
  have hv':∃A' c',v'= .slice A' (L.length+M.length) c':=by
   rcases h2.2 with ⟨rfl,h0⟩|⟨g,cap,cur,rfl,_⟩
   . exact ⟨none,0,by rw [h0]⟩
   . exact ⟨_,_,rfl⟩
  obtain ⟨A',c',rfl⟩:=hv';refine ⟨A',c',w',hrun,?_,(Below.refl _ _).grown h3 hB fun k hk=>?_⟩
  . unfold VK
    rw [List.length_append,List.flatMap_append];exact h2
  . rcases A with _|a
    . cases hk
    . obtain rfl:a.block=k:=by simpa [Value.ownBlock] using hk
      exact (h.at_ _ rfl).1
theorem kQ {S:TypeId} {z:Value} {by_:Nat} (hS:P.underlying S=some (.slice K.T)) (hinfo:(P.info? K.T).map (fun i=>(i.zero,i.size,i.bytes))=some (some z,K.k,by_)) (hz:z.cells.size=K.k) (hby:by_<=4096) (hk:0<K.k)
 {w:World} {ops:Array Oper} {rest:List Oper} {o:Oper} {a:Act} {Q:Exit->Act->World->Prop} (hgd:o.guard=none) (s x:Operand)
 (ho:o.op= .call { callee:= .builtin .append,args:= #[s,x],argTypes:= #[S,S] })
 (B:Nat) (A:Option Addr) (n c:Nat) (L:List α) (hs:a.eval s= .slice A n c) (hvn:L.length=n) (h:VK K w B A c L) (A2:Option Addr) (m c2:Nat) (M:List α) (hx:a.eval x= .slice A2 m c2) (hM:M.length=m) (hb:RdK K w A2 M) (hn:n+m<=1048576) (hB:B<=w.heap.size)
 (hh:∀A' c' w',Hid (VK K w' B A' c' (L++M))->Hid (Below B w w')->wpList P ops Q rest (a.put o.dst (.slice A' (n+m) c')) w'):wpList P ops Q (o::rest) a w:=by
 subst hvn hM;refine wpList_plain hgd fun C hC=>?_;obtain ⟨A',c',w',hrun,hd,he⟩:=oH hS hinfo hz hby o.type h c2 hb hn hk hB;unfold Oper.wp execOp;simp only [ho,resolve,invoke,builtin,Sem.run_bind,Sem.run_pure,Result.andThen_ok,List.map_toArray,List.map_cons,List.map_nil,hs,hx,hrun];exact hC _ _ (hh A' c' w' hd he)
end
end Mem
end Go.Proofs.YtjpjjnalpdpljaaGreatDoor
namespace Go.Proofs.YtjpjjnalpdpljaaGreatDoor
open Go.RowKit
namespace Mem
section
variable {α:Type} {K:Kind α} {w w':World} {B c:Nat} {A:Option Addr} {L:List α}
def RC (K:Kind α) (w:World) (A:Option Addr) (c:Nat) (L:List α):Prop:=RdK K w A L/\L.length<=c
theorem RC.kept (h:RC K w A c L) (hb:Bw w w'):RC K w' A c L:=⟨h.1.kept hb,h.2⟩
theorem RC.nil (w:World) (A:Option Addr) (c:Nat):RC K w A c []:=⟨RdK.nil w A,Nat.zero_le _⟩
theorem VK.rc (h:VK K w B A c L):RC K w A c L:=by
 refine ⟨h.rd,?_⟩;rcases h.2 with ⟨_,h1⟩|⟨g,cap,cur,h1,_,_,hn,_⟩
 . omega
 . obtain ⟨_,rfl⟩:A=some ⟨g,0,none⟩/\c=cap:=by simpa using h1
   exact hn
def Qe (k:Nat) (A:Option Addr) (c n:Nat):Option Addr:=if c=n then A else A.map (·.add (n*k))
theorem RC.cut (h:RC K w A c L) (n:Nat):RC K w (Qe K.k A c n) (c-n) (L.drop n):=by
 refine ⟨?_,by rw [List.length_drop];have:=h.2;omega⟩;rcases Nat.lt_or_ge n L.length with hk|hk
 . obtain ⟨b,o,e,hd⟩:=h.1.drop hk
   subst e;have hc:=h.2;unfold Qe;rw [if_neg (by omega)];have:(⟨b,o,none⟩:Addr).add (n*K.k)=⟨b,o+n*K.k,none⟩:=(by by_cases h0:n*K.k=0<;>simp [Addr.add,h0]);rw [Option.map_some,this];exact hd
 . rw [List.drop_eq_nil_of_le hk]
   exact RdK.nil _ _
theorem RdK.none_ (h:RdK K w none L):L=[]:=by
 cases L with
 |nil=>rfl
 |cons y l=>obtain ⟨_,_,e,_⟩:=h (by simp);cases e
end
section
variable {P:Program} {t e:TypeId} {z:Value} {k by_:Nat}
end
end Mem
end Go.Proofs.YtjpjjnalpdpljaaGreatDoor
namespace Go.Proofs.YtjpjjnalpdpljaaGreatDoor.Wd
def isW (n:Int):Bool:=n==1 || n==2 || n==4 || n==8
theorem oI {n:Int} (h:isW n=true):n=1\/n=2\/n=4\/n=8:=by simpa [isW,or_assoc] using h
def be:Nat->Nat->List UInt8
 |0,_=>[]
 |n+1,v=>be n (v / 256)++[UInt8.ofNat (v % 256)]
@[simp] theorem aD (n v:Nat):(be n v).length=n:=by
 induction n generalizing v with
 |zero=>rfl
 |succ n ih=>simp [be,ih]
theorem JR (n v:Nat):be (n+1) v=UInt8.ofNat (v / 256 ^ n % 256)::be n v:=by
 induction n generalizing v with
 |zero=>simp [be]
 |succ n ih=>
  rw [be,ih,List.cons_append];congr 2
  . rw [Nat.div_div_eq_div_mul,Nat.pow_succ,Nat.mul_comm]
def val (l:List UInt8):Nat:=l.foldl (fun v x=>256*v+x.toNat) 0
theorem jR (l:List UInt8) (x:UInt8):val (l++[x])=256*val l+x.toNat:=by simp [val]
theorem uD (l:List UInt8):val l<256 ^ l.length:=by
 suffices h:∀(n:Nat) (l:List UInt8),l.length=n->val l<256 ^ n from h _ _ rfl
 intro n
 induction n with
 |zero=>intro l hl;obtain rfl:=List.eq_nil_of_length_eq_zero hl;simp [val]
 |succ n ih=>
  intro l hl;have hne:l≠[]:=by intro e;simp [e] at hl
  obtain ⟨r,x,rfl⟩:∃r x,l=r++[x]:=⟨l.dropLast,l.getLast hne,(List.dropLast_concat_getLast hne).symm⟩
  rw [jR,Nat.pow_succ];have h1:=ih r (by simpa using hl);have h2:x.toNat<256:=x.toNat_lt;omega
theorem dY (n v:Nat):val (be n v)=v % 256 ^ n:=by
 induction n generalizing v with
 |zero=>simp [be,val,Nat.mod_one]
 |succ n ih=>
  have e:(UInt8.ofNat (v % 256)).toNat=v % 256:=by simp
  rw [be,jR,ih,e,Nat.pow_succ,Nat.mul_comm (256 ^ n) 256,Nat.mod_mul];omega
theorem LZ (l:List UInt8):be l.length (val l)=l:=by
 suffices h:∀(n:Nat) (l:List UInt8),l.length=n->be n (val l)=l from h _ _ rfl
 intro n
 induction n with
 |zero=>intro l hl;obtain rfl:=List.eq_nil_of_length_eq_zero hl;rfl
 |succ n ih=>
  intro l hl;have hne:l≠[]:=by intro e;simp [e] at hl
  obtain ⟨r,x,rfl⟩:∃r x,l=r++[x]:=⟨l.dropLast,l.getLast hne,(List.dropLast_concat_getLast hne).symm⟩
  have h2:x.toNat<256:=x.toNat_lt;have h3:(256*val r+x.toNat) / 256=val r:=by omega
  have h4:(256*val r+x.toNat) % 256=x.toNat:=by omega
  rw [jR,be,h3,h4,ih r (by simpa using hl)];simp
def rowAt (l:List UInt8) (wd v j:Nat):List UInt8:=l++(List.replicate (wd-j) 0++be j v)
theorem uE (l:List UInt8) {wd j:Nat} (v:Nat) (h:j<=wd):(rowAt l wd v j).length=l.length+wd:=by simp [rowAt];omega
theorem rowAt_zero (l:List UInt8) (wd v:Nat):rowAt l wd v 0=l++List.replicate wd 0:=by simp [rowAt,be]
theorem rowAt_all (l:List UInt8) (wd v:Nat):rowAt l wd v wd=l++be wd v:=by simp [rowAt]
theorem Ab (l:List UInt8) {wd v j:Nat} (h:j<wd):(rowAt l wd v j).set (l.length+(wd-j-1)) (UInt8.ofNat (v / 256 ^ j % 256))=rowAt l wd v (j+1):=by
 unfold rowAt;obtain ⟨r,hr⟩:∃r,wd-j=r+1:=⟨wd-j-1,by omega⟩
 have hr':wd-(j+1)=r:=by omega
 rw [hr,hr',JR,List.replicate_succ',List.set_append_right _ _ (by omega)];congr 1
 rw [show l.length+(r+1-1)-l.length=r by omega,List.append_assoc,List.set_append_right _ _ (by simp)];simp
end Go.Proofs.YtjpjjnalpdpljaaGreatDoor.Wd
namespace Go.Proofs.YtjpjjnalpdpljaaGreatDoor
open Go.RowKit
namespace No
open Mem
open Wd (be val aD dY jR uD)
def zs (n:Int):List UInt8:=List.replicate n.toNat 0
theorem gY (n:Int):(zs n).length=n.toNat:=List.length_replicate
def txt (s:ByteArray):List UInt8:=s.data.toList
theorem fC (s:ByteArray):(txt s).length=s.size:=rfl
theorem Cu (s:ByteArray):strOf (txt s)=s:=rfl
theorem oJ (l:List UInt8):txt (strOf l)=l:=rfl
def slotL (l:List UInt8) (most:Int):List UInt8:=l++zs (most-l.length)
theorem dN {l:List UInt8} {most:Int} (h:(l.length:Int)<=most):(slotL l most).length=most.toNat:=by
 unfold slotL;rw [List.length_append,gY];omega
section
variable {α:Type} {f:α->List UInt8} {S:Nat} {L:List α}
theorem iU (hS:∀x∈L,(f x).length=S):(L.flatMap f).length=L.length*S:=by
 induction L with
 |nil=>simp
 |cons x xs ih=>
  rw [List.flatMap_cons,List.length_append,ih (fun y hy=>hS y (List.mem_cons_of_mem _ hy)),hS x List.mem_cons_self,List.length_cons,Nat.succ_mul,Nat.add_comm]
theorem Ae (hS:∀x∈L,(f x).length=S):∀{k:Nat} {x:α},L[k]? =some x->∃R,(L.flatMap f).drop (k*S)=f x++R:=by
 induction L with
 |nil=>intro k x h;simp at h
 |cons y ys ih=>
  intro k x h;cases k with
  |zero=>
   obtain rfl:y=x:=(by simpa using h);exact ⟨ys.flatMap f,by simp⟩
  |succ k=>
   obtain ⟨R,hR⟩:=ih (fun z hz=>hS z (List.mem_cons_of_mem _ hz)) (k:=k) (x:=x) (by simpa using h);refine ⟨R,?_⟩;rw [List.flatMap_cons,Nat.succ_mul,Nat.add_comm,<-List.drop_drop,List.drop_left' (hS y List.mem_cons_self),hR]
theorem nQ (hS:∀x∈L,(f x).length=S) (A R:List UInt8) {a k:Nat} {x:α} (ha:A.length=a) (hx:L[k]? =some x):∃R',(A++(L.flatMap f++R)).drop (a+k*S)=f x++R':=by
 obtain ⟨R',h⟩:=Ae hS hx;refine ⟨R'++R,?_⟩;have hk:k<L.length:=(List.getElem?_eq_some_iff.1 hx).1;have hl:=iU hS;have hm:k*S<=L.length*S:=Nat.mul_le_mul_right _ (Nat.le_of_lt hk);rw [<-List.drop_drop,List.drop_left' ha,List.drop_append_of_le_length (by omega),h,List.append_assoc]
end
def atL (b:List UInt8) (i w:Nat):Nat:=val ((b.drop i).take w)
def Gh (b:List UInt8) (i n:Nat):List UInt8:=(b.drop i).take n
theorem uF {b R:List UInt8} {i w v:Nat} (h:b.drop i=be w v++R) (hv:v<256 ^ w):atL b i w=v:=by
 unfold atL;rw [h,List.take_left' (aD w v),dY,Nat.mod_eq_of_lt hv]
theorem eB {b X R:List UInt8} {i j:Nat} (h:b.drop i=X++R) (hj:X.length=j):b.drop (i+j)=R:=by
 rw [<-List.drop_drop,h,List.drop_left' hj]
theorem rG {b R:List UInt8} {i:Nat} {s:ByteArray} {most:Int} (h:b.drop i=slotL (txt s) most++R):strOf (Gh b i s.size)=s:=by
 unfold Gh slotL at*;rw [h,List.append_assoc,List.take_left' (fC s)];exact Cu s
end No
end Go.Proofs.YtjpjjnalpdpljaaGreatDoor
set_option maxHeartbeats 1000000
namespace Go.Proofs.YtjpjjnalpdpljaaGreatDoor
open Go.RowKit
open Go.Lib (hid)
namespace Wd
open Mem
theorem oK (n:Int) (w:World):CW 197 #[n] w (.bool (isW n)):=by
 by_cases h1:n=1
 . subst h1;go_enter Tryz.func197,Tryz.ntmps197;go_wp2;go_ret;exact ⟨rfl,rfl⟩
 by_cases h2:n=2
 . subst h2;go_enter Tryz.func197,Tryz.ntmps197;go_wp2;go_ret;exact ⟨rfl,rfl⟩
 by_cases h4:n=4
 . subst h4;go_enter Tryz.func197,Tryz.ntmps197;go_wp2;go_ret;exact ⟨rfl,rfl⟩
 by_cases h8:n=8
 . subst h8;go_enter Tryz.func197,Tryz.ntmps197;go_wp2;go_ret;exact ⟨rfl,rfl⟩
 have HR:=hid (show isW n=false by simp [isW,h1,h2,h4,h8]);have g1:(n==1)=false:=by simpa using h1
 have g2:(n==2)=false:=by simpa using h2
 have g4:(n==4)=false:=by simpa using h4
 have g8:(n==8)=false:=by simpa using h8
 clear h1 h2 h4 h8;go_enter Tryz.func197,Tryz.ntmps197
 go_wp2
 go_ret
 exact ⟨by rw [HR.out];rfl,rfl⟩
theorem gH:(Tryz.prog.info? 5).map (fun i=>(i.zero,i.size,i.bytes))=some (some (.int .u8 0),1,1):=by kernel_rfl
theorem oL:(Tryz.prog.info? 5).map (·.size)=some 1:=by kernel_rfl
theorem kR (n:Nat) (hn:n<=140737488355328) (w:World):
 (Instr.makeSlice 72 (.int .i64 (n:Int)) (.int .i64 (n:Int))).run Tryz.prog w= .ok (.slice (some ⟨w.heap.size,0,none⟩) n n) (w.alloc (.cells (aI (List.replicate n 0)).toArray 5)):=by
 obtain ⟨i0,hi,hz,hs,hb⟩:=info_parts gH;have hr:=run_make (P:=Tryz.prog) w 72 5 i0 (.int .u8 0) Tryz.underlying72 hi hz .i64 .i64 n n (by omega) (by omega) (by rw [hb];omega) (by omega);rw [hr,hs];simp only [Int.toNat_natCast,Nat.mul_one];rw [<-oq (z:=(Value.int IntKind.u8 0).cells) rfl n]
theorem Cv (p:Option Addr) (c:Nat) (l:List UInt8) (w:World) (h:BL w p l) (hl:l.length<=140737488355328):
 Calls Tryz.prog 136 #[.slice p l.length c] w fun e w'=>e=.returned (.slice (some ⟨w.heap.size,0,none⟩) l.length l.length)/\Row 5 w' w.heap.size l/\Bw w w':=by
 have hmk:=fun w=>kR l.length hl w;obtain ⟨n,hn⟩:∃n,n=l.length:=⟨_,rfl⟩
 rw [<-hn] at hmk;have HN:=hid hn;rw [<-hn];clear hn hl;go_enter Tryz.func136,Tryz.ntmps136
 go_wp2_with (with_reducible refine iT rfl (.tmp 7) (.tmp 8) _ _ rfl 5 Tryz.underlying72 oL w.heap.size n n n c p rfl rfl (List.replicate n 0) l (Row.new _ _ _) HN.out.symm (h.alloc _) (Nat.le_refl _) (by simp) w.heap.size w (bAx) (Nat.le_refl _) ?_;intro w1 HR1 hb1)
 go_ret
 refine ⟨rfl,?_,hb1⟩;have:=HR1.out;rw [<-HN.out] at this;simpa using this
theorem pow_div (v j:Nat):v / 256 ^ j / 256=v / 256 ^ (j+1):=by rw [Nat.div_div_eq_div_mul,Nat.pow_succ]
theorem Cx (p:Option Addr) (c:Nat) (l:List UInt8) (wd v:Nat) (w:World) (h:BL w p l) (hl:l.length<=140737488355000) (hw:isW (wd:Int)=true) (hv:v<18446744073709551616):
 Calls Tryz.prog 202 #[.slice p l.length c,(wd:Int),.int .u64 (v:Int)] w fun e w'=>e=.returned (.slice (some ⟨w.heap.size,0,none⟩) (l.length+wd) (l.length+wd))/\Row 5 w' w.heap.size (l++be wd v)/\Bw w w':=by
 have hwd:wd<=8:=by have:=oI hw;omega
 have hmk:=fun w=>kR (l.length+wd) (by omega) w;obtain ⟨n,hn⟩:∃n,n=l.length:=⟨_,rfl⟩
 rw [<-hn] at hmk;have hl':n<=140737488355000:=by omega
 have HN:=hid hn;have cW:=fun w=>hid (oK wd w);rw [hw] at cW;rw [<-hn];clear hn hl hw;rw [show ((n+wd:Nat):Int)=(n:Int)+(wd:Int) from by omega] at hmk;have HV:=hid hv;clear hv;go_enter Tryz.func202,Tryz.ntmps202
 go_wp2_with (first
  |(go_at_call 197;refine (cW _).out.mono ?_;rintro e w' ⟨rfl,rfl⟩)
  |(with_reducible refine iT rfl (.tmp 17) (.tmp 18) _ _ rfl 5 Tryz.underlying72 oL w.heap.size (n+wd) (n+wd) n c p rfl rfl (List.replicate (n+wd) 0) l (Row.new _ _ _) HN.out.symm (h.alloc _) (by omega) (by simp) w.heap.size w (bAx) (Nat.le_refl _) ?_;intro w1 HR1 hb1))
 go_loopw [2,8] (fun vv i wr=>∃(j m:Nat) (z:Int),j<=wd/\i= .int .i64 z/\vv= .int .u64 (m:Int)/\Hid (z=n+wd-j-1)/\Hid (m=v / 256 ^ j)/\Row 5 wr w.heap.size (rowAt l wd v j)/\Bw w wr) (fun _ i _=>(intOf i-n+1).toNat)
 case atStart=>exact ⟨0,v,_,Nat.zero_le _,rfl,rfl,by unfold Hid;omega,by unfold Hid;simp,by
  have:=HR1.out;rw [rowAt_zero];rw [<-HN.out] at this
  simpa [Nat.add_sub_cancel_left] using this,hb1⟩
 case round=>
  obtain ⟨j,m,z,hj,rfl,rfl,HZ,HM,hrow,hbw⟩:=hrel;by_cases hlt:j<wd
  . obtain ⟨q,hq⟩:∃q,q=n+(wd-j-1):=⟨_,rfl⟩
    obtain rfl:z=(q:Int):=(by have:=HZ.out;omega);have hq1:n<=q:=(by omega);have hq2:q<n+wd:=(by omega);have hlen:q<(rowAt l wd v j).length:=(by rw [uE _ _ hj,<-HN.out];exact hq2);have hcell:=hrow.cell hlen;have hfree:=hrow.free q;generalize ((rowAt l wd v j)[q].toNat:Int)=y at hcell;have hset:=fun z hz=>hid (hrow.set hlen (UInt8.ofNat (m % 256)) (z:=z) hz);have HB:=hid hbw;have HQ:=hid hq;clear hrow hbw hq hlen
    go_wp2
    refine ⟨⟨j+1,m / 256,_,hlt,rfl,by simp,by have:=HZ.out;unfold Hid;omega,by have:=HM.out;unfold Hid;rw [this,pow_div],?_,HB.out.setCell (Nat.le_refl _) _⟩,by simp [intOf];omega⟩;have h1:=(hset (↑m % 256) (by simp)).out;rw [HQ.out,HM.out,HN.out,Ab l hlt] at h1;rw [HQ.out,HM.out,HN.out];exact h1
  . obtain rfl:j=wd:=by omega
    obtain rfl:z=(n:Int)-1:=(by have:=HZ.out;omega);have HR:=hid hrow;have HB:=hid hbw;clear hrow hbw
    go_wp2
    go_ret
    have h1:=HR.out;rw [rowAt_all] at h1;exact ⟨rfl,h1,HB.out⟩
theorem dS {a b:Bool} (h:a=b):Ending.returned (.bool a)=.returned (.bool b):=by rw [h]
end Wd
end Go.Proofs.YtjpjjnalpdpljaaGreatDoor
namespace Go.Proofs.YtjpjjnalpdpljaaGreatDoor
open Go.RowKit
namespace Wd
open Mem
def New (w w':World) (l:List UInt8) (e:Ending):Prop:=∃(A:Option Addr) (c:Nat),e=.returned (.slice A l.length c)/\BL w' A l/\Bw w w'
end Wd
end Go.Proofs.YtjpjjnalpdpljaaGreatDoor
namespace Go.Proofs.YtjpjjnalpdpljaaGreatDoor.Args
open Go.RowKit Go.WideShapes Go.ChangeShapes Go.Deep
section
variable {H:Type} {enc:TypeId × Value->H} {P:Program} {W:World}
theorem plain_of_cell {a:Addr} {i:Nat} {v:Value} (h:W.cell? (a.add i)=some v) (h0:i=0):a.spot=none:=by
 subst h0;simpa [Addr.add] using World.cell?_spot h
theorem Cy {P:Program}:∀{ts:List TypeId} {ds:List (DataW H)} {j:Nat} {t:TypeId} {d:DataW H},ts[j]? =some t->ds[j]? =some d->∀n∈d.weights P t,n∈DataW.weightsEach P ts ds
 |[],_,j,_,_,h,_,_,_=>by simp at h
 |_::_,[],j,_,_,_,h,_,_=>by simp at h
 |t0::ts,d0::ds,0,t,d,h1,h2,n,hn=>by
  obtain rfl:t0=t:=by simpa using h1
  obtain rfl:d0=d:=by simpa using h2
  simp only [DataW.weightsEach,List.mem_append];exact .inl hn
 |t0::ts,d0::ds,j+1,t,d,h1,h2,n,hn=>by
  simp only [DataW.weightsEach,List.mem_append];exact .inr (Cy (j:=j) (by simpa using h1) (by simpa using h2) n hn)
theorem L6 {P:Program} {e:TypeId}:∀{ds:List (DataW H)} {d:DataW H},d∈ds->∀n∈d.weights P e,n∈DataW.weightsAll P e ds
 |_::ds,d,hd,n,hn=>by
  simp only [DataW.weightsAll,List.mem_append];rcases List.mem_cons.1 hd with rfl|hd
  . exact .inl hn
  . exact .inr (L6 hd n hn)
theorem j3 {t e:TypeId} {fs:Array Field} (ht:P.underlying t=some (.slice e)) (he:P.underlying e=some (.struct fs)) (hone:oneCellFields P fs=true) (hC:P.cellsOf e=fs.size) (hpos:0<fs.size)
 {v:Value} {d:DataW H} {p:List MemPlace} {fuel:Nat} (hf:DataW.trod enc P W 0 (fun _=>true) true fuel t [v]=some (d,p)):
 ∃(A:Option Addr) (len c:Nat),v= .slice A len c/\len<=c/\c<=maxLen/\
  (0<len->∃b o,A=some ⟨b,o,none⟩/\∀i,i<len->∀(j:Nat) (f:Field),fs[j]? =some f->∃(u:Value) (y:DataW H × List MemPlace) (n:Nat),W.cell? ⟨b,o+(i*fs.size+j),none⟩=some u/\DataW.trod enc P W 0 (fun _=>true) true n f.type [u]=some y/\∀k∈y.1.weights P f.type,k∈d.weights P t):=by
 rcases open_slice ht hf with ⟨hcs,_⟩|⟨a,len,cap,m,n,D,Pl,hcs,_,hl,hm,hmm,hx,hi⟩
 . obtain rfl:v=_:=by simpa using hcs
   exact ⟨none,0,0,rfl,Nat.le_refl _,Nat.zero_le _,fun h=>absurd h (Nat.lt_irrefl 0)⟩
 . obtain rfl:v=_:=by simpa using hcs
   simp only [if_true] at hmm;simp only [Prod.mk.injEq] at hx
   have each:∀i,i<len->∀(j:Nat) (f:Field),fs[j]? =some f->∃(u:Value) (y:DataW H × List MemPlace) (n:Nat),W.cell? (a.add (i*fs.size+j))=some u/\DataW.trod enc P W 0 (fun _=>true) true n f.type [u]=some y/\∀k∈y.1.weights P f.type,k∈d.weights P t:=by
    intro i hil j f hj;obtain ⟨cs',hc,ht'⟩:=hi i (by omega);rw [hC] at hc;obtain ⟨ys,n',_,hD,hlen,hyl,hfl⟩:=DataW.trod_struct he ht';obtain ⟨_,hcl,hat⟩:=World.cells?_some hc;obtain ⟨ho,hk⟩:=hone_of hone j f hj;have hjl:j<fs.size:=(Array.getElem?_eq_some_iff.1 hj).1;have hcell:=hat j hjl;have h1:=hfl j f hj;rw [ho,hk] at h1;have hu:(cs'.drop j).take 1=[cs'[j]'(by omega)]:=(by rw [List.drop_eq_getElem_cons (by omega)];rfl);rw [hu,List.getElem?_eq_getElem (show j<ys.length by omega)] at h1;refine ⟨cs'[j]'(by omega),_,n',?_,h1,fun k hk=>?_⟩
    . rw [<-Go.Deep.add_add,hcell]
      exact List.getElem?_eq_getElem (by omega)
    . rw [hx.1]
      simp only [DataW.weights,ht,List.mem_cons,List.mem_append];refine .inr (.inl (L6 (d:=D i) (List.mem_map.2 ⟨i,by simpa using hil,rfl⟩) k ?_));simp only [Prod.mk.injEq] at hD;rw [hD.1];simp only [DataW.weights,he];refine Cy (j:=j) (t:=f.type) (d:=(ys[j]'(by omega)).1) ?_ ?_ k hk
      . rw [List.getElem?_map,Array.getElem?_toList,hj];rfl
      . rw [List.getElem?_map,List.getElem?_eq_getElem (show j<ys.length by omega)];rfl
   refine ⟨some a,len,cap,rfl,hl,hm,fun hp=>?_⟩;obtain ⟨b,o,sp⟩:=a
   have hsp:sp=none:=by
    obtain ⟨u,_,_,hu,_,_⟩:=each 0 hp 0 (fs[0]'hpos) (Array.getElem?_eq_getElem hpos);exact plain_of_cell hu (by simp)
   subst hsp;refine ⟨b,o,rfl,fun i hil j f hj=>?_⟩;obtain ⟨u,y,n,h1,h2,h3⟩:=each i hil j f hj;refine ⟨u,y,n,?_,h2,h3⟩;have e:(⟨b,o,none⟩:Addr).add (i*fs.size+j)=⟨b,o+(i*fs.size+j),none⟩:=(by unfold Addr.add;split<;>simp_all);rw [<-e];exact h1
end
end Go.Proofs.YtjpjjnalpdpljaaGreatDoor.Args
namespace Go.Proofs.YtjpjjnalpdpljaaGreatDoor.Args
open Go.RowKit Go.WideShapes Go.ChangeShapes Mem
section
variable {H:Type} {enc:TypeId × Value->H} {P:Program} {W:World}
theorem mq {x:Int} (h:(Lit.int .u32 x).wf=true):∃n:Nat,x=n/\n<4294967296:=by
 have h1:IntKind.u32.min=0:=rfl;have h2:IntKind.u32.max=4294967295:=rfl;simp only [Lit.wf,Bool.and_eq_true,decide_eq_true_eq] at h;exact ⟨x.toNat,by omega,by omega⟩
theorem Af {x:Int} (h:(Lit.int .i64 x).wf=true): -9223372036854775808<=x/\x<=9223372036854775807:=by
 have h1:IntKind.i64.min= -9223372036854775808:=rfl;have h2:IntKind.i64.max=9223372036854775807:=rfl;simp only [Lit.wf,Bool.and_eq_true,decide_eq_true_eq] at h;omega
def NL (w:World) (k:IntKind) (p:Option Addr) (zs:List Int):Prop:=
 0<zs.length->∃b o,p=some ⟨b,o,none⟩/\∀i (h:i<zs.length),w.cell? ⟨b,o+i,none⟩=some (.int k zs[i])
def UL (w:World) (p:Option Addr) (ns:List Nat):Prop:=NL w .u64 p (ns.map fun n:Nat=>(n:Int))
theorem UL.at_ {w:World} {p:Option Addr} {ns:List Nat} (h:UL w p ns) {i:Nat} (hi:i<ns.length):∃b o,p=some ⟨b,o,none⟩/\w.cell? ⟨b,o+i,none⟩=some (.int .u64 (ns[i]:Int)):=by
 obtain ⟨b,o,e,hc⟩:=h (by simp;omega);exact ⟨b,o,e,by rw [hc i (by simpa using hi)];simp⟩
end
end Go.Proofs.YtjpjjnalpdpljaaGreatDoor.Args
namespace Go.Proofs.YtjpjjnalpdpljaaGreatDoor
open Go.RowKit
namespace Mem
section
variable {α:Type} {K:Kind α} {P:Program}
theorem VK.made (w:World) (B n:Nat) (z:Array Value) (hB:B<=w.heap.size) (hn:n<=1048576):VK K (w.alloc (.cells (madeCells z (n*K.k)) K.T)) B (some ⟨w.heap.size,0,none⟩) n []:=
 World.ownsRow_made w _ n hB (by unfold maxLen;omega) (size_madeCells _ _)
end
end Mem
end Go.Proofs.YtjpjjnalpdpljaaGreatDoor
namespace Go.Proofs.YtjpjjnalpdpljaaGreatDoor.Calm
open Go.RowKit Go.Sort
section
variable {P:Program} {ops:Array Oper} {md:Region.Mode} {w0:World}
def Kept (w w':World):Prop:=Bw w w'
def upon (P:Program) (w:World) (v:Value):Result Next->Prop
 | .ok (.value u) w'=>w'=w/\u=v
 | .ok .skip w'=>w'=w/\v=undef
 | .ok (.enter f args) w'=>w'=w/\Calls P f args w (fun e w''=>e=.returned v/\Kept w w'')
 |_=>False
def gG (P:Program) (o:Oper) (a:Act) (w:World) (v:Value):Prop:=upon P w v ((execOp a.eval o).run P w)
def calm (P:Program) (w0:World) (o:Oper) (a:Act) (next:Act->Prop):Prop:=∃v,(∀p:Regrown,gG P o a (grow (redrawn w0 p.d) p.os) v)/\next (a.put o.dst v)
def cOp (P:Program) (ops:Array Oper) (w0:World) (i:Nat) (K:Act->Prop) (a:Act):Prop:=
 match ops[i]? with
 |none=>K a
 |some o=>if Region.wanted o (yielded ops a.tmps) then calm P w0 o a K else K (a.put o.dst undef)
def Y (P:Program) (ops:Array Oper) (w0:World) (o:Oper) (v:Value) (a:Act):Prop:=
 (Region.wanted o (yielded ops a.tmps)=true/\∀p:Regrown,gG P o a (grow (redrawn w0 p.d) p.os) v)\/(Region.wanted o (yielded ops a.tmps)=false/\v=undef)
theorem Y.cOp {i:Nat} {o:Oper} {v:Value} {a:Act} (hi:ops[i]? =some o) (hy:Y P ops w0 o v a) {K:Act->Prop} (h:K (a.put o.dst v)):cOp P ops w0 i K a:=by
 unfold Calm.cOp;simp only [hi];rcases hy with ⟨hw,hv⟩|⟨hw,rfl⟩
 . rw [if_pos hw];exact ⟨v,hv,h⟩
 . rw [if_neg (by rw [hw];exact Bool.false_ne_true)];exact h
theorem Y.put {o oj:Oper} {v u:Value} {a:Act} (hs:∀cs b,o.op≠ .select cs b) (h3:∀d,oj.dst=some d->d∉o.looksAt ops) (hy:Y P ops w0 o v a):Y P ops w0 o v (a.put oj.dst u):=by
 unfold Y gG at*;rw [execOp_put o hs a oj.dst u h3,wanted_put o a oj.dst u h3];exact hy
structure Floats (P:Program) (ops:Array Oper) (w0:World) (n:Option Nat) (oF:Oper) (V:Value->World->Prop):Prop where
 RZ:∀i,n=some i->ops[i]? =some oF
 wanted:∀i,n=some i->∀a:Act,Region.wanted oF (yielded ops a.tmps)=true
 run:∀i,n=some i->∀(a:Act) (w:World),Bw w0 w->∃p w',(execOp a.eval oF).run P w= .ok (.value p) w'/\Bw w w'/\V p w'
 stable:∀p w w',V p w->Bw w w'->V p w'
theorem gV {listed:Array Bool} {i:Nat} (h:listed.getD i true=false):listed.getD i false=false:=by
 rcases Nat.lt_or_ge i listed.size with h'|h'
 . simp [h'] at h ⊢;exact h
 . simp [Array.getElem?_eq_none h'] at h
def sinkB (md:Region.Mode) (ops:Array Oper) (m:Nat):Bool:=
 (List.range ops.size).all fun t=>decide (t<m) || (List.range m).all fun i=>Region.waitsFor md ops t i
theorem waits {m i:Nat} {listed:Array Bool} (hs:sinkB md ops m=true) (hi:i<m) (hun:listed.getD i true=false) {j:Nat} (hj:j∈Region.ready md ops listed):j<m:=by
 rcases Nat.lt_or_ge j m with h|h
 . exact h
 . exfalso
   obtain ⟨_,oj,hoj,hall⟩:=mem_ready.1 hj;have hjs:j<ops.size:=(Array.getElem?_eq_some_iff.1 hoj).1;have h1:=List.all_eq_true.1 hs j (List.mem_range.2 hjs);simp only [Bool.or_eq_true,decide_eq_true_eq] at h1;rcases h1 with h1|h1
   . omega
   . obtain ⟨o',ho',e,he,hb,hon⟩:=Region.waitsFor_spec (List.all_eq_true.1 h1 i (List.mem_range.2 hi))
     obtain rfl:o'=oj:=Option.some.inj (ho'.symm.trans hoj);have:=hall e he hb;rw [hon,gV hun] at this;cases this
def Laid (w0:World) (obj:Obj) (p:Value) (w:World):Prop:=∃b,p= .pointer (some ⟨b,0,none⟩)/\w0.heap.size<=b/\b<w.heap.size/\w.heap[b]? =some obj
end
theorem bt {w w1 w2:World} (h:Bw w w1) (k:Bw w1 w2):Bw w w2:=h.trans (k.mono h.size)
theorem bd {w w1:World} (h:Bw w w1) (n:Nat):Bw w (w1.drewN n):=h.trans ⟨rfl,rfl,rfl,Nat.le_refl _,fun _ _=>rfl⟩
theorem cell_of_block {w:World} {b:Nat} {cs:Array Value} {T:TypeId} (h:w.heap[b]? =some (.cells cs T)) (i:Nat):w.cell? ⟨b,i,none⟩=cs[i]? :=by
 simp [World.cell?,h]
theorem rH {w:World} {b:Nat} {cs:Array Value} {T:TypeId} (h:w.heap[b]? =some (.cells cs T)) (i:Nat):w.frozen? ⟨b,i,none⟩=false:=by
 simp [World.frozen?,h]
def Has (w:World) (b:Nat) (cs:Array Value) (T:TypeId):Prop:=w.heap[b]? =some (.cells cs T)
theorem Has.lt {w:World} {b:Nat} {cs:Array Value} {T:TypeId} (h:Has w b cs T):b<w.heap.size:=(Array.getElem?_eq_some_iff.1 h).1
theorem Has.cell {w:World} {b:Nat} {cs:Array Value} {T:TypeId} (h:Has w b cs T) (i:Nat):w.cell? ⟨b,i,none⟩=cs[i]? :=cell_of_block h i
theorem Has.free {w:World} {b:Nat} {cs:Array Value} {T:TypeId} (h:Has w b cs T) (i:Nat):w.frozen? ⟨b,i,none⟩=false:=rH h i
theorem Has.kept {w w':World} {b:Nat} {cs:Array Value} {T:TypeId} (h:Has w b cs T) (hb:Bw w w'):Has w' b cs T:=(hb.block b h.lt).trans h
theorem Has.new (w:World) (cs:Array Value) (T:TypeId):Has (w.alloc (.cells cs T)) w.heap.size cs T:=by
 show (w.heap.push _)[w.heap.size]? =_;simp
theorem Has.alloc {w:World} {b:Nat} {cs:Array Value} {T:TypeId} (h:Has w b cs T) (o:Obj):Has (w.alloc o) b cs T:=h.kept ((Below.refl _ _).alloc (Nat.le_refl _) o)
theorem Has.drewN {w:World} {b:Nat} {cs:Array Value} {T:TypeId} (h:Has w b cs T) (n:Nat):Has (w.drewN n) b cs T:=h
attribute [go_sem] calm gG upon
end Go.Proofs.YtjpjjnalpdpljaaGreatDoor.Calm
namespace Go.Proofs.YtjpjjnalpdpljaaGreatDoor.Wd
structure St where
 b:List UInt8
 e:Int
def St.ok (s:St):Prop:=s.e≠0->s.b=[]
def dn (s:St) (x:Int):St:=if s.e=0 then ⟨[],x⟩ else s
def bF (s:St) (n:Int):St × List UInt8:=
 if n<0 then (dn s 2,[]) else if (s.b.length:Int)<n then (dn s 5,[]) else (⟨s.b.drop n.toNat,s.e⟩,s.b.take n.toNat)
def bC (s:St) (n:Int):St × Nat:=if isW n then ((bF s n).1,val (bF s n).2) else (dn s 2,0)
def gZ (l:List UInt8):Bool:=l.all (· ==0)
def bD (s:St) (n:Int):St:=if gZ (bF s n).2 then (bF s n).1 else dn (bF s n).1 3
def bW (s:St) (n m:Int):St × List UInt8:=
 if n<0\/m<n then (dn s 2,[])
 else if ((bF s m).2.length:Int)<m then ((bF s m).1,[])
 else if gZ ((bF s m).2.drop n.toNat) then ((bF s m).1,(bF s m).2.take n.toNat) else (dn (bF s m).1 3,[])
theorem iE {s:St} (h:s.ok) (x:Int):(dn s x).ok:=by
 unfold dn;split
 . intro _;rfl
 . exact h
theorem kC {s:St} (h:s.ok) (he:s.e≠0) (n:Int):bF s n=(s,[]):=by
 obtain ⟨b,e⟩:=s;have hb:b=[]:=h he;simp only at he;subst hb;unfold bF dn;split
 . simp
 . split
   . simp
   . simp
theorem Gi (s:St) {n:Int} (h:n<0):bF s n=(dn s 2,[]):=if_pos h
theorem jS (s:St) {n:Int} (h0:¬n<0) (h:(s.b.length:Int)<n):bF s n=(dn s 5,[]):=by unfold bF;rw [if_neg h0,if_pos h]
theorem jF (s:St) {n:Int} (h0:¬n<0) (h:¬(s.b.length:Int)<n):bF s n=(⟨s.b.drop n.toNat,s.e⟩,s.b.take n.toNat):=by unfold bF;rw [if_neg h0,if_neg h]
theorem jG {s:St} (h:s.ok) (n:Int):(bF s n).1.ok:=by
 unfold bF;split
 . exact iE h _
 . split
   . exact iE h _
   . intro he;simp [h he]
theorem take_len (s:St) (n:Int):((bF s n).2.length:Int)<=if n<0 then 0 else n:=by
 unfold bF;split
 . simp
 . split
   . simp;omega
   . simp;omega
theorem wJ (s:St) (n:Int):(bF s n).2.length<=s.b.length:=by
 unfold bF;split
 . simp
 . split
   . simp
   . simp;omega
end Go.Proofs.YtjpjjnalpdpljaaGreatDoor.Wd
namespace Go.Proofs.YtjpjjnalpdpljaaGreatDoor
open Go.RowKit
namespace No
open Mem
open Wd (be val aD dY isW St bF bC bD bW dn gZ kC jF jS jG iE)
section
variable {s:St}
theorem nR (h:s.ok) {n:Int} (h0:0<=n) (he:(bF s n).1.e=0):s.e=0/\(bF s n).2.length=n.toNat/\s.b=(bF s n).2++(bF s n).1.b:=by
 by_cases h1:s.e=0
 . by_cases h2:(s.b.length:Int)<n
   . rw [jS s (by omega) h2] at he
     unfold dn at he;rw [if_pos h1] at he;cases he
   . rw [jF s (by omega) h2]
     refine ⟨h1,?_,(List.take_append_drop _ _).symm⟩;rw [List.length_take];omega
 . rw [kC h h1] at he
   exact absurd he h1
theorem rJ {x R:List UInt8} {n:Int} (hn:n=x.length):bF ⟨x++R,0⟩ n=(⟨R,0⟩,x):=by
 subst hn;rw [jF _ (by omega) (by simp only [List.length_append];omega)];simp
theorem dx (h:s.ok) (n:Int):(bC s n).1.ok:=by
 unfold bC;split
 . exact jG h n
 . exact iE h _
theorem rO (h:s.ok) (n:Int):(bD s n).ok:=by
 unfold bD;split
 . exact jG h n
 . exact iE (jG h n) _
theorem rQ (h:s.ok) (n m:Int):(bW s n m).1.ok:=by
 unfold bW;split
 . exact iE h _
 . split
   . exact jG h m
   . split
     . exact jG h m
     . exact iE (jG h m) _
theorem num_inv (h:s.ok) {w:Nat} (hw:isW (w:Int)=true) (he:(bC s w).1.e=0):s.e=0/\s.b=be w (bC s w).2++(bC s w).1.b/\(bC s w).2<256 ^ w:=by
 have e:bC s w=((bF s w).1,val (bF s w).2):=by
  unfold bC;rw [if_pos hw]
 rw [e] at he ⊢;obtain ⟨h1,h2,h3⟩:=nR h (by omega) he;have h4:(bF s (w:Int)).2.length=w:=h2;have h5:=Wd.LZ (bF s (w:Int)).2;have h6:=Wd.uD (bF s (w:Int)).2;rw [h4] at h5 h6;refine ⟨h1,?_,h6⟩;show s.b=be w (val (bF s w).2)++(bF s w).1.b;rw [h5];exact h3
theorem kD {w v:Nat} {R:List UInt8} (hw:isW (w:Int)=true) (hv:v<256 ^ w):bC ⟨be w v++R,0⟩ w=(⟨R,0⟩,v):=by
 unfold bC;rw [if_pos hw,rJ (by rw [aD])];simp only;rw [dY,Nat.mod_eq_of_lt hv]
theorem Cz {l:List UInt8} (h:gZ l=true) {n:Int} (hn:l.length=n.toNat):l=zs n:=by
 unfold zs;rw [List.eq_replicate_iff];refine ⟨hn,fun x hx=>?_⟩;unfold gZ at h;simpa using List.all_eq_true.1 h x hx
theorem CG (n:Int):gZ (zs n)=true:=by
 unfold gZ zs;rw [List.all_eq_true];intro x hx;rw [List.eq_of_mem_replicate hx];rfl
theorem kS (h:s.ok) {n:Int} (h0:0<=n) (he:(bD s n).e=0):s.e=0/\s.b=zs n++(bD s n).b:=by
 unfold bD at he ⊢;split at he
 . rename_i h1
   rw [if_pos h1];obtain ⟨h2,h3,h4⟩:=nR h h0 he;rw [<-Cz h1 h3];exact ⟨h2,h4⟩
 . unfold dn at he
   split at he
   . cases he
   . rename_i h2
     exact absurd he h2
theorem kT {n:Int} {R:List UInt8} (h0:0<=n):bD ⟨zs n++R,0⟩ n=⟨R,0⟩:=by
 unfold bD;rw [rJ (by rw [gY];omega)];simp only;rw [if_pos (CG n)]
theorem rR (h:s.ok) {n m:Int} (he:(bW s n m).1.e=0):s.e=0/\0<=n/\n<=m/\(bW s n m).2.length=n.toNat/\s.b=slotL (bW s n m).2 m++(bW s n m).1.b:=by
 unfold bW at he ⊢;split at he
 . by_cases h1:s.e=0
   . unfold dn at he
     rw [if_pos h1] at he;cases he
   . unfold dn at he
     rw [if_neg h1] at he;exact absurd he h1
 . rename_i h1
   rw [if_neg h1];have h0:0<=n/\n<=m:=(by omega);split at he
   . rename_i h2
     obtain ⟨h3,h4,-⟩:=nR h (by omega) he;rw [h4] at h2;omega
   . rename_i h2
     rw [if_neg h2];split at he
     . rename_i h5
       rw [if_pos h5];obtain ⟨h3,h4,h6⟩:=nR h (by omega) he
       have h7:((bF s m).2.take n.toNat).length=n.toNat:=by
        rw [List.length_take,h4];omega
       refine ⟨h3,h0.1,h0.2,h7,?_⟩;simp only;unfold slotL;have h8:(bF s m).2.drop n.toNat=zs (m-n):=Cz h5 (by rw [List.length_drop,h4];omega);rw [h7,show m-((n.toNat:Nat):Int)=m-n by omega,<-h8,List.take_append_drop];exact h6
     . unfold dn at he
       split at he
       . cases he
       . rename_i h6
         exact absurd he h6
theorem rT {t R:List UInt8} {n m:Int} (hn:n=t.length) (hm:n<=m):bW ⟨slotL t m++R,0⟩ n m=(⟨R,0⟩,t):=by
 have hl:(slotL t m).length=m.toNat:=dN (by omega);have ht:bF ⟨slotL t m++R,0⟩ m=(⟨R,0⟩,slotL t m):=rJ (by rw [hl];omega);unfold bW;rw [if_neg (by omega),ht];simp only;rw [if_neg (by rw [hl];omega)]
 have hd:(slotL t m).drop n.toNat=zs (m-t.length):=by
  unfold slotL;exact List.drop_left' (by omega)
 have hk:(slotL t m).take n.toNat=t:=by
  unfold slotL;exact List.take_left' (by omega)
 rw [hd,if_pos (CG _),hk]
end
def rdS {α:Type} (f:St->St × α):Nat->St->St × List α
 |0,s=>(s,[])
 |k+1,s=>((f (rdS f k s).1).1,(rdS f k s).2++[(f (rdS f k s).1).2])
section
variable {α:Type} {f:St->St × α} {g:α->List UInt8}
theorem dZ (k:Nat) (s:St):(rdS f k s).2.length=k:=by
 induction k with
 |zero=>rfl
 |succ k ih=>simp [rdS,ih]
theorem uG (hf:∀s,s.ok->(f s).1.ok) {s:St} (h:s.ok) (k:Nat):(rdS f k s).1.ok:=by
 induction k with
 |zero=>exact h
 |succ k ih=>exact hf _ ih
theorem rU {P:α->Prop} (hf:∀s,s.ok->(f s).1.ok) (hi:∀s,s.ok->(f s).1.e=0->s.e=0/\s.b=g (f s).2++(f s).1.b/\P (f s).2) {s:St} (h:s.ok) {k:Nat} (he:(rdS f k s).1.e=0):s.e=0/\s.b=(rdS f k s).2.flatMap g++(rdS f k s).1.b/\∀x∈(rdS f k s).2,P x:=by
 induction k with
 |zero=>exact ⟨he,by simp [rdS],by simp [rdS]⟩
 |succ k ih=>
  obtain ⟨h1,h2,h3⟩:=hi _ (uG hf h k) he;obtain ⟨h4,h5,h6⟩:=ih h1;refine ⟨h4,?_,fun x hx=>?_⟩
  . show s.b=((rdS f k s).2++[(f (rdS f k s).1).2]).flatMap g++(f (rdS f k s).1).1.b
    rw [List.flatMap_append,h5,h2];simp
  . rcases List.mem_append.1 hx with hx|hx
    . exact h6 x hx
    . obtain rfl:=List.mem_singleton.1 hx
      exact h3
theorem rV {R:List UInt8} {L:List α} (hf:∀x∈L,∀R,f ⟨g x++R,0⟩=(⟨R,0⟩,x)):rdS f L.length ⟨L.flatMap g++R,0⟩=(⟨R,0⟩,L):=by
 suffices h:∀k,k<=L.length->rdS f k ⟨L.flatMap g++R,0⟩=(⟨(L.drop k).flatMap g++R,0⟩,L.take k) by
  have:=h L.length (Nat.le_refl _);simpa using this
 intro k
 induction k with
 |zero=>intro _;simp [rdS]
 |succ k ih=>
  intro hk;have h1:=ih (by omega);have hx:L.drop k=L[k]::L.drop (k+1):=List.drop_eq_getElem_cons (by omega);show ((f (rdS f k _).1).1,(rdS f k _).2++[(f (rdS f k _).1).2])=_;rw [h1];simp only;rw [hx,List.flatMap_cons,List.append_assoc,hf _ (List.getElem_mem _)];simp only;rw [List.take_succ_eq_append_getElem (by omega)]
end
theorem uH (s:St) {w:Nat} (hw:isW (w:Int)=true) (h4:w<=4):(bC s w).2<4294967296:=by
 unfold bC;rw [if_pos hw];simp only;have h1:=Wd.uD (bF s (w:Int)).2;have h2:=Wd.take_len s (w:Int);rw [if_neg (by omega)] at h2;have h3:(256:Nat) ^ (bF s (w:Int)).2.length<=256 ^ 4:=Nat.pow_le_pow_right (by decide) (by omega);have h5:(256:Nat) ^ 4=4294967296:=by decide
 omega
end No
end Go.Proofs.YtjpjjnalpdpljaaGreatDoor
