import Derived.Test.YtmcbidhpkpmalaaGreatDoorPkAA
namespace Go.Proofs.YtmcbidhpkpmalaaGreatDoor.ah
open Go.RowKit Go.Sort Flow
abbrev Lay:=List (Nat × Obj)
def Laid(G:Lay)(W:World):Prop:=∀x∈G,W.heap[x.1]? =some x.2
theorem Laid.mono{G G':Lay}{W:World}(h:Laid G' W)(hs:∀x∈G,x∈G'):Laid G W:=fun x hx=>h x (hs x hx)
theorem Laid.nil(W:World):Laid [] W:=fun _ h=>by cases h
structure aQ(S:List Nat)(w:World)(G:Lay) where
 p:But
 laid:Laid G (but S w p)
def aQ.sea{S:List Nat}{w:World}{G:Lay}(q:aQ S w G):World:=but S w q.p
section
variable{S:List Nat}{w:World}{G G':Lay}
theorem aQ.into(q:aQ S w G):Into S w q.sea:=Gq S w q.p
theorem uU{W:World}(h:Into S w W)(hl:Laid G W):∃q:aQ S w G,q.sea=W:=by obtain⟨p,rfl⟩:=xD h;exact⟨⟨p,hl⟩,rfl⟩
theorem aQ.cell{a:Addr}{v:Value}(hc:w.cell? a=some v)(hn:a.block∉S)(q:aQ S w G):q.sea.cell? a=some v:=q.into.cell hc hn
def aQ.less(q:aQ S w G')(hs:∀x∈G,x∈G'):aQ S w G:=⟨q.p,q.laid.mono hs⟩
instance:Nonempty (aQ S w []):=let ⟨q,_⟩:=uU (G:=[]) (Into.refl S w) (Laid.nil w);⟨q⟩
end
def news(W W':World):Lay:=(List.range' W.heap.size (W'.heap.size-W.heap.size)).filterMap fun k=>(W'.heap[k]?).map fun o=>(k,o)
theorem wW{W W':World}{x:Nat × Obj}(h:x∈news W W'):W.heap.size<=x.1/\W'.heap[x.1]? =some x.2:=by obtain⟨k,hk,hx⟩:=List.mem_filterMap.1 h;obtain⟨o,ho,rfl⟩:=Option.map_eq_some_iff.1 hx;exact⟨(List.mem_range'_1.1 hk).1,ho⟩
theorem BS(W:World)(obj:Obj):news W (W.alloc obj)=[(W.heap.size,obj)]:=by
 have h1:(W.alloc obj).heap.size-W.heap.size=1:=by simp
 unfold news;rw[h1];have h2:(((W.alloc obj).heap[W.heap.size]?).map fun o=>(W.heap.size,o))=some (W.heap.size,obj):=by rw[heap_alloc_new];rfl
 rw[List.range'_succ,List.filterMap_cons_some (f:=fun k=>((W.alloc obj).heap[k]?).map fun o=>(k,o)) h2];rfl
section
variable{P:Program}{ops:Array Oper}{md:Region.Mode}{S:List Nat}{n0:Nat}
def Jz(P:Program)(S:List Nat)(w0:World)(G:Lay)(o:Oper)(a:Act)(next:Act->Prop):Prop:=∃v,(∀q:aQ S w0 G,gQ P o a q.sea v)/\next (a.put o.dst v)
def yR(P:Program)(ops:Array Oper)(n0:Nat)(o:Oper)(a:Act):Prop:=
 Region.wanted o (yielded ops a.tmps)=true->∀W:World,n0<=W.heap.size->∃v W',(execOp a.eval o).run P W= .ok (.value v) W'/\Kept W W'
def Made(P:Program)(ops:Array Oper)(n0:Nat)(o:Oper)(a:Act)(v:Value)(ext:Lay):Prop:=
 (Region.wanted o (yielded ops a.tmps)=true/\∃W W':World,n0<=W.heap.size/\(execOp a.eval o).run P W= .ok (.value v) W'/\Kept W W'/\ext=news W W')\/
 (Region.wanted o (yielded ops a.tmps)=false/\v=undef/\ext=[])
theorem yR.put{o:Oper}{a:Act}(d:Option Tmp)(u:Value)(hs:∀cs b,o.op≠ .select cs b)(h:∀t,d=some t->t∉o.looksAt ops):yR P ops n0 o (a.put d u)↔yR P ops n0 o a:=by unfold yR;rw[wanted_put o a d u h,execOp_put o hs a d u h]
theorem Made.put{o:Oper}{a:Act}(d:Option Tmp)(u:Value)(hs:∀cs b,o.op≠ .select cs b)(h:∀t,d=some t->t∉o.looksAt ops){v:Value}{ext:Lay}:Made P ops n0 o (a.put d u) v ext↔Made P ops n0 o a v ext:=by unfold Made;rw[wanted_put o a d u h,execOp_put o hs a d u h]
theorem yR.made{o:Oper}{a:Act}(h:yR P ops n0 o a){W:World}(hW:n0<=W.heap.size):∃v ext,Made P ops n0 o a v ext:=by cases hw:Region.wanted o (yielded ops a.tmps)with|true=>obtain⟨v,W',h1,h2⟩:=h hw W hW;exact⟨v,_,.inl ⟨hw,W,W',hW,h1,h2,rfl⟩⟩|false=>exact⟨undef,[],.inr ⟨hw,rfl,rfl⟩⟩
def AB(S:List Nat)(w:World)(ext G:Lay):Prop:=(∃W,Into S w W/\Laid (ext++G) W)/\∀x∈ext,∀y∈G,x.1≠y.1
def jC(P:Program)(ops:Array Oper)(n0:Nat):List Oper->Act->Prop
 |[],_=>True
 |o::r,a=>yR P ops n0 o a/\∀v ext,Made P ops n0 o a v ext->jC P ops n0 r (a.put o.dst v)
def walk(P:Program)(ops:Array Oper)(S:List Nat)(n0:Nat)(E:World->Lay->Act->Prop):List (Oper × Nat × List Oper)->World->Lay->Act->Prop
 |[],w,G,a=>E w G a
 |(o,0,_)::r,w,G,a=>if Region.wanted o (yielded ops a.tmps)then Jz P S w G o a (walk P ops S n0 E r w G)else walk P ops S n0 E r w G (a.put o.dst undef)
 |(o,1,xs)::r,w,G,a=>jC P ops n0 xs a/\(if Region.wanted o (yielded ops a.tmps)then ∃V:Value->World->Prop,(∀W,Kept w W->Laid G W->Gg P S o a W V)/\∀v w1,V v w1->Into S w w1->Laid G w1->walk P ops S n0 E r w1 G (a.put o.dst v)
    else walk P ops S n0 E r w G (a.put o.dst undef))
 |(o,2,_)::r,w,G,a=>∃v,Yields P ops o v a/\walk P ops S n0 E r w G (a.put o.dst v)
 |(o,_+3,xs)::r,w,G,a=>jC P ops n0 xs a/\yR P ops n0 o a/\∀v ext,Made P ops n0 o a v ext->AB S w ext G->walk P ops S n0 E r w (ext++G) (a.put o.dst v)
theorem iq{E:World->Lay->Act->Prop}(hE:∀w G G' a,(∀x∈G,x∈G')->E w G a->E w G' a):∀(L:List (Oper × Nat × List Oper)) (w:World) (G G':Lay) (a:Act),(∀x∈G,x∈G')->walk P ops S n0 E L w G a->walk P ops S n0 E L w G' a
 |[],w,G,G',a,hs,h=>hE w G G' a hs h
 |(o,0,_)::r,w,G,G',a,hs,h=>by unfold walk at h ⊢;split;(. rename_i hw;rw[if_pos hw]at h;obtain⟨v,h1,h2⟩:=h;exact⟨v,fun q=>h1 (q.less hs),iq hE r w G G' _ hs h2⟩);. rename_i hw;rw[if_neg hw]at h;exact iq hE r w G G' _ hs h
 |(o,1,xs)::r,w,G,G',a,hs,h=>by unfold walk at h ⊢;refine⟨h.1,?_⟩;have h:=h.2;split;(. rename_i hw;rw[if_pos hw]at h;obtain⟨V,h1,h2⟩:=h;exact⟨V,fun W hk hl=>h1 W hk (hl.mono hs),fun v w1 hV hI hl=>iq hE r w1 G G' _ hs (h2 v w1 hV hI (hl.mono hs))⟩);. rename_i hw;rw[if_neg hw]at h;exact iq hE r w G G' _ hs h
 |(o,2,_)::r,w,G,G',a,hs,h=>by obtain⟨v,h1,h2⟩:=h;exact⟨v,h1,iq hE r w G G' _ hs h2⟩
 |(o,k+3,xs)::r,w,G,G',a,hs,h=>by obtain⟨h0,h1,h2⟩:=h;(have hs':∀(ext:Lay),∀x∈ext++G,x∈ext++G':=fun ext x hx=>by rcases List.mem_append.1 hx with hx|hx;(. exact List.mem_append_left _ hx);. exact List.mem_append_right _ (hs x hx));exact⟨h0,h1,fun v ext hm ⟨⟨W,hI,hl⟩,hA⟩=>iq hE r w _ _ _ (hs' ext) (h2 v ext hm ⟨⟨W,hI,hl.mono (hs' ext)⟩,fun x hx y hy=>hA x hx y (hs y hy)⟩)⟩
def wX(ops:Array Oper)(i x:Nat):Bool:=match ops[i]?,ops[x]? with
 |some oi,some ox=>oi.apart ops ox
 |_,_=>false
def lG(ops:Array Oper)(x:Nat):List Nat->Bool
 |[]=>true
 |y::r=>if y=x then !r.contains x else wX ops y x&&lG ops x r
def JA(ops:Array Oper)(x:Nat):List (Nat × List Nat)->Bool
 |[]=>false
 |(i,xs)::r=>if i=x then r.all fun e=>e.1 != x&& !e.2.contains x else wX ops i x&&lG ops x xs&&JA ops x r
def pull(x:Nat):List (Nat × List Nat)->List (Nat × List Nat)
 |[]=>[]
 |(i,xs)::r=>if i=x then pull x r else(i,xs.filter (· != x))::pull x r
def aM(ops:Array Oper)(xs:List Nat):List Oper:=xs.filterMap fun y=>ops[y]?
def pick(ops:Array Oper)(kd:Nat->Nat):List (Nat × List Nat)->List (Oper × Nat × List Oper)
 |[]=>[]
 |(i,xs)::r=>(match ops[i]? with|some o=>[(o,kd i,aM ops xs)]|none=>[])++pick ops kd r
theorem qZ{x:Nat}:∀{r:List Nat},r.contains x=false->r.filter (· != x)=r:=fun{r} h=>by
 rw[List.filter_eq_self];intro y hy;have:y≠x:=by rintro rfl;simp[hy]at h
 simpa using this
theorem wY{x:Nat}:∀{r:List (Nat × List Nat)},(r.all fun e=>e.1 != x&& !e.2.contains x)=true->pull x r=r
 |[],_=>rfl
 |(i,xs)::r,h=>by simp only[List.all_cons,Bool.and_eq_true,bne_iff_ne,ne_eq,Bool.not_eq_true']at h;unfold pull;rw[if_neg h.1.1,qZ h.1.2,wY (by simpa using h.2)]
theorem lH{x:Nat}{ox:Oper}(hx:ops[x]? =some ox)(hsel:∀(j:Nat) (o:Oper) cs b,ops[j]? =some o->o.op≠ .select cs b){v:Value}{ext:Lay}:
 ∀(xs:List Nat) (a:Act),lG ops x xs=true->Made P ops n0 ox a v ext->jC P ops n0 (aM ops xs) a->jC P ops n0 (aM ops (xs.filter (· != x))) (a.put ox.dst v)
 |[],_,_,_,_=>trivial
 |y::r,a,hB,hm,h=>by
  unfold lG at hB;by_cases hyx:y=x
  . subst hyx
    rw[if_pos rfl]at hB;rw[List.filter_cons_of_neg (by simp),qZ (by simpa using hB)];unfold aM at h;rw[List.filterMap_cons_some hx]at h;exact h.2 v ext hm
  . rw[if_neg hyx]at hB
    simp only[Bool.and_eq_true]at hB;obtain⟨hap,hB⟩:=hB;rw[List.filter_cons_of_pos (by simpa using hyx)];unfold wX at hap;rw[hx]at hap;cases hy:ops[y]? with
    |none=>rw[hy]at hap;cases hap
    |some oy=>
     rw[hy]at hap;obtain⟨g1,g2,g3⟩:=Oper.apart_spec hap;have hsy:=fun cs b=>hsel y oy cs b hy;have hsx:=fun cs b=>hsel x ox cs b hx;unfold aM at h ⊢;rw[List.filterMap_cons_some hy]at h ⊢;refine⟨(yR.put _ _ hsy g3).2 h.1,fun v' ext' hm'=>?_⟩;rw[<-Act.put_comm a v' v g2];exact lH hx hsel r _ hB ((Made.put _ _ hsx g1).2 hm) (h.2 v' ext' ((Made.put _ _ hsy g3).1 hm'))
theorem wZ{x:Nat}{ox:Oper}(hx:ops[x]? =some ox)(hsel:∀(j:Nat) (o:Oper) cs b,ops[j]? =some o->o.op≠ .select cs b){W0:World}(hW:n0<=W0.heap.size):
 ∀(xs:List Nat) (a:Act),lG ops x xs=true->xs.contains x=true->jC P ops n0 (aM ops xs) a->yR P ops n0 ox a
 |[],_,_,hc,_=>by cases hc
 |y::r,a,hB,hc,h=>by
  unfold lG at hB;by_cases hyx:y=x
  . subst hyx
    unfold aM at h;rw[List.filterMap_cons_some hx]at h;exact h.1
  . rw[if_neg hyx]at hB
    simp only[Bool.and_eq_true]at hB;obtain⟨hap,hB⟩:=hB;unfold wX at hap;rw[hx]at hap;cases hy:ops[y]? with
    |none=>rw[hy]at hap;cases hap
    |some oy=>
     rw[hy]at hap;obtain⟨g1,g2,g3⟩:=Oper.apart_spec hap;unfold aM at h;rw[List.filterMap_cons_some hy]at h;obtain⟨v',ext',hm'⟩:=h.1.made hW
     have hcr:r.contains x=true:=by
      simp only[List.contains_cons,Bool.or_eq_true,beq_iff_eq]at hc;exact hc.resolve_left (fun e=>hyx e.symm)
     exact(yR.put _ _ (fun cs b=>hsel x ox cs b hx) g1).1 (wZ hx hsel hW r _ hB hcr (h.2 v' ext' hm'))
theorem xk{E:World->Lay->Act->Prop}(hE:∀w G G' a,(∀x∈G,x∈G')->E w G a->E w G' a){kd:Nat->Nat}{x:Nat}{ox:Oper}(hx:ops[x]? =some ox)(hkx:kd x=3)(hsel:∀(j:Nat) (o:Oper) cs b,ops[j]? =some o->o.op≠ .select cs b){v:Value}{ext:Lay}:
 ∀(ord:List (Nat × List Nat)) (w:World) (G:Lay) (a:Act),JA ops x ord=true->Made P ops n0 ox a v ext->AB S w ext G->walk P ops S n0 E (pick ops kd ord) w G a->walk P ops S n0 E (pick ops kd (pull x ord)) w (ext++G) (a.put ox.dst v)
 |[],_,_,_,hB,_,_,_=>by cases hB
 |(i,xs)::r,w,G,a,hB,hm,hT,h=>by
  unfold JA at hB;by_cases hix:i=x
  . subst hix
    rw[if_pos rfl]at hB;unfold pull;rw[if_pos rfl,wY hB];unfold pick at h;rw[hx,hkx]at h;simp only[List.cons_append,List.nil_append]at h;obtain⟨_,_,h2⟩:=h;exact h2 v ext hm hT
  . rw[if_neg hix]at hB
    simp only[Bool.and_eq_true]at hB;obtain⟨⟨hap,hmk⟩,hB⟩:=hB;unfold pull;rw[if_neg hix];unfold wX at hap;rw[hx]at hap;cases hi:ops[i]? with
    |none=>rw[hi]at hap;cases hap
    |some oi=>
     rw[hi]at hap;obtain⟨g1,g2,g3⟩:=Oper.apart_spec hap;have hsi:=fun cs b=>hsel i oi cs b hi;have hsx:=fun cs b=>hsel x ox cs b hx;unfold pick at h ⊢;rw[hi]at h ⊢;simp only[List.cons_append,List.nil_append]at h ⊢;have hsub:∀y∈G,y∈ext++G:=fun y hy=>List.mem_append_right _ hy
     have MQ:=fun u (w':World) (G':Lay) hT' (h':walk P ops S n0 E (pick ops kd r) w' G' (a.put oi.dst u))=>
      xk hE hx hkx hsel r w' G' (a.put oi.dst u) hB ((Made.put _ _ hsx g1).2 hm) hT' h'
     have hcom:=fun u=>Act.put_comm a u v g2
     match hk:kd i with
     |0=>
      rw[hk]at h;unfold walk at h ⊢;rw[wanted_put oi a ox.dst v g3];split
      . rename_i hw
        rw[if_pos hw]at h;obtain⟨u,h1,h2⟩:=h;refine⟨u,fun q=>?_,by rw[<-hcom];exact MQ u w G hT h2⟩;have:=h1 (q.less hsub);unfold gQ at*
        rwa [execOp_put oi hsi a ox.dst v g3]
      . rename_i hw
        rw[if_neg hw]at h;rw[<-hcom];exact MQ undef w G hT h
     |1=>
      rw[hk]at h;unfold walk at h ⊢;refine⟨lH hx hsel xs a hmk hm h.1,?_⟩;have h:=h.2;rw[wanted_put oi a ox.dst v g3];split
      . rename_i hw
        rw[if_pos hw]at h;obtain⟨V,h1,h2⟩:=h;refine⟨V,fun W hk' hl=>?_,fun u w1 hV hI hl=>?_⟩
        . have:=h1 W hk' (hl.mono hsub)
          unfold Gg at*
          rwa [execOp_put oi hsi a ox.dst v g3]
        . rw[<-hcom];exact MQ u w1 G ⟨⟨w1,Into.refl _ _,hl⟩,hT.2⟩ (h2 u w1 hV hI (hl.mono hsub))
      . rename_i hw
        rw[if_neg hw]at h;rw[<-hcom];exact MQ undef w G hT h
     |2=>
      rw[hk]at h;obtain⟨u,h1,h2⟩:=h;exact⟨u,h1.of_same (execOp_put oi hsi a ox.dst v g3) (wanted_put oi a ox.dst v g3),by rw[<-hcom];exact MQ u w G hT h2⟩
     |k+3=>
      rw[hk]at h;obtain⟨h0,h1,h2⟩:=h;refine⟨lH hx hsel xs a hmk hm h0,(yR.put _ _ hsi g3).2 h1,fun u ext' hm' ⟨⟨W,hI,hl⟩,hA⟩=>?_⟩;have hp:∀y,y∈ext++(ext'++G)↔y∈ext'++(ext++G):=fun y=>by simp only[List.mem_append];exact or_left_comm
      rw[<-hcom]
      refine iq hE _ w _ _ _ (fun y hy=>(hp y).1 hy) (MQ u w (ext'++G) ⟨⟨W,hI,hl.mono fun y hy=>(hp y).1 hy⟩,fun x hx y hy=>by
       rcases List.mem_append.1 hy with hy|hy
       . exact(hA y hy x (List.mem_append_left _ hx)).symm
       . exact hT.2 x hx y hy⟩ (h2 u ext' ((Made.put _ _ hsi g3).1 hm') ⟨⟨W,hI,hl.mono fun y hy=>(hp y).1 (List.mem_append_right _ hy)⟩,fun x hx y hy=>hA x hx y (List.mem_append_right _ hy)⟩))
structure uV(S:List Nat)(n0:Nat)(bs:List World)(G:Lay)(W:World):Prop where
 all:∀w,w∈bs->Into S w W
 last:∀w,bs.getLast? =some w->Kept w W
 laid:∀x∈G,n0<=x.1/\x.1∉S/\W.heap[x.1]? =some x.2
 size:n0<=W.heap.size
section
variable{bs:List World}{G:Lay}{W W':World}
theorem uV.has(h:uV S n0 bs G W):Laid G W:=fun x hx=>(h.laid x hx).2.2
theorem uV.keep(h:uV S n0 bs G W)(hk:Kept W W'):uV S n0 bs G W':=
 ⟨fun w hw=>(h.all w hw).trans (Into.of_below hk),fun w hw=>(h.last w hw).trans hk,fun x hx=>by
   obtain⟨h1,h2,h3⟩:=h.laid x hx
   exact⟨h1,h2,(hk.block x.1 (block_lt h3)).trans h3⟩,Nat.le_trans h.size hk.size⟩
theorem uV.event(h:uV S n0 bs G W)(hk:Into S W W'):uV S n0 (bs++[W']) G W':=
 ⟨fun w hw=>by
   rcases List.mem_append.1 hw with h1|h1
   . exact(h.all w h1).trans hk
   . obtain rfl:w=W':=by simpa using h1
     exact Into.refl _ _,fun w hw=>by
   obtain rfl:w=W':=by simpa using hw.symm
   exact Below.refl _ _,fun x hx=>by
   obtain⟨h1,h2,h3⟩:=h.laid x hx
   exact⟨h1,h2,(hk.block x.1 (block_lt h3) h2).trans h3⟩,Nat.le_trans h.size hk.size⟩
theorem uV.again{w:World}(h:uV S n0 bs G W)(hw:bs.getLast? =some w):uV S n0 (bs++[w]) G W:=
 ⟨fun w' hw'=>by
   rcases List.mem_append.1 hw' with h1|h1
   . exact h.all w' h1
   . obtain rfl:w'=w:=by simpa using h1
     exact(h.last _ hw).into,fun w' hw'=>by
   obtain rfl:w'=w:=by simpa using hw'.symm
   exact h.last _ hw,h.laid,h.size⟩
theorem uV.made(h:uV S n0 bs G W)(hS:∀k,k∈S->k<n0)(hk:Kept W W'):uV S n0 bs (news W W'++G) W':=
 ⟨(h.keep hk).all,(h.keep hk).last,fun x hx=>by
   rcases List.mem_append.1 hx with h1|h1
   . obtain⟨h2,h3⟩:=wW h1
     have h4:=Nat.le_trans h.size h2;exact⟨h4,fun hh=>by have:=hS _ hh;omega,h3⟩
   . exact(h.keep hk).laid x h1,(h.keep hk).size⟩
end
def dOp(P:Program)(ops:Array Oper)(S:List Nat)(w0:World)(G:Lay)(o:Oper)(K:Act->Prop)(a:Act):Prop:=
 if Region.wanted o (yielded ops a.tmps)then Jz P S w0 G o a K else K (a.put o.dst undef)
def Yd(P:Program)(ops:Array Oper)(S:List Nat)(w0:World)(G:Lay)(o:Oper)(v:Value)(a:Act):Prop:=
 (Region.wanted o (yielded ops a.tmps)=true/\∀q:aQ S w0 G,gQ P o a q.sea v)\/(Region.wanted o (yielded ops a.tmps)=false/\v=undef)
theorem Yd.dOp{w0:World}{G:Lay}{o:Oper}{v:Value}{a:Act}(hy:Yd P ops S w0 G o v a){K:Act->Prop}(h:K (a.put o.dst v)):dOp P ops S w0 G o K a:=by
 unfold ah.dOp;rcases hy with⟨hw,hv⟩|⟨hw,rfl⟩
 . rw[if_pos hw];exact⟨v,hv,h⟩
 . rw[if_neg (by rw[hw];exact Bool.false_ne_true)];exact h
theorem Yd.put{w0:World}{G:Lay}{o:Oper}{v:Value}{a:Act}(d:Option Tmp)(u:Value)(hs:∀cs b,o.op≠ .select cs b)(h3:∀t,d=some t->t∉o.looksAt ops)(hy:Yd P ops S w0 G o v a):Yd P ops S w0 G o v (a.put d u):=by unfold Yd gQ at*;rw[execOp_put o hs a d u h3,wanted_put o a d u h3];exact hy
theorem Yd.more{w0:World}{G G':Lay}{o:Oper}{v:Value}{a:Act}(hs:∀x∈G,x∈G')(hy:Yd P ops S w0 G o v a):Yd P ops S w0 G' o v a:=by
 rcases hy with⟨hw,hv⟩|h
 . exact .inl ⟨hw,fun q=>hv (q.less hs)⟩
 . exact .inr h
theorem xq{w0:World}{G:Lay}{o:Oper}{a:Act}{K:Act->Prop}(h:dOp P ops S w0 G o K a):∃v,Yd P ops S w0 G o v a/\K (a.put o.dst v):=by unfold dOp at h;by_cases hw:Region.wanted o (yielded ops a.tmps)=true;(. rw[if_pos hw]at h;obtain⟨v,h1,h2⟩:=h;exact⟨v,.inl ⟨hw,h1⟩,h2⟩);. rw[if_neg hw]at h;exact⟨undef,.inr ⟨by simpa using hw,rfl⟩,h⟩
theorem xu{w0:World}{G:Lay}{o:Oper}{v:Value}{a:Act}(h:Yields P ops o v a):Yd P ops S w0 G o v a:=by
 rcases h with⟨h1,h2⟩|h
 . exact .inl ⟨h1,fun q=>by unfold gQ;rw[h2];exact⟨rfl,rfl⟩⟩
 . exact .inr h
def F8(P:Program)(ops:Array Oper)(S:List Nat)(n0:Nat)(kd ph:Nat->Nat)(i:Nat)(next:List World->Lay->Act->Prop)(bs:List World)(G:Lay)(a:Act):Prop:=
 ∃o,ops[i]? =some o/\(match kd i with
  |1=>∃w,bs.getLast? =some w/\(if Region.wanted o (yielded ops a.tmps)then ∃V:Value->World->Prop,(∀W,Kept w W->Laid G W->Gg P S o a W V)/\∀v w1,V v w1->Into S w w1->Laid G w1->next (bs++[w1]) G (a.put o.dst v)
    else next (bs++[w]) G (a.put o.dst undef))
  |3=>∃w,bs.getLast? =some w/\yR P ops n0 o a/\∀v ext,Made P ops n0 o a v ext->AB S w ext G->next bs (ext++G) (a.put o.dst v)
  |_=>∃w,bs[ph i]? =some w/\dOp P ops S w G o (next bs G) a)
def wpD(P:Program)(md:Region.Mode)(ops:Array Oper)(S:List Nat)(n0:Nat)(Qn:Exit->Act->World->Prop)(g0:Nat)(kd ph:Nat->Nat)(m:Nat)(Fin:List World->Lay->Array Bool->Act->Prop):Nat->List World->Lay->Array Bool->Act->Prop
 |0,bs,G,listed,a=>Fin bs G listed a
 |f+1,bs,G,listed,a=>Region.ready md ops listed≠[]/\∀i∈Region.ready md ops listed,(m<=i/\∀W,uV S n0 bs G W->wpOp P ops Qn i (wpAny P md ops Qn (f+g0) (listed.setIfInBounds i true)) a W)\/
   (i<m/\F8 P ops S n0 kd ph i (fun bs G a=>wpD P md ops S n0 Qn g0 kd ph m Fin f bs G (listed.setIfInBounds i true) a) bs G a)
theorem dx{kd ph:Nat->Nat}{m:Nat}{Fin:List World->Lay->Array Bool->Act->Prop}{Q':Exit->Act->World->Prop}{g0:Nat}(hS:∀k,k∈S->k<n0)
 (hL:∀bs G listed a W,Fin bs G listed a->uV S n0 bs G W->wpAny P md ops Q' g0 listed a W):
 ∀(f:Nat) (bs:List World) (G:Lay) (listed:Array Bool) (a:Act) (W:World),wpD P md ops S n0 Q' g0 kd ph m Fin f bs G listed a->uV S n0 bs G W->wpAny P md ops Q' (f+g0) listed a W
 |0,bs,G,listed,a,W,h,hi=>by rw[Nat.zero_add];exact hL _ _ _ _ _ h hi
 |f+1,bs,G,listed,a,W,h,hi=>by
  rw[show f+1+g0=(f+g0)+1 by omega];refine⟨fun h0=>absurd h0 h.1,fun i hir=>?_⟩;rcases h.2 i hir with⟨_,h2⟩|⟨_,o,ho,h2⟩
  . exact h2 W hi
  unfold wpOp;simp only[ho];split at h2
  . obtain⟨w,hw,h2⟩:=h2
    split
    . rename_i hwt
      rw[if_pos hwt]at h2;refine .inl ?_;obtain⟨V,h3,h4⟩:=h2;have h5:=h3 W (hi.last w hw) hi.has;unfold Gg at h5;unfold Oper.wp;generalize (execOp a.eval o).run P W=r at*;cases r with
      |ok nx w'=>
       cases nx<;>simp only[yT]at h5<;>simp only[Oper.upon]
       case value u=>exact dx hS hL f _ _ _ _ _ (h4 u w' h5.1 ((hi.last w hw).into.trans h5.2) (hi.event h5.2).has) (hi.event h5.2)
       case skip=>exact dx hS hL f _ _ _ _ _ (h4 undef w' h5.1 ((hi.last w hw).into.trans h5.2) (hi.event h5.2).has) (hi.event h5.2)
       case enter fn args=>
        obtain⟨rfl,hc⟩:=h5
        exact hc.mono fun e w'' ⟨v,he,hV,hI⟩=>by
         subst he;exact dx hS hL f _ _ _ _ _ (h4 v w'' hV ((hi.last w hw).into.trans hI) (hi.event hI).has) (hi.event hI)
      |halt x w'=>simp only[yT]at h5
    . rename_i hwt
      rw[if_neg hwt]at h2;exact dx hS hL f _ _ _ _ W h2 (hi.again hw)
  . obtain⟨w,hw,h3,h4⟩:=h2
    split
    . rename_i hwt
      refine .inl ?_;obtain⟨v,W',h5,h6⟩:=h3 hwt W hi.size;unfold Oper.wp;rw[h5];have hm:=hi.made hS h6
      exact dx hS hL f _ _ _ _ _ (h4 v _ (.inl ⟨hwt,W,W',hi.size,h5,h6,rfl⟩) ⟨⟨W',(hm.last w hw).into,hm.has⟩,fun x hx y hy=>by
       have h7:=(wW hx).1;have h8:=block_lt (hi.laid y hy).2.2
       omega⟩) hm
    . rename_i hwt
      exact dx hS hL f _ _ _ _ _ (h4 undef [] (.inr ⟨by simpa using hwt,rfl,rfl⟩) ⟨⟨W,(hi.last w hw).into,by simpa using hi.has⟩,fun x hx=>by cases hx⟩) (by simpa using hi)
  . obtain⟨w,hw,h2⟩:=h2
    have hwm:w∈bs:=List.mem_of_getElem? hw;unfold dOp at h2;split
    . rename_i hwt
      rw[if_pos hwt]at h2;refine .inl ?_;obtain⟨v,h3,h4⟩:=h2;obtain⟨q,hq⟩:=uU (hi.all w hwm) hi.has;have h5:=h3 q;rw[hq]at h5;unfold gQ at h5;unfold Oper.wp;generalize (execOp a.eval o).run P W=r at*;cases r with
      |ok nx w'=>
       cases nx<;>simp only[upon]at h5<;>simp only[Oper.upon]
       case value u=>
        obtain⟨e1,e2⟩:=h5;rw[e1,e2];exact dx hS hL f _ _ _ _ W h4 hi
       case skip=>
        obtain⟨e1,e2⟩:=h5;rw[e1,<-e2];exact dx hS hL f _ _ _ _ W h4 hi
       case enter fn args=>
        obtain⟨e1,hc⟩:=h5;rw[e1]
        exact hc.mono fun e w'' ⟨he,hb⟩=>by
         subst he;exact dx hS hL f _ _ _ _ w'' h4 (hi.keep hb)
      |halt x w'=>simp only[upon]at h5
    . rename_i hwt
      rw[if_neg hwt]at h2;exact dx hS hL f _ _ _ _ W h2 hi
def Shut(md:Region.Mode)(ops:Array Oper)(listed:Array Bool):Prop:=∀(t:Nat) (o:Oper),ops[t]? =some o->listed.getD t false=true->∀e∈o.after,Region.binds md e=true->listed.getD e.on false=true
theorem Shut.set{i:Nat}{listed:Array Bool}(h:Shut md ops listed)(hr:i∈Region.ready md ops listed):Shut md ops (listed.setIfInBounds i true):=fun t o ho ht e he hb=>by by_cases hti:i=t;(. subst hti;obtain⟨_,o',ho',hall⟩:=mem_ready.1 hr;obtain rfl:o'=o:=Option.some.inj (ho'.symm.trans ho);exact getD_set_true (hall e he hb));. rw[getD_set_ne false hti]at ht;exact getD_set_true (h t o ho ht e he hb)
theorem Shut.none(md:Region.Mode)(ops:Array Oper)(n:Nat):Shut md ops (Array.replicate n false):=fun t o _ ht=>by by_cases h:t<n<;>simp[h]at ht
def JB(md:Region.Mode)(ops:Array Oper):Nat->Nat->Nat->Bool
 |0,t,i=>Region.waitsFor md ops t i
 |n+1,t,i=>Region.waitsFor md ops t i || (List.range ops.size).any fun k=>Region.waitsFor md ops t k&&JB md ops n k i
theorem sO{listed:Array Bool}(hs:Shut md ops listed):∀(n t i:Nat),(∀k,Region.waitsFor md ops t k=true->listed.getD k false=true)->JB md ops n t i=true->listed.getD i false=true
 |0,t,i,h,hd=>h i hd
 |n+1,t,i,h,hd=>by simp only[JB,Bool.or_eq_true,List.any_eq_true,Bool.and_eq_true]at hd;rcases hd with hd|⟨k,_,h1,h2⟩;(. exact h i hd);. refine sO hs n k i (fun j hj=>?_) h2;obtain⟨ok,hok,e,he,hb,rfl⟩:=Region.waitsFor_spec hj;exact hs k ok hok (h k h1) e he hb
def MB(md:Region.Mode)(ops:Array Oper)(ps:List Nat)(m:Nat):Bool:=
 (List.range ops.size).all fun t=>decide (t<m) || (List.range m).all fun i=>ps.contains i || JB md ops 3 t i
theorem Pb{m i:Nat}{ps:List Nat}{listed:Array Bool}(hs:MB md ops ps m=true)(hp:ps.contains i=false)(hi:i<m)(hcl:Shut md ops listed)(hun:listed.getD i true=false){j:Nat}(hj:j∈Region.ready md ops listed):j<m:=by rcases Nat.lt_or_ge j m with h|h;(. exact h);. exfalso;obtain⟨_,oj,hoj,hall⟩:=mem_ready.1 hj;have hjs:j<ops.size:=(Array.getElem?_eq_some_iff.1 hoj).1;have h1:=List.all_eq_true.1 hs j (List.mem_range.2 hjs);simp only[Bool.or_eq_true,decide_eq_true_eq]at h1;rcases h1 with h1|h1;(. omega);. have h2:=List.all_eq_true.1 h1 i (List.mem_range.2 hi);rw[hp,Bool.false_or]at h2;have h3:=sO hcl 3 j i (fun k hk=>by obtain⟨o',ho',e,he,hb,rfl⟩:=Region.waitsFor_spec hk;obtain rfl:o'=oj:=Option.some.inj (ho'.symm.trans hoj);exact hall e he hb) h2;rw[gT hun]at h3;cases h3
theorem xw{g0:Nat}{Qn:Exit->Act->World->Prop}{kd ph:Nat->Nat}{m:Nat}{Fin:List World->Lay->Array Bool->Act->Prop}{i:Nat}{oi:Oper}{v:Value}{w0:World}(hi:ops[i]? =some oi)(hk1:kd i≠1)(hk3:kd i≠3)(him:i<m)
 (hsel:∀(j:Nat) (o:Oper) cs b,ops[j]? =some o->o.op≠ .select cs b)
 (hdone:∀bs G listed a,Fin bs G listed a->∀j∈Region.ready md ops listed,m<=j)
 (sP:∀(f:Nat) (bs:List World) (G:Lay) (listed:Array Bool) (a:Act) (W:World),wpD P md ops S n0 Qn g0 kd ph m Fin f bs G listed a->uV S n0 bs G W->wpAny P md ops Qn (f+g0) listed a W)
 (rE:(∀(listed:Array Bool) (j:Nat),Shut md ops listed->listed.getD i true=false->j∈Region.ready md ops listed->j<m)\/(∀c (a:Act) w,Qn (.panic c) (a.put oi.dst v) w->Qn (.panic c) a w)):
 ∀(f:Nat) (bs:List World) (G:Lay) (listed:Array Bool) (a:Act),bs[ph i]? =some w0->
  (∀j oj,ops[j]? =some oj->j≠i->listed.getD j true=false->(∀e∈oj.after,Region.binds md e=true->e.on≠i)->oi.apart ops oj=true)->
  Shut md ops listed->i∈Region.ready md ops listed->Yd P ops S w0 G oi v a->((∀(listed:Array Bool) (j:Nat),Shut md ops listed->listed.getD i true=false->j∈Region.ready md ops listed->j<m)\/Yields P ops oi v a)->
  wpD P md ops S n0 Qn g0 kd ph m Fin f bs G (listed.setIfInBounds i true) (a.put oi.dst v)->wpD P md ops S n0 Qn g0 kd ph m Fin (f+1) bs G listed a:=by
 have self:∀(next:List World->Lay->Act->Prop) (bs:List World) (G:Lay) (a:Act),bs[ph i]? =some w0->Yd P ops S w0 G oi v a->next bs G (a.put oi.dst v)->F8 P ops S n0 kd ph i next bs G a:=by
  intro next bs G a hb hy H
  refine⟨oi,hi,?_⟩;split
  . rename_i h;exact absurd h hk1
  . rename_i h;exact absurd h hk3
  . exact⟨w0,hb,hy.dOp H⟩
 intro f
 induction f with
 |zero=>
  intro bs G listed a hb hfree hcl hr hy hyl H;have hun:=(mem_ready.1 hr).1;refine⟨fun h=>(by rw[h]at hr;cases hr),fun j hj=>?_⟩;by_cases hji:j=i
  . subst hji;exact .inr ⟨him,self _ bs G a hb hy H⟩
  . have h1:=hdone _ _ _ _ H j (ready_mono hj hji)
    refine .inl ⟨h1,fun W hW=>?_⟩;rcases hyl with hyl|hyl
    . have:=hyl listed j hcl hun hj;omega
    . rcases rE with rE|hQ
      . have:=rE listed j hcl hun hj;omega
      . exact(wpAny_first hi hsel hQ (0+g0) listed a W hfree hr hyl (sP 0 bs G _ _ W H hW)).2 j hj
 |succ f ih=>
  intro bs G listed a hb hfree hcl hr hy hyl H;have hun:=(mem_ready.1 hr).1;refine⟨fun h=>(by rw[h]at hr;cases hr),fun j hj=>?_⟩;by_cases hji:j=i
  . subst hji;exact .inr ⟨him,self _ bs G a hb hy H⟩
  . rcases H.2 j (ready_mono hj hji)with⟨hmj,_⟩|⟨hjm,oj,hoj,h1⟩
    . refine .inl ⟨hmj,fun W hW=>?_⟩
      rcases hyl with hyl|hyl
      . have:=hyl listed j hcl hun hj;omega
      . rcases rE with rE|hQ
        . have:=rE listed j hcl hun hj;omega
        . have h9:=(wpAny_first hi hsel hQ (f+1+g0) listed a W hfree hr hyl (sP (f+1) bs G _ _ W H hW)).2 j hj
          exact h9
    refine .inr ⟨hjm,oj,hoj,?_⟩;obtain⟨hjun,oj',TY,hall⟩:=mem_ready.1 hj;obtain rfl:oj'=oj:=Option.some.inj (TY.symm.trans hoj)
    have hnot:∀e∈oj'.after,Region.binds md e=true->e.on≠i:=fun e he hb heq=>by
     have h1:=hall e he hb;rw[heq,gT hun]at h1;cases h1
    have hap:=hfree j oj' hoj hji hjun hnot;obtain⟨g1,g2,g3⟩:=Oper.apart_spec hap
    have hfree':∀k ok,ops[k]? =some ok->k≠i->(listed.setIfInBounds j true).getD k true=false->
     (∀e∈ok.after,Region.binds md e=true->e.on≠i)->oi.apart ops ok=true:=fun k ok hk hki hun hno=>by
     refine hfree k ok hk hki ?_ hno;by_cases hjk:j=k
     . subst hjk;exact hjun
     . rw[getD_set_ne true hjk]at hun;exact hun
    have hcom:(listed.setIfInBounds j true).setIfInBounds i true=(listed.setIfInBounds i true).setIfInBounds j true:=Array.setIfInBounds_comm _ _ hji;have JC:=fun cs b=>hsel j oj' cs b hoj;have Ga:=fun cs b=>hsel i oi cs b hi
    have PY:∀u,((∀(listed:Array Bool) (j:Nat),Shut md ops listed->listed.getD i true=false->j∈Region.ready md ops listed->j<m)\/Yields P ops oi v (a.put oj'.dst u)):=fun u=>
     MV hyl fun h=>h.of_same (execOp_put oi Ga a oj'.dst u g3) (wanted_put oi a oj'.dst u g3)
    have hir:=ready_mono hr (Ne.symm hji);split at h1
    . obtain⟨w,hw,h1⟩:=h1
      refine⟨w,hw,?_⟩;rw[wanted_put oj' a oi.dst v g1]at h1;have hblt:ph i<bs.length:=(List.getElem?_eq_some_iff.1 hb).1;have hb':∀w1:World,(bs++[w1])[ph i]? =some w0:=fun w1=>by rw[List.getElem?_append_left hblt];exact hb
      split
      . rename_i hwt
        rw[if_pos hwt]at h1;obtain⟨V,h3,h4⟩:=h1;refine⟨V,fun W hW hl=>?_,fun u w1 hV hI hl=>?_⟩
        . have:=h3 W hW hl
          unfold Gg at*
          rwa [execOp_put oj' JC a oi.dst v g1]at this
        . refine ih (bs++[w1]) G _ _ (hb' w1) hfree' (hcl.set hj) hir (hy.put _ _ Ga g3) (PY _) ?_
          rw[hcom,<-Act.put_comm a v u g2];exact h4 u w1 hV hI hl
      . rename_i hwt
        rw[if_neg hwt]at h1;refine ih (bs++[w]) G _ _ (hb' w) hfree' (hcl.set hj) hir (hy.put _ _ Ga g3) (PY _) ?_;rw[hcom,<-Act.put_comm a v undef g2];exact h1
    . obtain⟨w,hw,h3,h4⟩:=h1
      refine⟨w,hw,(yR.put _ _ JC g1).1 h3,fun u ext hm hT=>?_⟩;refine ih bs (ext++G) _ _ hb hfree' (hcl.set hj) hir ((hy.put _ _ Ga g3).more fun x hx=>List.mem_append_right _ hx) (PY _) ?_;rw[hcom,<-Act.put_comm a v u g2];exact h4 u ext ((Made.put _ _ JC g1).2 hm) hT
    . obtain⟨w,hw,h1⟩:=h1
      refine⟨w,hw,?_⟩;obtain⟨u,hu,hK⟩:=xq h1
      have hu':Yd P ops S w G oj' u a:=by
       unfold Yd gQ at hu ⊢
       rwa [execOp_put oj' JC a oi.dst v g1,wanted_put oj' a oi.dst v g1]at hu
      refine hu'.dOp ?_;refine ih bs G _ _ hb hfree' (hcl.set hj) hir (hy.put _ _ Ga g3) (PY _) ?_;rw[hcom,<-Act.put_comm a v u g2];exact hK
def BU(md:Region.Mode)(ops:Array Oper)(kd ph:Nat->Nat)(m:Nat):Nat->List (Nat × List Nat)->Nat->Array Bool->Bool
 |0,ord,_,listed=>ord.isEmpty&&Region.seqB md ops (ops.size-m) m listed
 |_+1,[],_,_=>false
 |n+1,(i,xs)::r,k,listed=>decide (i<m)&&(if kd i==1 || kd i==3 then
   (Region.ready md ops listed).contains i&&(Region.ready md ops listed).all (fun x=>x==i || (xs.contains x&&kd x==3&&decide (x<m)&&lG ops x xs&&JA ops x ((i,xs)::r)&&BU md ops kd ph m n (pull x ((i,xs)::r)) k (listed.setIfInBounds x true)))
   else(Region.ready md ops listed).contains i&&Region.free md ops listed i&&decide (ph i=k))&&
   BU md ops kd ph m n r (if kd i==1 then k+1 else k) (listed.setIfInBounds i true)
theorem Ap{g0:Nat}{Qn:Exit->Act->World->Prop}{kd ph:Nat->Nat}{ps:List Nat}{m:Nat}{Fin:List World->Lay->Array Bool->Act->Prop}{E:World->Lay->Act->Prop}(Pd:Region.noSelect ops=true)(hs:MB md ops ps m=true)(hps:∀i,ps.contains i=true->kd i≠0)
 (hE:∀w G G' a,(∀x∈G,x∈G')->E w G a->E w G' a)
 (hdone:∀bs G listed a,Fin bs G listed a->∀j∈Region.ready md ops listed,m<=j)
 (sP:∀(f:Nat) (bs:List World) (G:Lay) (listed:Array Bool) (a:Act) (W:World),wpD P md ops S n0 Qn g0 kd ph m Fin f bs G listed a->uV S n0 bs G W->wpAny P md ops Qn (f+g0) listed a W)
 (hQ:(∀i,kd i≠2)\/∀c (a:Act) w,¬Qn (.panic c) a w) (hkd:∀i,kd i<=3) {W0:World} (hW0:n0<=W0.heap.size)
 (hbase:∀bs G listed a w,bs.getLast? =some w->Region.seqB md ops (ops.size-m) m listed=true->E w G a->Fin bs G listed a):
 ∀(n:Nat) (ord:List (Nat × List Nat)) (k:Nat) (bs:List World) (G:Lay) (listed:Array Bool) (a:Act) (w:World),bs.length=k+1->bs.getLast? =some w->
 Shut md ops listed->BU md ops kd ph m n ord k listed=true->walk P ops S n0 E (pick ops kd ord) w G a->
 wpD P md ops S n0 Qn g0 kd ph m Fin n bs G listed a
 |0,ord,k,bs,G,listed,a,w,_,hw,_,hB,h=>by
  simp only[BU,Bool.and_eq_true,List.isEmpty_iff]at hB;obtain⟨rfl,hB⟩:=hB;exact hbase bs G listed a w hw hB h
 |n+1,[],k,bs,G,listed,a,w,_,hw,_,hB,h=>by cases hB
 |n+1,(i,xs)::r,k,bs,G,listed,a,w,hk,hw,hcl,hB,h=>by
  have hB0:=hB;simp only[BU,Bool.and_eq_true,decide_eq_true_eq]at hB;obtain⟨⟨him,hT⟩,hB'⟩:=hB;have hsel:=Region.noSelect_spec Pd;have IH:=fun ord k bs G listed a w=>Ap Pd hs hps hE hdone sP hQ hkd hW0 hbase n ord k bs G listed a w
  have iH:i∈Region.ready md ops listed:=by
   split at hT
   . simp only[Bool.and_eq_true]at hT;simpa using hT.1
   . simp only[Bool.and_eq_true]at hT;simpa using hT.1.1
  obtain⟨_,o,ho,_⟩:=mem_ready.1 iH
  have hpk:pick ops kd ((i,xs)::r)=(o,kd i,aM ops xs)::pick ops kd r:=by
   simp only[pick,ho,List.cons_append,List.nil_append]
  by_cases hturn:kd i=1\/kd i=3
  . rw[if_pos (by simpa using hturn)]at hT
    simp only[Bool.and_eq_true]at hT;have hall:=List.all_eq_true.1 hT.2
    have hmw:jC P ops n0 (aM ops xs) a:=by
     rw[hpk]at h;rcases hturn with e|e<;>rw[e]at h<;>exact h.1
    have hx:∀x,x∈Region.ready md ops listed->x≠i->x<m/\F8 P ops S n0 kd ph x (fun bs G a=>wpD P md ops S n0 Qn g0 kd ph m Fin n bs G (listed.setIfInBounds x true) a) bs G a:=fun x hx hne=>by
     have h1:=hall x hx;simp only[Bool.or_eq_true,beq_iff_eq,Bool.and_eq_true,decide_eq_true_eq]at h1;obtain⟨⟨⟨⟨⟨hxs,hkx⟩,hxm⟩,hmp⟩,hp⟩,hpl⟩:=h1.resolve_left hne;obtain⟨_,ox,hox,_⟩:=mem_ready.1 hx;refine⟨hxm,ox,hox,?_⟩;rw[hkx];exact⟨w,hw,wZ hox hsel hW0 xs a hmp hxs hmw,fun v ext hm hTd=>IH (pull x ((i,xs)::r)) k bs (ext++G) _ _ w hk hw (hcl.set hx) hpl (xk hE hox hkx hsel _ w G a hp hm hTd h)⟩
    rw[hpk]at h;refine⟨fun h0=>(by rw[h0]at iH;cases iH),fun j hj=> .inr ?_⟩;by_cases hji:j=i
    . subst hji
      refine⟨him,o,ho,?_⟩;rcases hturn with e|e
      . rw[e]at h ⊢
        simp only[e]at hB';refine⟨w,hw,?_⟩;have h:=h.2;split
        . rename_i hwt
          rw[if_pos hwt]at h;obtain⟨V,h1,h2⟩:=h;exact⟨V,h1,fun v w1 hV hI hl=>IH r (k+1) (bs++[w1]) G _ _ w1 (by simp[hk]) (by simp) (hcl.set iH) hB' (h2 v w1 hV hI hl)⟩
        . rename_i hwt
          rw[if_neg hwt]at h;exact IH r (k+1) (bs++[w]) G _ _ w (by simp[hk]) (by simp) (hcl.set iH) hB' h
      . rw[e]at h ⊢
        simp only[e]at hB';obtain⟨_,h1,h2⟩:=h;exact⟨w,hw,h1,fun v ext hm hTd=>IH r k bs (ext++G) _ _ w hk hw (hcl.set iH) hB' (h2 v ext hm hTd)⟩
    . exact hx j hj hji
  . rw[if_neg (by simpa using hturn)]at hT
    simp only[Bool.and_eq_true,decide_eq_true_eq]at hT;obtain⟨⟨_,hf⟩,hph⟩:=hT;have e1:kd i≠1:=fun e=>hturn (.inl e);have e3:kd i≠3:=fun e=>hturn (.inr e);rw[if_neg (by simpa using e1)]at hB'
    have hbw:bs[ph i]? =some w:=by
     rw[List.getLast?_eq_getElem?,hk]at hw;rw[hph];simpa using hw
    rw[hpk]at h;have hle:=hkd i;rcases(show kd i=0\/kd i=2 by omega)with e|e
    . rw[e]at h
      have hnp:ps.contains i=false:=by
       cases hc:ps.contains i with
       |false=>rfl
       |true=>exact absurd e (hps i hc)
      have hst:dOp P ops S w G o (walk P ops S n0 E (pick ops kd r) w G) a:=h;obtain⟨v,hy,hK⟩:=xq hst;have hwt:=fun(listed:Array Bool) (j:Nat) hcl hun hj=>Pb (listed:=listed) hs hnp him hcl hun (j:=j) hj;exact xw ho e1 e3 him hsel hdone sP (.inl hwt) _ bs G listed a hbw (Region.free_spec ho hf) hcl iH hy (.inl hwt) (IH r k bs G _ _ w hk hw (hcl.set iH) hB' hK)
    . rw[e]at h
      obtain⟨v,hy,hK⟩:=h;have hQ':∀c (a:Act) w,¬Qn (.panic c) a w:=hQ.resolve_left (fun hh=>hh i e)
      exact xw ho e1 e3 him hsel hdone sP (.inr fun c a w hh=>absurd hh (hQ' _ _ _)) _ bs G listed a hbw (Region.free_spec ho hf) hcl iH (xu hy) (.inr hy) (IH r k bs G _ _ w hk hw (hcl.set iH) hB' hK)
def kinds(es ms ps:List Nat)(i:Nat):Nat:=if es.contains i then 1 else if ms.contains i then 3 else if ps.contains i then 2 else 0
def phases(es:List Nat)(ord:List (Nat × List Nat))(i:Nat):Nat:=((ord.takeWhile fun e=>e.1 != i).filter fun e=>es.contains e.1).length
def Aq(md:Region.Mode)(ops:Array Oper)(ord:List (Nat × List Nat))(es ms ps:List Nat):Bool:=
 Region.noSelect ops&&decide (ord.length<=ops.size)&&MB md ops ps ord.length&&BU md ops (kinds es ms ps) (phases es ord) ord.length ord.length ord 0 (Array.replicate ops.size false)
theorem oD{id:Nat}{Q:Exit->Act->World->Prop}{a:Act}{w:World}{l:List Oper}(S:List Nat)(ord:List (Nat × List Nat))(es ms ps:List Nat)(hm:P.follows .mixedOrders=true)(hB:Aq .any l.toArray ord es ms ps=true)(hS:∀k,k∈S->k<w.heap.size)(hQ:ps=[]\/∀c (a:Act) w,¬Q (.panic c) a w)
 (h:walk P l.toArray S w.heap.size (fun w' G a'=>∀W,Kept w' W->Laid G W->wpList P l.toArray Q (l.drop ord.length) a' W) (pick l.toArray (kinds es ms ps) ord) w [] a):(Code.region id l.toArray true).wp P Q a w:=by
 simp only[Aq,Bool.and_eq_true,decide_eq_true_eq]at hB;obtain⟨⟨⟨hsel,hn⟩,hs⟩,QY⟩:=hB;have hn':ord.length<=l.length:=by simpa using hn
 have hdl:(l.drop ord.length).length=l.toArray.size-ord.length:=by simp
 have hsd:=fun(f:Nat) (bs:List World) (G:Lay) (listed:Array Bool) (a:Act) (W:World)=>dx (P:=P) (ops:=l.toArray) (md:= .any) (S:=S) (n0:=w.heap.size) (kd:=kinds es ms ps) (ph:=phases es ord) (m:=ord.length)
  (Fin:=fun bs G listed a'=>∃w',bs.getLast? =some w'/\Region.seqB .any l.toArray (l.toArray.size-ord.length) ord.length listed=true/\∀W,Kept w' W->Laid G W->wpList P l.toArray Q (l.drop ord.length) a' W)
  (Q':=Q) (g0:=l.toArray.size-ord.length) hS (fun bs G listed a' W ⟨w',hw',h1,h2⟩ hi=>by
  have:=wpAny_of_seq (md:= .any) (Q':=Q) (l.drop ord.length) ord.length listed a' W (fun j=>by simp[List.getElem?_drop]) (by rw[hdl];exact h1) (h2 W (hi.last w' hw') hi.has)
  rwa [hdl]at this) f bs G listed a W
 have H:=Ap (P:=P) (md:= .any) (S:=S) (m:=ord.length) (n0:=w.heap.size) (Qn:=Q) (g0:=l.toArray.size-ord.length) (ps:=ps) (kd:=kinds es ms ps) (ph:=phases es ord)
  (Fin:=fun bs G listed a'=>∃w',bs.getLast? =some w'/\Region.seqB .any l.toArray (l.toArray.size-ord.length) ord.length listed=true/\∀W,Kept w' W->Laid G W->wpList P l.toArray Q (l.drop ord.length) a' W)
  hsel hs (fun i hi e=>by
   unfold kinds at e;simp only[hi]at e;split at e
   . cases e
   . split at e<;>cases e)
  (fun w' G G' a' hsub hh W hk hl=>hh W hk (hl.mono hsub)) (fun bs G listed a ⟨_,_,h1,_⟩=>seqB_ready h1) hsd
  (by
    rcases hQ with e|e
    . exact .inl fun i=>by subst e;unfold kinds;split<;>(try split)<;>simp
    . exact .inr e)
  (fun i=>by unfold kinds;split<;>(try split)<;>(try split)<;>omega) (W0:=w) (Nat.le_refl _)
  (fun bs G listed a w hw h1 h2=>⟨w,hw,h1,h2⟩) ord.length ord 0 [w] [] _ a w rfl rfl (Shut.none _ _ _) QY h
 refine wp_region_any hm ?_
 have:=hsd _ _ _ _ _ { w with drawn:=w.drawn+1 } H ⟨fun w' hw'=>by
  obtain rfl:w'=w:=by simpa using hw'
  exact Into.of_below ⟨rfl,rfl,rfl,Nat.le_refl _,fun _ _=>rfl⟩,fun w' hw'=>by
  obtain rfl:w'=w:=by simpa using hw'.symm
  exact⟨rfl,rfl,rfl,Nat.le_refl _,fun _ _=>rfl⟩,fun _ h=>(by cases h),Nat.le_refl _⟩
 rw[show ord.length+(l.toArray.size-ord.length)=l.toArray.size by simp;omega]at this;exact this
theorem aj{id:Nat}{Q:Exit->Act->World->Prop}{a:Act}{w:World}{l:List Oper}(S:List Nat)(ord:List (Nat × List Nat))(es ms:List Nat)(hm:P.follows .mixedOrders=true)(hB:Aq .any l.toArray ord es ms []=true)(hS:∀k,k∈S->k<w.heap.size)
 (h:walk P l.toArray S w.heap.size (fun w' G a'=>∀W,Kept w' W->Laid G W->wpList P l.toArray Q (l.drop ord.length) a' W) (pick l.toArray (kinds es ms []) ord) w [] a):(Code.region id l.toArray true).wp P Q a w:=
 oD S ord es ms [] hm hB hS (.inl rfl) h
theorem ay{id:Nat}{Q:Exit->Act->World->Prop}{a:Act}{w:World}{l:List Oper}(S:List Nat)(ord:List (Nat × List Nat))(es ms ps:List Nat)(hm:P.follows .mixedOrders=true)(hB:Aq .any l.toArray ord es ms ps=true)(hS:∀k,k∈S->k<w.heap.size)
 (h:walk P l.toArray S w.heap.size (fun w' G a'=>∀W,Kept w' W->Laid G W->wpList P l.toArray (Nrm Q) (l.drop ord.length) a' W) (pick l.toArray (kinds es ms ps) ord) w [] a):(Code.region id l.toArray true).wp P Q a w:=
 wp_mono (oD S ord es ms ps hm hB hS (.inr fun _ _ _ h=>h) h) (MW Q)
theorem walk_nil{E:World->Lay->Act->Prop}{a:Act}{w:World}{G:Lay}(h:E w G a):walk P ops S n0 E [] w G a:=h
theorem ak{E:World->Lay->Act->Prop}{a:Act}{w:World}{G:Lay}{o:Oper}{xs:List Oper}{rest:List (Oper × Nat × List Oper)}
 (h:∀K:Act->Prop,(∀a,walk P ops S n0 E rest w G a->K a)->if Region.wanted o (yielded ops a.tmps)then Jz P S w G o a K else K (a.put o.dst undef)):walk P ops S n0 E ((o,0,xs)::rest) w G a:=
 h _ (fun _ h=>h)
theorem aJ{E:World->Lay->Act->Prop}{a:Act}{w:World}{G:Lay}{o:Oper}{xs:List Oper}{rest:List (Oper × Nat × List Oper)}(hg:Region.wanted o (yielded ops a.tmps)=true)(hx:jC P ops n0 xs a)(V:Value->World->Prop)
 (h1:∀W,Kept w W->Laid G W->Gg P S o a W V) (h2:∀v w1,V v w1->Into S w w1->Laid G w1->Nonempty (aQ S w1 G)->walk P ops S n0 E rest w1 G (a.put o.dst v)):walk P ops S n0 E ((o,1,xs)::rest) w G a:=by
 unfold walk;refine⟨hx,?_⟩;rw[if_pos hg];exact⟨V,h1,fun v w1 hV hI hl=>h2 v w1 hV hI hl (let ⟨q,_⟩:=uU (Into.refl S w1) hl;⟨q⟩)⟩
theorem au{E:World->Lay->Act->Prop}{a:Act}{w:World}{G:Lay}{o:Oper}{xs:List Oper}{rest:List (Oper × Nat × List Oper)}(hg:o.guard=none)(v:Value)
 (h1:∀W,(execOp a.eval o).run P W= .ok (.value v) W) (h2:walk P ops S n0 E rest w G (a.put o.dst v)):walk P ops S n0 E ((o,2,xs)::rest) w G a:=
 ⟨v,.inl ⟨by simp[Region.wanted,hg],h1⟩,h2⟩
theorem Ar{o:Oper}{a:Act}(F:Nat->Value)(obj:Obj)(hr:∀W:World,(execOp a.eval o).run P W= .ok (.value (F W.heap.size)) (W.alloc obj)):yR P ops n0 o a:=fun _ W _=>⟨_,_,hr W,bAx⟩
theorem Made.one{o:Oper}{a:Act}{v:Value}{ext:Lay}(hm:Made P ops n0 o a v ext)(hg:Region.wanted o (yielded ops a.tmps)=true)(F:Nat->Value)(obj:Obj)(hr:∀W:World,(execOp a.eval o).run P W= .ok (.value (F W.heap.size)) (W.alloc obj)):∃b,n0<=b/\v=F b/\ext=[(b,obj)]:=by (rcases hm with⟨_,W,W',h1,h2,_,rfl⟩|⟨h,_⟩);(. rw[hr W]at h2;simp only[Result.ok.injEq,Next.value.injEq]at h2;obtain⟨rfl,rfl⟩:=h2;exact⟨W.heap.size,h1,rfl,BS W obj⟩);. rw[hg]at h;cases h
theorem bP{E:World->Lay->Act->Prop}{a:Act}{w:World}{G:Lay}{o:Oper}{xs:List Oper}{rest:List (Oper × Nat × List Oper)}(hg:Region.wanted o (yielded ops a.tmps)=true)(hx:jC P ops n0 xs a)(F:Nat->Value)(obj:Obj)
 (hr:∀W:World,(execOp a.eval o).run P W= .ok (.value (F W.heap.size)) (W.alloc obj)) (h:∀b,n0<=b->Nonempty (aQ S w ((b,obj)::G))->walk P ops S n0 E rest w ((b,obj)::G) (a.put o.dst (F b))):walk P ops S n0 E ((o,3,xs)::rest) w G a:=by
 refine⟨hx,Ar F obj hr,fun v ext hm ⟨⟨W,hI,hl⟩,_⟩=>?_⟩;obtain⟨b,hb,rfl,rfl⟩:=hm.one hg F obj hr;exact h b hb (let ⟨q,_⟩:=uU hI hl;⟨q⟩)
theorem aC{a:Act}:jC P ops n0 [] a:=trivial
theorem dY{o:Oper}{r:List Oper}{a:Act}(hg:Region.wanted o (yielded ops a.tmps)=true)(F:Nat->Value)(obj:Obj)(hr:∀W:World,(execOp a.eval o).run P W= .ok (.value (F W.heap.size)) (W.alloc obj))(h:∀b,n0<=b->jC P ops n0 r (a.put o.dst (F b))):jC P ops n0 (o::r) a:=by refine⟨Ar F obj hr,fun v ext hm=>?_⟩;obtain⟨b,hb,rfl,rfl⟩:=hm.one hg F obj hr;exact h b hb
end
attribute [go_sem] Jz
attribute [irreducible] walk
theorem tc{w:World}{a:Addr}{v:Value}(h:w.cell? a=some v):∀q:aQ [] w [],q.sea.cell? a=some v:=fun q=>aQ.cell h (by simp) q
theorem dL:(∀{α:Type} {l:List α} {i:Nat},l.toArray[i]? =l[i]?)/\(∀{α:Type} {a:α} {l:List α},(a::l)[0]? =some a)/\(∀{α:Type} {a:α} {l:List α} {i:Nat},(a::l)[i+1]? =l[i]?)/\(∀{α:Type} {a:α} {l m:List α},(a::l)++m=a::(l++m))/\(∀{α:Type} {m:List α},[]++m=m)/\(∀{α β:Type} {f:α->Option β},[].filterMap f=[]):=⟨by simp,by simp,by simp,by simp,by simp,by simp⟩
end Go.Proofs.YtmcbidhpkpmalaaGreatDoor.ah
