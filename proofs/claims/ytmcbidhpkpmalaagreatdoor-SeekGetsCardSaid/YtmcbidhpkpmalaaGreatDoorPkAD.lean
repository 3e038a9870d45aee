import Derived.Test.YtmcbidhpkpmalaaGreatDoorPkAC
import Derived.LaidMore
set_option maxHeartbeats 1000000
set_option maxRecDepth 100000
namespace Go.Proofs.YtmcbidhpkpmalaaGreatDoor.Calm
open Go.RowKit Go.Sort
section
variable{P:Program}{ops:Array Oper}{md:Region.Mode}{w0:World}
def Kept(w w':World):Prop:=Bw w w'
def upon(P:Program)(w:World)(v:Value):Result Next->Prop
 | .ok (.value u) w'=>w'=w/\u=v
 | .ok .skip w'=>w'=w/\v=undef
 | .ok (.enter f args) w'=>w'=w/\Calls P f args w (fun e w''=>e=.returned v/\Kept w w'')
 |_=>False
def gQ(P:Program)(o:Oper)(a:Act)(w:World)(v:Value):Prop:=upon P w v ((execOp a.eval o).run P w)
def calm(P:Program)(w0:World)(o:Oper)(a:Act)(next:Act->Prop):Prop:=∃v,(∀p:Regrown,gQ P o a (grow (redrawn w0 p.d) p.os) v)/\next (a.put o.dst v)
def nX(P:Program)(ops:Array Oper)(w0:World)(Q:Act->Prop):List Oper->Act->Prop
 |[],a=>Q a
 |o::rest,a=>if Region.wanted o (yielded ops a.tmps)then calm P w0 o a (nX P ops w0 Q rest)else nX P ops w0 Q rest (a.put o.dst undef)
theorem j4{Q:Act->Prop}{a:Act}(h:Q a):nX P ops w0 Q [] a:=h
theorem jf{Q:Act->Prop}{a:Act}{o:Oper}{rest:List Oper}
 (h:∀K:Act->Prop,(∀a,nX P ops w0 Q rest a->K a)->if Region.wanted o (yielded ops a.tmps)then calm P w0 o a K else K (a.put o.dst undef)):nX P ops w0 Q (o::rest) a:=
 h _ (fun _ h=>h)
def cOp(P:Program)(ops:Array Oper)(w0:World)(i:Nat)(K:Act->Prop)(a:Act):Prop:=
 match ops[i]? with
 |none=>K a
 |some o=>if Region.wanted o (yielded ops a.tmps)then calm P w0 o a K else K (a.put o.dst undef)
theorem Dh{o:Oper}{a:Act}{K K':Act->Prop}(h:∀a,K a->K' a)(hh:calm P w0 o a K):calm P w0 o a K':=
 let ⟨v,h1,h2⟩:=hh
 ⟨v,h1,h _ h2⟩
theorem Gz{i:Nat}{a:Act}{K K':Act->Prop}(h:∀a,K a->K' a)(hh:cOp P ops w0 i K a):cOp P ops w0 i K' a:=by unfold cOp at*;cases ho:ops[i]? with|none=>simp only[ho]at hh ⊢;exact h _ hh|some o=>simp only[ho]at hh ⊢;split;(. rename_i hw;rw[if_pos hw]at hh;exact Dh h hh);. rename_i hw;rw[if_neg hw]at hh;exact h _ hh
def Y(P:Program)(ops:Array Oper)(w0:World)(o:Oper)(v:Value)(a:Act):Prop:=
 (Region.wanted o (yielded ops a.tmps)=true/\∀p:Regrown,gQ P o a (grow (redrawn w0 p.d) p.os) v)\/(Region.wanted o (yielded ops a.tmps)=false/\v=undef)
theorem Y.cOp{i:Nat}{o:Oper}{v:Value}{a:Act}(hi:ops[i]? =some o)(hy:Y P ops w0 o v a){K:Act->Prop}(h:K (a.put o.dst v)):cOp P ops w0 i K a:=by
 unfold Calm.cOp;simp only[hi];rcases hy with⟨hw,hv⟩|⟨hw,rfl⟩
 . rw[if_pos hw];exact⟨v,hv,h⟩
 . rw[if_neg (by rw[hw];exact Bool.false_ne_true)];exact h
theorem Y.put{o oj:Oper}{v u:Value}{a:Act}(hs:∀cs b,o.op≠ .select cs b)(h3:∀d,oj.dst=some d->d∉o.looksAt ops)(hy:Y P ops w0 o v a):Y P ops w0 o v (a.put oj.dst u):=by unfold Y gQ at*;rw[execOp_put o hs a oj.dst u h3,wanted_put o a oj.dst u h3];exact hy
theorem GA{i:Nat}{o:Oper}{a:Act}{K:Act->Prop}(hi:ops[i]? =some o)(h:cOp P ops w0 i K a):∃v,Y P ops w0 o v a/\K (a.put o.dst v):=by unfold cOp at h;simp only[hi]at h;by_cases hw:Region.wanted o (yielded ops a.tmps)=true;(. rw[if_pos hw]at h;obtain⟨v,h1,h2⟩:=h;exact⟨v,.inl ⟨hw,h1⟩,h2⟩);. rw[if_neg hw]at h;exact⟨undef,.inr ⟨by simpa using hw,rfl⟩,h⟩
theorem KF{j:Nat}{oi oj:Oper}{v:Value}(hj:ops[j]? =some oj)(hap:oi.apart ops oj=true)
 (hsi:∀cs b,oi.op≠ .select cs b) (hsj:∀cs b,oj.op≠ .select cs b) {K:Act->Prop} {a:Act}
 (hy:Y P ops w0 oi v a) (h:cOp P ops w0 j K (a.put oi.dst v)):cOp P ops w0 j (fun a'=>Y P ops w0 oi v a'/\K (a'.put oi.dst v)) a:=by
 obtain⟨h1,h2,h3⟩:=Oper.apart_spec hap;unfold cOp at*;simp only[hj]at*;rw[wanted_put oj a oi.dst v h1]at h;split
 . rename_i hw
   rw[if_pos hw]at h;obtain⟨u,hu,hn⟩:=h;refine⟨u,fun p=>?_,hy.put hsi h3,by rw[<-Act.put_comm a v u h2];exact hn⟩;have:=hu p;unfold gQ at*
   rwa [execOp_put oj hsj a oi.dst v h1]at this
 . rename_i hw
   rw[if_neg hw]at h;exact⟨hy.put hsi h3,by rw[<-Act.put_comm a v undef h2];exact h⟩
def wpX(P:Program)(md:Region.Mode)(ops:Array Oper)(w0:World)(m:Nat)(n:Option Nat)(oF:Oper)(Fin:Value->Array Bool->Act->Prop):Nat->Option Value->Array Bool->Act->Prop
 |0,g,listed,a=>∃p,g=some p/\Fin p listed a
 |f+1,g,listed,a=>Region.ready md ops listed≠[]/\∀i∈Region.ready md ops listed,i<m/\
   (if n=some i then ∀p,wpX P md ops w0 m n oF Fin f (some p) (listed.setIfInBounds i true) (a.put oF.dst p)
    else cOp P ops w0 i (wpX P md ops w0 m n oF Fin f g (listed.setIfInBounds i true)) a)
structure Floats(P:Program)(ops:Array Oper)(w0:World)(n:Option Nat)(oF:Oper)(V:Value->World->Prop):Prop where
 Sw:∀i,n=some i->ops[i]? =some oF
 wanted:∀i,n=some i->∀a:Act,Region.wanted oF (yielded ops a.tmps)=true
 run:∀i,n=some i->∀(a:Act) (w:World),Bw w0 w->∃p w',(execOp a.eval oF).run P w= .ok (.value p) w'/\Bw w w'/\V p w'
 stable:∀p w w',V p w->Bw w w'->V p w'
theorem fQ{m:Nat}{n:Option Nat}{oF:Oper}{Fin:Value->Array Bool->Act->Prop}{V:Value->World->Prop}{Q':Exit->Act->World->Prop}{g0:Nat}(hF:Floats P ops w0 n oF V)
 (hL:∀p listed a w,Fin p listed a->Bw w0 w->V p w->wpAny P md ops Q' g0 listed a w):
 ∀(f:Nat) (g:Option Value) (listed:Array Bool) (a:Act) (w:World),wpX P md ops w0 m n oF Fin f g listed a->Bw w0 w->(∀p,g=some p->V p w)->wpAny P md ops Q' (f+g0) listed a w
 |0,g,listed,a,w,h,hw,hg=>by
  obtain⟨p,rfl,h⟩:=h;rw[Nat.zero_add];exact hL _ _ _ _ h hw (hg p rfl)
 |f+1,g,listed,a,w,h,hw,hg=>by
  rw[show f+1+g0=(f+g0)+1 by omega];refine⟨fun h0=>absurd h0 h.1,fun i hi=>?_⟩;have h2:=(h.2 i hi).2;split at h2
  . rename_i hn
    unfold wpOp;simp only[hF.Sw i hn];rw[if_pos (hF.wanted i hn a)];obtain⟨p,w',hr,hb,hV⟩:=hF.run i hn a w hw;refine .inl ?_;unfold Oper.wp;rw[hr];exact fQ hF hL f (some p) _ _ w' (h2 p) (hw.trans (hb.mono hw.size)) (fun q hq=>by cases hq;exact hV)
  . unfold cOp at h2
    unfold wpOp;cases ho:ops[i]? with
    |none=>simp only[ho]at h2 ⊢;exact fQ hF hL f g _ _ w h2 hw hg
    |some o=>
     simp only[ho]at h2 ⊢;split
     . rename_i hwt
       rw[if_pos hwt]at h2;refine .inl ?_;obtain⟨v,h3,h4⟩:=h2;obtain⟨p,hp⟩:=regrown_of_below hw;have h5:=h3 p;rw[<-hp]at h5;unfold gQ at h5;unfold Oper.wp;generalize (execOp a.eval o).run P w=r at*;cases r with
       |ok nx w'=>
        cases nx<;>simp only[upon]at h5<;>simp only[Oper.upon]
        case value u=>
         obtain⟨e1,e2⟩:=h5;rw[e1,e2];exact fQ hF hL f g _ _ w h4 hw hg
        case skip=>
         obtain⟨e1,e2⟩:=h5;rw[e1,<-e2];exact fQ hF hL f g _ _ w h4 hw hg
        case enter fn args=>
         obtain⟨e1,hc⟩:=h5;rw[e1]
         exact hc.mono fun e w'' ⟨he,hb⟩=>by
          subst he;exact fQ hF hL f g _ _ w'' h4 (hw.trans (hb.mono hw.size)) (fun q hq=>hF.stable _ _ _ (hg q hq) hb)
       |halt x w'=>simp only[upon]at h5
     . rename_i hwt
       rw[if_neg hwt]at h2;exact fQ hF hL f g _ _ w h2 hw hg
theorem gT{listed:Array Bool}{i:Nat}(h:listed.getD i true=false):listed.getD i false=false:=by rcases Nat.lt_or_ge i listed.size with h'|h';(. simp[h']at h ⊢;exact h);. simp[Array.getElem?_eq_none h']at h
theorem Di{m:Nat}{n:Option Nat}{oF:Oper}{Fin:Value->Array Bool->Act->Prop}{i:Nat}{oi:Oper}{v:Value}(hi:ops[i]? =some oi)(hin:n≠some i)(him:i<m)
 (hnF:∀j,n=some j->ops[j]? =some oF) (hsel:∀(j:Nat) (o:Oper) cs b,ops[j]? =some o->o.op≠ .select cs b)
 (hdone:∀p listed a,Fin p listed a->∀j∈Region.ready md ops listed,m<=j)
 (rE:∀(listed:Array Bool) (j:Nat),listed.getD i true=false->j∈Region.ready md ops listed->j<m):
 ∀(f:Nat) (g:Option Value) (listed:Array Bool) (a:Act),
  (∀j oj,ops[j]? =some oj->j≠i->listed.getD j true=false->(∀e∈oj.after,Region.binds md e=true->e.on≠i)->oi.apart ops oj=true)->
  i∈Region.ready md ops listed->Y P ops w0 oi v a->
  wpX P md ops w0 m n oF Fin f g (listed.setIfInBounds i true) (a.put oi.dst v)->wpX P md ops w0 m n oF Fin (f+1) g listed a:=by
 intro f
 induction f with
 |zero=>
  intro g listed a _ hr hy H;have hun:=(mem_ready.1 hr).1;refine⟨fun h=>(by rw[h]at hr;cases hr),fun j hj=>⟨rE listed j hun hj,?_⟩⟩;by_cases hji:j=i
  . subst hji;rw[if_neg hin];exact hy.cOp hi H
  . obtain⟨p,_,hfin⟩:=H
    have h1:=hdone _ _ _ hfin j (ready_mono hj hji);have h2:=rE listed j hun hj;omega
 |succ f ih=>
  intro g listed a hfree hr hy H;have hun:=(mem_ready.1 hr).1;refine⟨fun h=>(by rw[h]at hr;cases hr),fun j hj=>⟨rE listed j hun hj,?_⟩⟩;by_cases hji:j=i
  . subst hji;rw[if_neg hin];exact hy.cOp hi H
  . have h1:=(H.2 j (ready_mono hj hji)).2
    obtain⟨hjun,oj,hoj,hall⟩:=mem_ready.1 hj
    have hnot:∀e∈oj.after,Region.binds md e=true->e.on≠i:=fun e he hb heq=>by
     have h1:=hall e he hb;rw[heq,gT hun]at h1;cases h1
    have hap:=hfree j oj hoj hji hjun hnot
    have hfree':∀k ok,ops[k]? =some ok->k≠i->(listed.setIfInBounds j true).getD k true=false->
     (∀e∈ok.after,Region.binds md e=true->e.on≠i)->oi.apart ops ok=true:=fun k ok hk hki hun hno=>by
     refine hfree k ok hk hki ?_ hno;by_cases hjk:j=k
     . subst hjk;exact hjun
     . rw[getD_set_ne true hjk]at hun;exact hun
    have hcom:(listed.setIfInBounds j true).setIfInBounds i true=(listed.setIfInBounds i true).setIfInBounds j true:=Array.setIfInBounds_comm _ _ hji;by_cases hjn:n=some j
    . rw[if_pos hjn]at h1
      rw[if_pos hjn];intro p;obtain rfl:oj=oF:=Option.some.inj (hoj.symm.trans (hnF j hjn));obtain⟨_,h2,h3⟩:=Oper.apart_spec hap;refine ih (some p) _ _ hfree' (ready_mono hr (Ne.symm hji)) (hy.put (fun cs b=>hsel i oi cs b hi) h3) ?_;rw[hcom,<-Act.put_comm a v p h2];exact h1 p
    . rw[if_neg hjn]at h1
      rw[if_neg hjn];have h2:=KF hoj hap (fun cs b=>hsel i oi cs b hi) (fun cs b=>hsel j oj cs b hoj) hy h1;refine Gz (fun a' h3=>ih g _ a' hfree' (ready_mono hr (Ne.symm hji)) h3.1 ?_) h2;rw[hcom];exact h3.2
def sinkB(md:Region.Mode)(ops:Array Oper)(m:Nat):Bool:=
 (List.range ops.size).all fun t=>decide (t<m) || (List.range m).all fun i=>Region.waitsFor md ops t i
def Np(md:Region.Mode)(ops:Array Oper)(n m:Nat):Bool:=
 Region.noSelect ops&&decide (m<ops.size)&&decide (n<=m)&&sinkB md ops m&&Region.lexHead md ops (ops.size-n) n 0 (Array.replicate ops.size false)
theorem waits{m i:Nat}{listed:Array Bool}(hs:sinkB md ops m=true)(hi:i<m)(hun:listed.getD i true=false){j:Nat}(hj:j∈Region.ready md ops listed):j<m:=by rcases Nat.lt_or_ge j m with h|h;(. exact h);. exfalso;obtain⟨_,oj,hoj,hall⟩:=mem_ready.1 hj;have hjs:j<ops.size:=(Array.getElem?_eq_some_iff.1 hoj).1;have h1:=List.all_eq_true.1 hs j (List.mem_range.2 hjs);simp only[Bool.or_eq_true,decide_eq_true_eq]at h1;rcases h1 with h1|h1;(. omega);. obtain⟨o',ho',e,he,hb,hon⟩:=Region.waitsFor_spec (List.all_eq_true.1 h1 i (List.mem_range.2 hi));obtain rfl:o'=oj:=Option.some.inj (ho'.symm.trans hoj);have:=hall e he hb;rw[hon,gT hun]at this;cases this
theorem Dj{n m:Nat}{nF:Option Nat}{oF:Oper}{Fin:Value->Array Bool->Act->Prop}{Lq:Act->Prop}{g:Option Value}{r:Nat}(hsel:Region.noSelect ops=true)(hs:sinkB md ops m=true)
 (hnm:n<=m) (hnn:∀j,nF=some j->n<=j) (hnF:∀j,nF=some j->ops[j]? =some oF)
 (hdone:∀p listed a,Fin p listed a->∀j∈Region.ready md ops listed,m<=j)
 (hbase:∀listed a,Region.seqB md ops (ops.size-n) n listed=true->Lq a->wpX P md ops w0 m nF oF Fin r g listed a):
 ∀(l:List Oper) (k:Nat) (listed:Array Bool) (a:Act),(∀j,j<l.length->l[j]? =ops[k+j]?)->k+l.length=n->
 Region.lexHead md ops (ops.size-n) l.length k listed=true->nX P ops w0 Lq l a->wpX P md ops w0 m nF oF Fin (r+l.length) g listed a
 |[],k,listed,a,_,hk,hB,h=>by
  have:k=n:=by simpa using hk
  subst this;exact hbase _ _ (by simpa[Region.lexHead]using hB) h
 |o::l,k,listed,a,hl,hk,hB,h=>by
  have h0:ops[k]? =some o:=by simpa using(hl 0 (by simp)).symm
  simp only[List.length_cons,Region.lexHead,Bool.and_eq_true]at hB;obtain⟨⟨hr,hf⟩,hB'⟩:=hB;have hkn:k<n:=by simp only[List.length_cons]at hk;omega
  have hst:cOp P ops w0 k (nX P ops w0 Lq l) a:=by unfold cOp;simp only[h0];exact h
  obtain⟨v,hy,hK⟩:=GA h0 hst;rw[List.length_cons,<-Nat.add_assoc]
  exact Di h0 (fun e=>by have:=hnn k e;omega) (by omega) hnF (Region.noSelect_spec hsel) hdone (fun listed j hun hj=>waits hs (by omega) hun hj) (r+l.length) g listed a (Region.free_spec h0 hf) (by simpa using hr) hy
   (Dj hsel hs hnm hnn hnF hdone hbase l (k+1) _ _ (fun j hj=>by have:=hl (j+1) (by simp;omega);simpa[Nat.add_assoc,Nat.add_comm 1 j]using this) (by simp only[List.length_cons]at hk;omega) hB' hK)
def Laid(w0:World)(obj:Obj)(p:Value)(w:World):Prop:=∃b,p= .pointer (some ⟨b,0,none⟩)/\w0.heap.size<=b/\b<w.heap.size/\w.heap[b]? =some obj
theorem fV{id:Nat}{Q:Exit->Act->World->Prop}{a:Act}{w:World}{l:List Oper}(n:Nat)(T:TypeId)(d:Tmp)(obj:Obj)(hm:P.follows .mixedOrders=true)(hB:Np .any l.toArray n (n+1)=true)
 (hop:(l.toArray[n]?).map (fun o=>(o.op,o.guard,o.dst))=some (.alloc T,none,some d))
 (hrun:∀w:World,(Instr.alloc T true (.tuple #[])).run P w= .ok (.pointer (some ⟨w.heap.size,0,none⟩)) (w.alloc obj))
 (h:nX P l.toArray w (fun a'=>∀(b:Nat) (w':World),Bw w w'->w.heap.size<=b->b<w'.heap.size->w'.heap[b]? =some obj->
   wpList P l.toArray Q (l.drop (n+1)) (a'.put (some d) (.pointer (some ⟨b,0,none⟩))) w') (l.take n) a):(Code.region id l.toArray true).wp P Q a w:=by
 obtain⟨oF,hat,hoF⟩:∃oF,l.toArray[n]? =some oF/\(oF.op,oF.guard,oF.dst)=(Op.alloc T,none,some d):=by
  cases ho:l.toArray[n]? with
  |none=>rw[ho]at hop;cases hop
  |some o=>rw[ho]at hop;exact⟨o,rfl,by simpa using hop⟩
 simp only[Prod.mk.injEq]at hoF;obtain⟨ho1,ho2,ho3⟩:=hoF;have hguard:∀a:Act,Region.wanted oF (yielded l.toArray a.tmps)=true:=fun a=>by unfold Region.wanted;rw[ho2]
 have hrun':∀(a:Act) (w:World),(execOp a.eval oF).run P w= .ok (.value (.pointer (some ⟨w.heap.size,0,none⟩))) (w.alloc obj):=fun a w=>by
  unfold execOp;rw[ho1];simp[hrun,Result.andThen]
 rw[<-ho3]at h;simp only[Np,Bool.and_eq_true,decide_eq_true_eq]at hB;obtain⟨⟨⟨⟨hsel,hn⟩,_⟩,hs⟩,hlex⟩:=hB;have hn':n+1<l.length:=by simpa using hn
 have htl:(l.take n).length=n:=by simp;omega
 have hdl:(l.drop (n+1)).length=l.toArray.size-(n+1):=by simp
 have hF:Floats P l.toArray w (some n) oF (Laid w obj):=by
  refine⟨fun i h=>(by cases h;exact hat),fun _ _=>hguard,fun i _ a w1 hw1=>⟨_,_,hrun' a w1,bAx,w1.heap.size,rfl,hw1.size,by simp,?_⟩,?_⟩
  . show(w1.heap.push obj)[w1.heap.size]? =_
    simp
  . rintro p w1 w2 ⟨b,rfl,h1,h2,h3⟩ hb
    exact⟨b,rfl,h1,Nat.lt_of_lt_of_le h2 hb.size,by rw[hb.block b h2];exact h3⟩
 have hsz:l.toArray.size-n=(l.toArray.size-(n+1))+1:=by simp;omega
 have H:=Dj (P:=P) (md:= .any) (w0:=w) (r:=1) (g:=none) (nF:=some n) (oF:=oF) (m:=n+1)
  (Fin:=fun p listed a'=>Region.seqB .any l.toArray (l.toArray.size-(n+1)) (n+1) listed=true/\∀w',Bw w w'->Laid w obj p w'->wpList P l.toArray Q (l.drop (n+1)) a' w')
  hsel hs (Nat.le_succ _) (fun j h=>by cases h;exact Nat.le_refl _) (fun j h=>by cases h;exact hat) (fun p listed a hfin=>seqB_ready hfin.1)
  (fun listed a' hB hq=>by
    rw[hsz]at hB;simp only[Region.seqB,Bool.and_eq_true,decide_eq_true_eq]at hB;refine⟨fun h0=>(by rw[h0]at hB;cases hB.1),fun i hi=>?_⟩;rw[hB.1]at hi;obtain rfl:i=n:=(by simpa using hi);refine⟨Nat.lt_succ_self _,?_⟩;rw[if_pos rfl];intro p;refine⟨p,rfl,hB.2,fun w' hw hl=>?_⟩;obtain⟨b,rfl,h1,h2,h3⟩:=hl
    exact hq b w' hw h1 h2 h3)
  (l.take n) 0 _ a (fun j hj=>by have hj':j<n:=by rw[htl]at hj;exact hj
                                 simp[hj']) (by simpa using htl) (by rw[htl];exact hlex) h
 refine wp_region_any hm ?_
 have:=fQ (Q':=Q) (g0:=l.toArray.size-(n+1)) hF (fun p listed a' w' hfin hw hV=>by
  have:=wpAny_of_seq (md:= .any) (Q':=Q) (l.drop (n+1)) (n+1) listed a' w' (fun j=>by simp[List.getElem?_drop]) (by rw[hdl];exact hfin.1) (hfin.2 w' hw hV)
  rwa [hdl]at this) _ _ _ _ { w with drawn:=w.drawn+1 } H ⟨rfl,rfl,rfl,Nat.le_refl _,fun _ _=>rfl⟩ (fun _ h=>by cases h)
 rw[htl,show 1+n+(l.toArray.size-(n+1))=l.toArray.size by simp;omega]at this;exact this
end
theorem cell_of_block{w:World}{b:Nat}{cs:Array Value}{T:TypeId}(h:w.heap[b]? =some (.cells cs T))(i:Nat):w.cell? ⟨b,i,none⟩=cs[i]? :=by simp[World.cell?,h]
theorem aF{w:World}{b:Nat}{cs:Array Value}{T:TypeId}(h:w.heap[b]? =some (.cells cs T))(i:Nat):w.frozen? ⟨b,i,none⟩=false:=by simp[World.frozen?,h]
attribute [go_sem] calm gQ upon
end Go.Proofs.YtmcbidhpkpmalaaGreatDoor.Calm
namespace Go.Proofs.YtmcbidhpkpmalaaGreatDoor.Wd
structure St where
 b:List UInt8
 e:Int
def St.ok(s:St):Prop:=s.e≠0->s.b=[]
def dz(s:St)(x:Int):St:=if s.e=0 then⟨[],x⟩else s
def aY(s:St)(n:Int):St × List UInt8:=
 if n<0 then(dz s 2,[])else if (s.b.length:Int)<n then(dz s 5,[])else(⟨s.b.drop n.toNat,s.e⟩,s.b.take n.toNat)
def aV(s:St)(n:Int):St × Nat:=if isW n then((aY s n).1,val (aY s n).2)else(dz s 2,0)
def gY(l:List UInt8):Bool:=l.all (· ==0)
def aW(s:St)(n:Int):St:=if gY (aY s n).2 then(aY s n).1 else dz (aY s n).1 3
def bV(s:St)(n m:Int):St × List UInt8:=
 if n<0\/m<n then(dz s 2,[])
 else if ((aY s m).2.length:Int)<m then((aY s m).1,[])
 else if gY ((aY s m).2.drop n.toNat)then((aY s m).1,(aY s m).2.take n.toNat)else(dz (aY s m).1 3,[])
theorem iB{s:St}(h:s.ok)(x:Int):(dz s x).ok:=by unfold dz;split;(. intro _;rfl);. exact h
theorem kW{s:St}(h:s.ok)(he:s.e≠0)(n:Int):aY s n=(s,[]):=by obtain⟨b,e⟩:=s;have hb:b=[]:=h he;simp only at he;subst hb;unfold aY dz;split;(. simp);. split;(. simp);. simp
theorem GD(s:St){n:Int}(h:n<0):aY s n=(dz s 2,[]):=if_pos h
theorem j5(s:St){n:Int}(h0:¬n<0)(h:(s.b.length:Int)<n):aY s n=(dz s 5,[]):=by unfold aY;rw[if_neg h0,if_pos h]
theorem jK(s:St){n:Int}(h0:¬n<0)(h:¬(s.b.length:Int)<n):aY s n=(⟨s.b.drop n.toNat,s.e⟩,s.b.take n.toNat):=by unfold aY;rw[if_neg h0,if_neg h]
theorem jL{s:St}(h:s.ok)(n:Int):(aY s n).1.ok:=by unfold aY;split;(. exact iB h _);. split;(. exact iB h _);. intro he;simp[h he]
theorem take_len(s:St)(n:Int):((aY s n).2.length:Int)<=if n<0 then 0 else n:=by unfold aY;split;(. simp);. split;(. simp;omega);. simp;omega
theorem xK(s:St)(n:Int):(aY s n).2.length<=s.b.length:=by unfold aY;split;(. simp);. split;(. simp);. simp;omega
end Go.Proofs.YtmcbidhpkpmalaaGreatDoor.Wd
namespace Go.Proofs.YtmcbidhpkpmalaaGreatDoor
open Go.RowKit
namespace No
open Mem
open Wd (be val aB eG isW St aY aV aW bV dz gY kW jK j5 jL iB)
section
variable{s:St}
theorem oP(h:s.ok){n:Int}(h0:0<=n)(he:(aY s n).1.e=0):s.e=0/\(aY s n).2.length=n.toNat/\s.b=(aY s n).2++(aY s n).1.b:=by by_cases h1:s.e=0;(. by_cases h2:(s.b.length:Int)<n;(. rw[j5 s (by omega) h2]at he;unfold dz at he;rw[if_pos h1]at he;cases he);. rw[jK s (by omega) h2];refine⟨h1,?_,(List.take_append_drop _ _).symm⟩;rw[List.length_take];omega);. rw[kW h h1]at he;exact absurd he h1
theorem tF{x R:List UInt8}{n:Int}(hn:n=x.length):aY ⟨x++R,0⟩ n=(⟨R,0⟩,x):=by subst hn;rw[jK _ (by omega) (by simp only[List.length_append];omega)];simp
theorem dB(h:s.ok)(n:Int):(aV s n).1.ok:=by unfold aV;split;(. exact jL h n);. exact iB h _
theorem tH(h:s.ok)(n:Int):(aW s n).ok:=by unfold aW;split;(. exact jL h n);. exact iB (jL h n) _
theorem tJ(h:s.ok)(n m:Int):(bV s n m).1.ok:=by unfold bV;split;(. exact iB h _);. split;(. exact jL h m);. split;(. exact jL h m);. exact iB (jL h m) _
theorem num_inv(h:s.ok){w:Nat}(hw:isW (w:Int)=true)(he:(aV s w).1.e=0):s.e=0/\s.b=be w (aV s w).2++(aV s w).1.b/\(aV s w).2<256 ^ w:=by (have e:aV s w=((aY s w).1,val (aY s w).2):=by unfold aV;rw[if_pos hw]);rw[e]at he ⊢;obtain⟨h1,h2,h3⟩:=oP h (by omega) he;have h4:(aY s (w:Int)).2.length=w:=h2;have h5:=Wd.Nn (aY s (w:Int)).2;have h6:=Wd.vI (aY s (w:Int)).2;rw[h4]at h5 h6;refine⟨h1,?_,h6⟩;show s.b=be w (val (aY s w).2)++(aY s w).1.b;rw[h5];exact h3
theorem kX{w v:Nat}{R:List UInt8}(hw:isW (w:Int)=true)(hv:v<256 ^ w):aV ⟨be w v++R,0⟩ w=(⟨R,0⟩,v):=by unfold aV;rw[if_pos hw,tF (by rw[aB])];simp only;rw[eG,Nat.mod_eq_of_lt hv]
theorem Dk{l:List UInt8}(h:gY l=true){n:Int}(hn:l.length=n.toNat):l=zs n:=by unfold zs;rw[List.eq_replicate_iff];refine⟨hn,fun x hx=>?_⟩;unfold gY at h;simpa using List.all_eq_true.1 h x hx
theorem Dl(n:Int):gY (zs n)=true:=by unfold gY zs;rw[List.all_eq_true];intro x hx;rw[List.eq_of_mem_replicate hx];rfl
theorem lU(h:s.ok){n:Int}(h0:0<=n)(he:(aW s n).e=0):s.e=0/\s.b=zs n++(aW s n).b:=by unfold aW at he ⊢;split at he;(. rename_i h1;rw[if_pos h1];obtain⟨h2,h3,h4⟩:=oP h h0 he;rw[<-Dk h1 h3];exact⟨h2,h4⟩);. unfold dz at he;split at he;(. cases he);. rename_i h2;exact absurd he h2
theorem lV{n:Int}{R:List UInt8}(h0:0<=n):aW ⟨zs n++R,0⟩ n=⟨R,0⟩:=by unfold aW;rw[tF (by rw[gX];omega)];simp only;rw[if_pos (Dl n)]
theorem tK(h:s.ok){n m:Int}(he:(bV s n m).1.e=0):s.e=0/\0<=n/\n<=m/\(bV s n m).2.length=n.toNat/\s.b=slotL (bV s n m).2 m++(bV s n m).1.b:=by unfold bV at he ⊢;split at he;(. by_cases h1:s.e=0;(. unfold dz at he;rw[if_pos h1]at he;cases he);. unfold dz at he;rw[if_neg h1]at he;exact absurd he h1);. rename_i h1;rw[if_neg h1];have h0:0<=n/\n<=m:=(by omega);split at he;(. rename_i h2;obtain⟨h3,h4,-⟩:=oP h (by omega) he;rw[h4]at h2;omega);. rename_i h2;rw[if_neg h2];split at he;(. rename_i h5;rw[if_pos h5];obtain⟨h3,h4,h6⟩:=oP h (by omega) he;(have h7:((aY s m).2.take n.toNat).length=n.toNat:=by rw[List.length_take,h4];omega);refine⟨h3,h0.1,h0.2,h7,?_⟩;simp only;unfold slotL;have h8:(aY s m).2.drop n.toNat=zs (m-n):=Dk h5 (by rw[List.length_drop,h4];omega);rw[h7,show m-((n.toNat:Nat):Int)=m-n by omega,<-h8,List.take_append_drop];exact h6);. unfold dz at he;split at he;(. cases he);. rename_i h6;exact absurd he h6
theorem tL{t R:List UInt8}{n m:Int}(hn:n=t.length)(hm:n<=m):bV ⟨slotL t m++R,0⟩ n m=(⟨R,0⟩,t):=by have hl:(slotL t m).length=m.toNat:=dR (by omega);have ht:aY ⟨slotL t m++R,0⟩ m=(⟨R,0⟩,slotL t m):=tF (by rw[hl];omega);unfold bV;rw[if_neg (by omega),ht];simp only;rw[if_neg (by rw[hl];omega)];(have hd:(slotL t m).drop n.toNat=zs (m-t.length):=by unfold slotL;exact List.drop_left' (by omega));(have hk:(slotL t m).take n.toNat=t:=by unfold slotL;exact List.take_left' (by omega));rw[hd,if_pos (Dl _),hk]
end
def rdS{α:Type}(f:St->St × α):Nat->St->St × List α
 |0,s=>(s,[])
 |k+1,s=>((f (rdS f k s).1).1,(rdS f k s).2++[(f (rdS f k s).1).2])
section
variable{α:Type}{f:St->St × α}{g:α->List UInt8}
theorem dZ(k:Nat)(s:St):(rdS f k s).2.length=k:=by induction k with|zero=>rfl|succ k ih=>simp[rdS,ih]
theorem vL(hf:∀s,s.ok->(f s).1.ok){s:St}(h:s.ok)(k:Nat):(rdS f k s).1.ok:=by induction k with|zero=>exact h|succ k ih=>exact hf _ ih
theorem tN{P:α->Prop}(hf:∀s,s.ok->(f s).1.ok)(hi:∀s,s.ok->(f s).1.e=0->s.e=0/\s.b=g (f s).2++(f s).1.b/\P (f s).2){s:St}(h:s.ok){k:Nat}(he:(rdS f k s).1.e=0):s.e=0/\s.b=(rdS f k s).2.flatMap g++(rdS f k s).1.b/\∀x∈(rdS f k s).2,P x:=by induction k with|zero=>exact⟨he,by simp[rdS],by simp[rdS]⟩|succ k ih=>obtain⟨h1,h2,h3⟩:=hi _ (vL hf h k) he;obtain⟨h4,h5,h6⟩:=ih h1;refine⟨h4,?_,fun x hx=>?_⟩;(. show s.b=((rdS f k s).2++[(f (rdS f k s).1).2]).flatMap g++(f (rdS f k s).1).1.b;rw[List.flatMap_append,h5,h2];simp);. rcases List.mem_append.1 hx with hx|hx;(. exact h6 x hx);. obtain rfl:=List.mem_singleton.1 hx;exact h3
theorem tO{R:List UInt8}{L:List α}(hf:∀x∈L,∀R,f ⟨g x++R,0⟩=(⟨R,0⟩,x)):rdS f L.length ⟨L.flatMap g++R,0⟩=(⟨R,0⟩,L):=by (suffices h:∀k,k<=L.length->rdS f k ⟨L.flatMap g++R,0⟩=(⟨(L.drop k).flatMap g++R,0⟩,L.take k) by have:=h L.length (Nat.le_refl _);simpa using this);intro k;induction k with|zero=>intro _;simp[rdS]|succ k ih=>intro hk;have h1:=ih (by omega);have hx:L.drop k=L[k]::L.drop (k+1):=List.drop_eq_getElem_cons (by omega);show((f (rdS f k _).1).1,(rdS f k _).2++[(f (rdS f k _).1).2])=_;rw[h1];simp only;rw[hx,List.flatMap_cons,List.append_assoc,hf _ (List.getElem_mem _)];simp only;rw[List.take_succ_eq_append_getElem (by omega)]
end
theorem vM(s:St){w:Nat}(hw:isW (w:Int)=true)(h4:w<=4):(aV s w).2<4294967296:=by
 unfold aV;rw[if_pos hw];simp only;have h1:=Wd.vI (aY s (w:Int)).2;have h2:=Wd.take_len s (w:Int);rw[if_neg (by omega)]at h2;have h3:(256:Nat) ^ (aY s (w:Int)).2.length<=256 ^ 4:=Nat.pow_le_pow_right (by decide) (by omega);have h5:(256:Nat) ^ 4=4294967296:=by decide
 omega
end No
end Go.Proofs.YtmcbidhpkpmalaaGreatDoor
namespace Go.Proofs.YtmcbidhpkpmalaaGreatDoor
open Go.RowKit
open Go.Lib (hid)
namespace Wd
open Mem
abbrev Only(g:Nat)(w w':World):Prop:=Flow.Into [g] w w'
theorem Only.of_below{g:Nat}{w w':World}(h:Bw w w'):Only g w w':=Flow.Into.of_below h
def Off(w:World)(g:Nat)(p:Option Addr)(l:List UInt8):Prop:=BL w p l/\(0<l.length->∀a,p=some a->a.block≠g)
theorem Off.only{w w':World}{g:Nat}{p:Option Addr}{l:List UInt8}(h:Off w g p l)(ho:Only g w w'):Off w' g p l:=
 ⟨h.1.keep fun hl a ha=>ho.block _ (h.1.lt hl a ha) (by have:=h.2 hl a ha;simpa using this),h.2⟩
theorem Off.nil(w:World)(g:Nat)(p:Option Addr):Off w g p []:=⟨BL.nil _ _,fun h=>absurd h (by simp)⟩
theorem Off.take{w:World}{g:Nat}{p:Option Addr}{l:List UInt8}(h:Off w g p l)(k:Nat):Off w g p (l.take k):=⟨h.1.take k,fun hl=>h.2 (by simp at hl;omega)⟩
theorem Off.cut{w:World}{g:Nat}{p:Option Addr}{l:List UInt8}(h:Off w g p l){k c:Nat}(hc:l.length<=c):Off w g (Gr p c k) (l.drop k):=by refine⟨h.1.cut hc,fun hl a ha=>?_⟩;simp only[List.length_drop]at hl;unfold Gr at ha;rw[if_neg (by omega)]at ha;cases p with|none=>cases ha|some p=>(obtain rfl:p.add k=a:=by simpa using ha);rw[show(p.add k).block=p.block by unfold Addr.add;split<;>rfl];exact h.2 (by omega) p rfl
def Gi(w:World)(g:Nat)(p:Option Addr)(l:List UInt8):Prop:=Off w g p l/\(0<l.length->∀a,p=some a->∃C:Array Value,w.heap[a.block]? =some (.cells C 5 (0,0)))
theorem Gi.only{w w':World}{g:Nat}{p:Option Addr}{l:List UInt8}(h:Gi w g p l)(ho:Only g w w'):Gi w' g p l:=
 ⟨h.1.only ho,fun hl a ha=>by
   obtain⟨C,hC⟩:=h.2 hl a ha
   exact⟨C,(ho.block _ (h.1.1.lt hl a ha) (by have:=h.1.2 hl a ha;simpa using this)).trans hC⟩⟩
theorem Gi.nil(w:World)(g:Nat)(p:Option Addr):Gi w g p []:=⟨Off.nil _ _ _,fun h=>absurd h (by simp)⟩
theorem Gi.cut{w:World}{g:Nat}{p:Option Addr}{l:List UInt8}(h:Gi w g p l){k c:Nat}(hc:l.length<=c):Gi w g (Gr p c k) (l.drop k):=by refine⟨h.1.cut hc,fun hl a ha=>?_⟩;simp only[List.length_drop]at hl;unfold Gr at ha;rw[if_neg (by omega)]at ha;cases p with|none=>cases ha|some p=>(obtain rfl:p.add k=a:=by simpa using ha);rw[show(p.add k).block=p.block by unfold Addr.add;split<;>rfl];exact h.2 (by omega) p rfl
def Rd(T:TypeId)(w:World)(g:Nat)(s:St):Prop:=
 ∃(A:Option Addr) (c:Nat),w.heap[g]? =some (.cells #[.slice A s.b.length c,s.e] T (0,0))/\Gi w g A s.b/\s.b.length<=c/\s.b.length<=140737488355000/\s.ok
section
variable{T:TypeId}{w w':World}{g:Nat}{s:St}
theorem Rd.lt(h:Rd T w g s):g<w.heap.size:=by obtain⟨A,c,h,_⟩:=h;exact(Array.getElem?_eq_some_iff.1 h).1
theorem Rd.keep(h:Rd T w g s)(hb:Bw w w'):Rd T w' g s:=by have hlt:=h.lt;obtain⟨A,c,h1,h2,h3,h4,h5⟩:=h;exact⟨A,c,(hb.block g hlt).trans h1,h2.only (Only.of_below hb),h3,h4,h5⟩
end
theorem zh{w:World}{g:Nat}{x y:Value}{T:TypeId}(h:w.heap[g]? =some (.cells #[x,y] T (0,0))):
 w.cell? ⟨g,0,none⟩=some x/\w.cell? ⟨g,1,none⟩=some y/\w.frozen? ⟨g,0,none⟩=false/\w.frozen? ⟨g,1,none⟩=false:=by
 simp[World.cell?,World.frozen?,h]
theorem set2{w:World}{g:Nat}{x y x' y':Value}{T:TypeId}(h:w.heap[g]? =some (.cells #[x,y] T (0,0))):
 ((w.setCell ⟨g,0,none⟩ x').setCell ⟨g,1,none⟩ y').heap[g]? =some (.cells #[x',y'] T (0,0)):=by
 simp[World.setCell,Array.getElem?_modify,h]
theorem set1{w:World}{g:Nat}{x y x':Value}{T:TypeId}(h:w.heap[g]? =some (.cells #[x,y] T (0,0))):
 (w.setCell ⟨g,0,none⟩ x').heap[g]? =some (.cells #[x',y] T (0,0)):=by
 simp[World.setCell,Array.getElem?_modify,h]
theorem bF{g:Nat}{w w':World}(h:Only g w w')(i:Nat)(x:Value):Only g w (w'.setCell ⟨g,i,none⟩ x):=
 h.trans ⟨rfl,rfl,rfl,by simp[World.setCell],fun k _ hn=>Below.heap_setCell _ _ _ _ (by simpa using hn)⟩
theorem iL(g:Nat)(s:St)(x:Int)(w:World)(h:Rd 200 w g s):
 Calls Tryz.prog 153 #[g,x] w fun e w'=>e=.returned (.tuple #[])/\Rd 200 w' g (dz s x)/\Only g w w':=by
 obtain⟨b,er⟩:=s;obtain⟨A,c,hh,ho,hc,hl,hok⟩:=h;obtain⟨c0,c1,f0,f1⟩:=zh hh;have HH:=hid hh;simp only at c0 c1;by_cases he:er=0
 . subst he
   have HS:=hid (show dz ⟨b,0⟩ x=⟨[],x⟩from rfl);clear hh;go_enter Tryz.func153,Tryz.ntmps153
   go_wp2
   go_end0
   refine⟨rfl,?_,bF (bF (Flow.Into.refl _ _) _ _) _ _⟩;rw[HS.out];exact⟨none,0,set2 HH.out,Gi.nil _ _ _,Nat.zero_le _,Nat.zero_le _,fun _=>rfl⟩
 . have HS:=hid (show dz ⟨b,er⟩ x=⟨b,er⟩from if_neg he)
   have h1:(er==0)=false:=(by simpa using he);have h2:(er != 0)=true:=(by simpa using he);clear hh he;go_enter Tryz.func153,Tryz.ntmps153
   go_wp2
   refine bodyPost_ret (results_none rfl _ _ _) rfl ⟨rfl,?_,Flow.Into.refl _ _⟩;rw[HS.out];exact⟨A,c,HH.out,ho,hc,hl,hok⟩
def Told(w:World)(g:Nat)(l:List UInt8)(e:Ending):Prop:=∃(A:Option Addr) (c:Nat),e=.returned (.slice A l.length c)/\Off w g A l/\l.length<=c
theorem Told.nil(w:World)(g:Nat):Told w g [] (.returned ()):=⟨none,0,rfl,Off.nil _ _ _,Nat.le_refl _⟩
theorem Nq:∃i,Tryz.prog.info? 5=some i/\i.size=1:=by obtain⟨i,h1,_,h2,_⟩:=info_parts gK;exact⟨i,h1,h2⟩
theorem tQ(g:Nat)(s:St)(n:Int)(w:World)(h:Rd 200 w g s):
 Calls Tryz.prog 152 #[g,n] w fun e w'=>Told w' g (aY s n).2 e/\Rd 200 w' g (aY s n).1/\Only g w w':=by
 have HR:=hid h;by_cases h0:n<0
 . have HS:=hid (GD s h0)
   have cS:=fun w hw=>hid (iL g s 2 w hw);clear h;go_enter Tryz.func152,Tryz.ntmps152
   go_wp2_with (go_at_call 153;refine(cS _ HR.out).mono ?_;rintro e w' ⟨rfl,hr,ho⟩;have HR':=hid hr;have HO':=hid ho;clear hr ho)
   go_ret
   rw[HS.out];exact⟨Told.nil _ _,HR'.out,HO'.out⟩
 . obtain⟨A,c,hh,ho,hc,hl,hok⟩:=h
   obtain⟨c0,c1,f0,f1⟩:=zh hh;have HH:=hid hh;by_cases h1:(s.b.length:Int)<n
   . have HS:=hid (j5 s h0 h1)
     have cS:=fun w hw=>hid (iL g s 5 w hw);clear hh;go_enter Tryz.func152,Tryz.ntmps152
     go_wp2_with (go_at_call 153;refine(cS _ HR.out).mono ?_;rintro e w' ⟨rfl,hr,ho⟩;have HR':=hid hr;have HO':=hid ho;clear hr ho)
     go_ret
     rw[HS.out];exact⟨Told.nil _ _,HR'.out,HO'.out⟩
   . have HS:=hid (jK s h0 h1)
     obtain⟨k,rfl⟩:∃k:Nat,n=k:=⟨n.toNat,by omega⟩
     obtain⟨m,hm⟩:=eX s.b.length;have hk:k<=m:=(by omega);obtain⟨i0,hi,hsz⟩:=Nq;have r1:=fun w=>sQ (P:=Tryz.prog) Tryz.underlying26 hi A m c k (by omega) w;have r2:=fun w=>Ci (P:=Tryz.prog) Tryz.underlying26 hi hsz A m c k hk w;rw[<-hm]at c0;have HM:=hid hm;obtain⟨A',hA'⟩:=eX (Gr A c k);rw[<-hA']at r2;have HA:=hid hA';clear hh hm hA' hi hsz h0 h1 hl;go_enter Tryz.func152,Tryz.ntmps152
     go_wp2
     go_ret
     have hs:=HS.out;have hm:=HM.out;rw[Int.toNat_natCast]at hs;have hsz:(s.b.take k).length=k:=(by simp;omega);have hO:Only g w (w.setCell ⟨g,0,none⟩ (.slice A' (m-k) (c-k))):=bF (Flow.Into.refl _ _) _ _;rw[hs];refine⟨⟨A,c,by rw[hsz];rfl,(ho.1.take k).only hO,by rw[hsz];omega⟩,⟨A',c-k,?_,?_,by simp;omega,by simp;obtain⟨_,_,_,_,_,hl,_⟩:=HR.out;omega,fun he=>by simp[hok he]⟩,hO⟩
     . have:=set1 (x':= .slice A' (m-k) (c-k)) HH.out
       rw[this];simp[hm]
     . have h1:=(ho.cut (k:=k) hc).only hO
       rw[<-HA.out]at h1;exact h1
theorem Dm(l:List UInt8)(k:Nat)(h:k<l.length):gY (l.take (k+1))=(gY (l.take k)&&l[k]==0):=by unfold gY;rw[List.take_succ_eq_append_getElem h,List.all_append];simp
theorem GH{l:List UInt8}{k:Nat}(h:k<l.length)(hz:l[k]≠0):gY l=false:=by unfold gY;rw[List.all_eq_false];exact⟨l[k],List.getElem_mem h,by simpa using hz⟩
theorem qb(p:Option Addr)(c:Nat)(l:List UInt8)(w:World)(h:BL w p l)(hl:l.length<=140737488355328):
 CW 151 #[.slice p l.length c] w (.bool (gY l)):=by
 obtain⟨n,hn⟩:=eX l.length;have hl':n<=140737488355328:=by omega
 have HN:=hid hn;rw[<-hn];clear hn hl;go_enter Tryz.func151,Tryz.ntmps151
 go_wp2
 go_loop [7] (fun i=>∃k:Nat,k<=n/\i= .int .i64 k/\Hid (gY (l.take k)=true)) (fun i=>n-(intOf i).toNat)
 case atStart=>exact⟨0,Nat.zero_le _,rfl,rfl⟩
 case round=>
  obtain⟨k,hk,rfl,HZ⟩:=hrel;by_cases hlt:k<n
  . have hkl:k<l.length:=by rw[<-HN.out];exact hlt
    obtain⟨b,o,rfl,hc⟩:=h.at_ hkl;by_cases hz:l[k]=0
    . have HZ':Hid (gY (l.take (k+1))=true):=by unfold Hid;rw[Dm l k hkl,HZ.out,hz];rfl
      rw[hz]at hc;have hc':w.cell? ⟨b,o+k,none⟩=some (.int .u8 0):=(by rw[hc];rfl);clear hz hc hkl h
      go_wp2
      go_round
      case rel=>exact⟨k+1,hlt,by go_num,HZ'⟩
      case measure=>simp[intOf];omega
    . have HR:=hid (GH hkl hz)
      have hne:((l[k].toNat:Int) != 0)=true:=by
       simp only[bne_iff_ne,ne_eq];intro e;exact hz (UInt8.toNat_inj.1 (by simpa using e))
      generalize (l[k].toNat:Int)=y at hc hne;clear hz hkl h
      go_wp2
      go_ret
      exact⟨by rw[HR.out];rfl,rfl⟩
  . obtain rfl:k=n:=by omega
    have HR:Hid (gY l=true):=by
     unfold Hid;have:=HZ.out
     rwa [List.take_of_length_le (by rw[HN.out];exact Nat.le_refl _)]at this
    go_wp2
    go_ret
    exact⟨by rw[HR.out];rfl,rfl⟩
theorem rZ{T:TypeId}{w:World}{g:Nat}{s:St}(h:Rd T w g s)(n:Int):(aY s n).2.length<=140737488355000:=by obtain⟨_,_,_,_,_,hl,_⟩:=h;have:=xK s n;omega
end Wd
namespace Wd
open Mem
theorem xL(t:List UInt8)(k:Nat)(hk:k<t.length)(h8:t.length<=8):val (t.take k)<72057594037927936:=by
 have h:=vI (t.take k);have h1:(t.take k).length<=7:=by simp;omega
 have h2:256 ^ (t.take k).length<=256 ^ 7:=Nat.pow_le_pow_right (by decide) h1;omega
theorem KG(v y:Nat)(hv:v<72057594037927936)(hy:y<256):bits .or .u64 ((v:Int)*256) (y:Int)=((256*v+y:Nat):Int):=by
 have e:((v:Int)*256)=((256*v:Nat):Int):=by omega
 rw[e,u64_or_nat _ _ (by omega) (by omega)];have:=Nat.two_pow_add_eq_or_of_lt (i:=8) (b:=y) (by omega) v;rw[show 256*v=2 ^ 8*v by omega,this]
theorem Dp(g:Nat)(s:St)(n:Int)(w:World)(h:Rd 200 w g s):
 Calls Tryz.prog 173 #[g,n] w fun e w'=>e=.returned (.int .u64 ((aV s n).2:Int))/\Rd 200 w' g (aV s n).1/\Only g w w':=by
 have cW:=fun w=>hid (p8 n w);cases hw:isW n with
 |false=>
  rw[hw]at cW;have HS:=hid (show aV s n=(dz s 2,0) by simp[aV,hw]);have cS:=hid (iL g s 2 w h);clear h hw;go_enter Tryz.func173,Tryz.ntmps173
  go_wp2_with (first
   |(go_at_call 186;refine(cW _).mono ?_;rintro e w' ⟨rfl,rfl⟩)
   |(go_at_call 153;refine cS.mono ?_;rintro e w1 ⟨rfl,hr,ho⟩;have HR1:=hid hr;have HO1:=hid ho;clear hr ho))
  go_ret
  rw[HS.out];exact⟨rfl,HR1.out,HO1.out⟩
 |true=>
  rw[hw]at cW;have HS:=hid (show aV s n=((aY s n).1,val (aY s n).2) by simp[aV,hw]);have hn:n<=8:=by have:=pX hw;omega
  have hlen:=take_len s n;have h8:(aY s n).2.length<=8:=by split at hlen<;>omega
  have cT:=hid (tQ g s n w h);obtain⟨t,ht⟩:=eX ((aY s n).2);rw[<-ht]at h8 cT HS;obtain⟨m,hm⟩:=eX t.length;rw[<-hm]at h8;have HT:=hid ht;have HM:=hid hm;clear h hw hlen hn ht hm;go_enter Tryz.func173,Tryz.ntmps173
  go_wp2_with (first
   |(go_at_call 186;refine(cW _).mono ?_;rintro e w' ⟨rfl,rfl⟩)
   |(go_at_call 152;refine cT.mono ?_;rintro e w1 ⟨⟨A,c,he,hO,hc⟩,hr,ho⟩;rw[<-HM.out]at he hc;subst he;have HO:=hid hO;have HR1:=hid hr;have HO1:=hid ho;clear hO hr ho hc))
  go_loop [5,17] (fun x i=>∃(k v:Nat),k<=m/\i= .int .i64 k/\x= .int .u64 (v:Int)/\Hid (v=val (t.take k))) (fun _ i=>m-(intOf i).toNat)
  case atStart=>exact⟨0,0,Nat.zero_le _,rfl,rfl,rfl⟩
  case round=>
   obtain⟨k,v,hk,rfl,rfl,HV⟩:=hrel;by_cases hlt:k<m
   . have hkl:k<t.length:=by rw[<-HM.out];exact hlt
     obtain⟨b,o,rfl,hc⟩:=HO.1.at_ hkl;have hv:v<72057594037927936:=(by rw[HV.out];exact xL t k hkl (by rw[<-HM.out];exact h8));have hy:t[k].toNat<256:=t[k].toNat_lt
     have HN:Hid (256*v+t[k].toNat=val (t.take (k+1))):=by
      unfold Hid;rw[List.take_succ_eq_append_getElem hkl,jZ,HV.out]
     generalize t[k].toNat=y at hc hy HN;have hor:=KG v y hv hy;clear hkl
     go_wp2
     exact⟨⟨k+1,256*v+y,hlt,by go_num,rfl,HN⟩,by simp[intOf];omega⟩
   . obtain rfl:k=m:=by omega
     go_wp2
     go_ret
     rw[HS.out];refine⟨?_,HR1.out,HO1.out⟩;have:=HV.out;rw[List.take_of_length_le (by rw[HM.out];exact Nat.le_refl _)]at this;rw[this];rfl
theorem lW(g:Nat)(s:St)(n:Int)(w:World)(h:Rd 200 w g s):
 Calls Tryz.prog 118 #[g,n] w fun e w'=>e=.returned (.tuple #[])/\Rd 200 w' g (aW s n)/\Only g w w':=by
 have HL:=hid (rZ h n);have cT:=hid (tQ g s n w h);have cZ:=fun p c l w hb hl=>hid (qb p c l w hb hl);have cS:=fun s x w hw=>hid (iL g s x w hw);clear h;cases hz:gY (aY s n).2 with
 |true=>
  have HS:=hid (show aW s n=(aY s n).1 by simp[aW,hz]);have HZ:=hid hz;clear hz;go_enter Tryz.func118,Tryz.ntmps118
  go_wp2_with (first
   |(go_at_call 152;refine cT.mono ?_;rintro e w1 ⟨⟨A,c,rfl,hO,hc⟩,hr,ho⟩;have HO:=hid hO;have HR1:=hid hr;have HO1:=hid ho;clear hO hr ho)
   |(go_at_call 151;refine(cZ _ _ _ _ HO.1 (by have:=HL.out;omega)).mono ?_;rw[HZ.out];rintro e w2 ⟨rfl,rfl⟩))
  go_end0
  exact⟨rfl,by rw[HS.out];exact HR1.out,HO1.out⟩
 |false=>
  have HS:=hid (show aW s n=dz (aY s n).1 3 by simp[aW,hz]);have HZ:=hid hz;clear hz;go_enter Tryz.func118,Tryz.ntmps118
  go_wp2_with (first
   |(go_at_call 152;refine cT.mono ?_;rintro e w1 ⟨⟨A,c,rfl,hO,hc⟩,hr,ho⟩;have HO:=hid hO;have HR1:=hid hr;have HO1:=hid ho;clear hO hr ho)
   |(go_at_call 151;refine(cZ _ _ _ _ HO.1 (by have:=HL.out;omega)).mono ?_;rw[HZ.out];rintro e w2 ⟨rfl,rfl⟩)
   |(go_at_call 153;refine(cS _ _ _ HR1.out).mono ?_;rintro e w3 ⟨rfl,hr,ho⟩;have HR3:=hid hr;have HO3:=hid ho;clear hr ho))
  go_end0
  exact⟨rfl,by rw[HS.out];exact HR3.out,HO1.trans HO3.out⟩
theorem AO(p:Option Addr)(c:Nat)(l:List UInt8)(n:Nat)(hn:l.length=n)(w:World)(h:BL w p l)(hl:n<=140737488355328):
 CW 151 #[.slice p n c] w (.bool (gY l)):=by subst hn;exact qb p c l w h hl
theorem GI(s:St){n m:Int}(h:n<0\/m<n):bV s n m=(dz s 2,[]):=if_pos h
theorem AP(s:St){n m:Int}(h:¬(n<0\/m<n))(h1:((aY s m).2.length:Int)<m):bV s n m=((aY s m).1,[]):=by unfold bV;rw[if_neg h,if_pos h1]
theorem Dq(s:St){n m:Int}(h:¬(n<0\/m<n))(h1:¬((aY s m).2.length:Int)<m)(h2:gY ((aY s m).2.drop n.toNat)=true):bV s n m=((aY s m).1,(aY s m).2.take n.toNat):=by unfold bV;rw[if_neg h,if_neg h1,if_pos h2]
theorem Dr(s:St){n m:Int}(h:¬(n<0\/m<n))(h1:¬((aY s m).2.length:Int)<m)(h2:gY ((aY s m).2.drop n.toNat)=false):bV s n m=(dz (aY s m).1 3,[]):=by unfold bV;rw[if_neg h,if_neg h1,if_neg (by rw[h2];exact Bool.false_ne_true)]
theorem lX(g:Nat)(s:St)(n m:Int)(w:World)(h:Rd 200 w g s):
 Calls Tryz.prog 174 #[g,n,m] w fun e w'=>e=.returned (.string (strOf (bV s n m).2))/\Rd 200 w' g (bV s n m).1/\Only g w w':=by
 have hL:=rZ h m;have cT:=hid (tQ g s m w h);have cS0:=hid (iL g s 2 w h);have cS:=fun s x w hw=>hid (iL g s x w hw);have cZ:=fun p c l n hn w hb hl=>hid (AO p c l n hn w hb hl);clear h;by_cases h0:n<0\/m<n
 . have HS:=hid (GI s h0)
   clear hL;rcases Int.lt_or_le n 0 with h1|h1
   . clear h0
     go_enter Tryz.func174,Tryz.ntmps174
     go_wp2_with (go_at_call 153;refine cS0.mono ?_;rintro e w1 ⟨rfl,hr,ho⟩;have HR1:=hid hr;have HO1:=hid ho;clear hr ho)
     go_ret
     rw[HS.out];exact⟨rfl,HR1.out,HO1.out⟩
   . have h2:m<n:=by omega
     clear h0;go_enter Tryz.func174,Tryz.ntmps174
     go_wp2_with (go_at_call 153;refine cS0.mono ?_;rintro e w1 ⟨rfl,hr,ho⟩;have HR1:=hid hr;have HO1:=hid ho;clear hr ho)
     go_ret
     rw[HS.out];exact⟨rfl,HR1.out,HO1.out⟩
 . obtain⟨k,rfl⟩:∃k:Nat,n=k:=⟨n.toNat,by omega⟩
   obtain⟨j,rfl⟩:∃j:Nat,m=j:=⟨m.toNat,by omega⟩
   have hkj:k<=j:=(by omega);have e1:=fun h1=>AP s h0 h1;have e2:=fun h1 h2=>Dq s h0 h1 h2;have e3:=fun h1 h2=>Dr s h0 h1 h2;simp only[Int.toNat_natCast]at e2 e3;clear h0;have hle:=take_len s (j:Int);rw[if_neg (by omega)]at hle;obtain⟨t,ht⟩:=eX ((aY s (j:Int)).2);rw[<-ht]at hL cT e1 e2 e3 hle;obtain⟨q,hq⟩:=eX t.length;have HQ:=hid hq;rw[<-hq]at e1 e2 e3 hL hle;by_cases h1:q<j
   . have HS:=hid (e1 (by omega))
     clear e1 e2 e3 hq ht;go_enter Tryz.func174,Tryz.ntmps174
     go_wp2_with (go_at_call 152;refine cT.mono ?_;rintro e w1 ⟨⟨A,c,he,hO,hc⟩,hr,ho⟩;rw[<-HQ.out]at he hc;subst he;have HO:=hid hO;have HR1:=hid hr;have HO1:=hid ho;clear hO hr ho)
     go_ret
     rw[HS.out];exact⟨rfl,HR1.out,HO1.out⟩
   . obtain rfl:q=j:=by omega
     obtain⟨i0,hi,hsz⟩:=Nq;have r2:=fun A c w=>Ci (P:=Tryz.prog) Tryz.underlying26 hi hsz A q c k hkj w;have r1:=fun A c w (h:k<=c)=>sQ (P:=Tryz.prog) Tryz.underlying26 hi A q c k h w;have htk:(t.take k).length=k:=(by simp;omega);have htd:(t.drop k).length=q-k:=(by simp;omega);cases hz:gY (t.drop k)with
     |true=>
      have HS:=hid (e2 (by omega) hz);have HZ:=hid hz;have HTK:=hid htk;have HTD:=hid htd;clear e1 e2 e3 hq hz htk htd hi hsz ht hle h1;go_enter Tryz.func174,Tryz.ntmps174
      go_wp2_with (first
       |(go_at_call 152;refine cT.mono ?_;rintro e w1 ⟨⟨A,c,he,hO,hc⟩,hr,ho⟩;rw[<-HQ.out]at he hc;subst he;have hkc:k<=c:=(by omega);have rt:=Av (P:=Tryz.prog) Tryz.underlying26 Tryz.underlying5 Tryz.underlying9 (hO.1.take k) HTK.out c;have HO:=hid hO;have HR1:=hid hr;have HO1:=hid ho;clear hO hr ho)
       |(go_at_call 151;refine(cZ _ _ (t.drop k) _ HTD.out _ (HO.cut (by rw[<-HQ.out];exact hc)).1 (by omega)).mono ?_;rw[HZ.out];rintro e w2 ⟨rfl,rfl⟩))
      go_ret
      rw[HS.out];exact⟨rfl,HR1.out,HO1.out⟩
     |false=>
      have HS:=hid (e3 (by omega) hz);have HZ:=hid hz;have HTD:=hid htd;clear e1 e2 e3 hq hz htk htd hi hsz ht hle h1;go_enter Tryz.func174,Tryz.ntmps174
      go_wp2_with (first
       |(go_at_call 152;refine cT.mono ?_;rintro e w1 ⟨⟨A,c,he,hO,hc⟩,hr,ho⟩;rw[<-HQ.out]at he hc;subst he;have hkc:k<=c:=(by omega);have HO:=hid hO;have HR1:=hid hr;have HO1:=hid ho;clear hO hr ho)
       |(go_at_call 151;refine(cZ _ _ (t.drop k) _ HTD.out _ (HO.cut (by rw[<-HQ.out];exact hc)).1 (by omega)).mono ?_;rw[HZ.out];rintro e w2 ⟨rfl,rfl⟩)
       |(go_at_call 153;refine(cS _ _ _ HR1.out).mono ?_;rintro e w3 ⟨rfl,hr,ho⟩;have HR3:=hid hr;have HO3:=hid ho;clear hr ho))
      go_ret
      rw[HS.out];exact⟨rfl,HR3.out,HO1.trans HO3.out⟩
theorem GJ(g:Nat)(s:St)(w:World)(h:Rd 200 w g s):
 CW 119 #[g] w (.int .i64 (s.b.length:Int)):=by
 obtain⟨A,c,hh,ho,hc,hl,hok⟩:=h;obtain⟨c0,c1,f0,f1⟩:=zh hh;clear hh;go_enter Tryz.func119,Tryz.ntmps119
 go_wp2
 go_ret
 exact⟨rfl,rfl⟩
theorem Dt(g:Nat)(s:St)(w:World)(h:Rd 200 w g s):
 CW 120 #[g] w (.int .i64 s.e):=by
 obtain⟨A,c,hh,ho,hc,hl,hok⟩:=h;obtain⟨c0,c1,f0,f1⟩:=zh hh;clear hh;go_enter Tryz.func120,Tryz.ntmps120
 go_wp2
 go_ret
 exact⟨rfl,rfl⟩
theorem GK(p:Option Addr)(c:Nat)(l:List UInt8)(w:World)(h:BL w p l)(hl:l.length<=140737488355000):
 Calls Tryz.prog 116 #[.slice p l.length c] w fun e w'=>∃g,e=.returned (g:Nat)/\Rd 200 w' g ⟨l,0⟩/\w.heap.size<=g/\Bw w w':=by
 have cC:=hid (Dc p c l w h (by omega));have HL:=hid hl;clear h hl;go_enter Tryz.func116,Tryz.ntmps116
 go_wp2_with (go_at_call 143;refine cC.mono ?_;rintro e w1 ⟨rfl,hrow,hb⟩;have GL:=hid hrow;have HB:=hid hb;clear hrow hb)
 go_ret
 refine⟨w1.heap.size,rfl,⟨some ⟨w.heap.size,0,none⟩,l.length,heap_alloc_new w1 _,⟨⟨GL.bl.alloc _,fun _ a ha=>?_⟩,fun _ a ha=>?_⟩,Nat.le_refl _,HL.out,fun _=>by simp_all⟩,HB.size,HB.alloc HB.size _⟩
 . obtain rfl:a=⟨w.heap.size,0,none⟩:=by simpa using ha.symm
   have:=GL.lt;show w.heap.size≠w1.heap.size;omega
 . obtain rfl:a=⟨w.heap.size,0,none⟩:=by simpa using ha.symm
   exact⟨_,(heap_alloc_old _ _ GL.lt).trans GL.out⟩
end Wd
end Go.Proofs.YtmcbidhpkpmalaaGreatDoor
namespace Go.Proofs.YtmcbidhpkpmalaaGreatDoor
open Go.RowKit
namespace No
open Mem
open Wd (St Only Rd)
section
variable{w w':World}{q b:Nat}{s:St}
theorem qd(hr:Rd 200 w q s)(ho:Flow.Into [b] w w')(hb:b≠q){C:Array Value}{T:TypeId}{f:Nat × Nat}(hx:w.heap[b]? =some (.cells C T f))(hT:T≠5):Rd 200 w' q s:=by have hlt:=hr.lt;obtain⟨A1,c1,h1,h2,h3,h4,h5⟩:=hr;(have hk:∀a,A1=some a->0<s.b.length->w'.heap[a.block]? =w.heap[a.block]? :=fun a ha hl=>by obtain⟨C',hC⟩:=h2.2 hl a ha;refine ho.block _ (Array.getElem?_eq_some_iff.1 hC).1 fun e=>?_;simp only[List.mem_singleton]at e;rw[e,hx]at hC;simp only[Option.some.injEq,Obj.cells.injEq]at hC;exact hT hC.2.1);refine⟨A1,c1,(ho.block q hlt (by simp only[List.mem_singleton];exact fun e=>hb e.symm)).trans h1,⟨⟨h2.1.1.keep fun hl a ha=>hk a ha hl,h2.1.2⟩,fun hl a ha=>?_⟩,h3,h4,h5⟩;obtain⟨C',hC⟩:=h2.2 hl a ha;exact⟨C',(hk a ha hl).trans hC⟩
theorem Qi(hr:Rd 200 w q s):∃X:Array Value,w.heap[q]? =some (.cells X 200 (0,0)):=by obtain⟨A1,c1,h1,-⟩:=hr;exact⟨_,h1⟩
theorem Nr(hr:Rd 200 w q s){C:Array Value}{T:TypeId}(hx:w.heap[b]? =some (.cells C T (0,0)))(hT:T≠200):b≠q:=fun e=>by obtain⟨X,h1⟩:=Qi hr;subst e;rw[hx]at h1;simp only[Option.some.injEq,Obj.cells.injEq]at h1;exact hT h1.2.1
theorem tT{C:Array Value}{T:TypeId}(hx:w.heap[b]? =some (.cells C T (0,0)))(ho:Flow.Into [q] w w')(hb:b≠q):w'.heap[b]? =some (.cells C T (0,0)):=
 (ho.block b (Array.getElem?_eq_some_iff.1 hx).1 (by simpa using hb)).trans hx
end
end No
namespace Bt
def Qj:List Int:=Lib.deBruijn64tab.map fun n:Nat=>(n:Int)
theorem gTab:Tryz.prog.globalNamed "math/bits.deBruijn64tab" =some 1 :=by kernel_rfl
theorem Sy:(Tryz.prog.globals[1]?).map (·.type)=some 240:=by kernel_rfl
theorem qg{W:World}(h:laidMet Tryz.prog [("math/bits.deBruijn64tab",Lib.tabData .u8 Qj)] W):Tab W:=by
 have ht:=Lib.tabIs_of_head gTab Sy Tryz.underlying240 Tryz.underlying5 (by kernel_rfl) (by kernel_rfl) h;intro j hj;have hl:Lib.deBruijn64tab.length=64:=by decide
 have:=ht.cell gTab j (by simp[Qj];omega);rw[this];have:j<Lib.deBruijn64tab.length:=by omega
 simp[Qj,List.getD,this]
end Bt
end Go.Proofs.YtmcbidhpkpmalaaGreatDoor
namespace Go.Proofs.YtmcbidhpkpmalaaGreatDoor.Post
open Go.RowKit Go.WideShapes Go.ChangeShapes
section
variable{H:Type}{enc:TypeId × Value->H}{P:Program}
theorem nY(hl:laidOutB P=true){W W':World}(hb:Bw W W'):∀(ts:List TypeId) (vs:List Value) (ds:List (DataW H)) (ps:List MemPlace),
 (ts.all fun t=>P.readableRec t&&decide (t<P.types.size))=true->DataW.TrodAll enc P W 0 (fun _=>true) true ts vs ds ps->(∀x∈ps,x.block<W.heap.size)->
 DataW.TrodAll enc P W' 0 (fun b=>decide (b<W.heap.size)) true ts vs ds ps
 |[],[],[],_,_,h,_=>h
 |[],[],_::_,_,_,h,_=>h.elim
 |[],_::_,_,_,_,h,_=>h.elim
 |_::_,[],_,_,_,h,_=>h.elim
 |_::_,_::_,[],_,_,h,_=>h.elim
 |t::ts,v::vs,d::ds,ps,hr,h,hlt=>by
  obtain⟨p,q,h1,h2,rfl⟩:=h;simp only[List.all_cons,Bool.and_eq_true,decide_eq_true_eq]at hr
  exact⟨p,q,Below.trod hl hr.1.1 hr.1.2 h1 hb (fun x hx=>hlt x (List.mem_append_left _ hx)),
   nY hl hb ts vs ds q (by simpa using hr.2) h2 (fun x hx=>hlt x (List.mem_append_right _ hx)),rfl⟩
theorem zi{f:Func}{s:ChangeSpec}{W W':World}{args:Array Value}{ds:List (DataW H)}{before:List MemPlace}{tb:TypeId}
 (hl:laidOutB P=true) (hread:(f.params.toList.all fun t=>P.readableRec t&&decide (t<P.types.size))=true)
 (hW:DataW.Whole enc P f.params.toList s.vars false W args.toList ds [] before) (hv:s.vars=[]) (hfn:s.fn H ds={ results:=[.lit (.bool true)],args:=ds })
 (hrt:f.resultTypes= #[tb]) (htb:P.underlying tb=some .bool) (hb:Bw W W'):s.post enc P f false true false false W args (.bool true) W':=by
 have hW2:=hW;obtain⟨p,q,hA,hV,hps,_,_⟩:=hW;have hq:q=[]:=by rw[hv]at hV;exact hV
 subst hq;have hbp:before=p:=by rw[hps,List.append_nil]
 subst hbp;refine⟨ds,[],before,[],before,[],hW2,?_,?_,?_,?_,fun h=>by cases h⟩
 . rw[List.append_nil,hfn,hrt]
   exact⟨[],[],shut_bool htb _,rfl,rfl⟩
 . rw[List.append_nil,hfn]
   exact nY hl hb _ _ _ _ hread hA (fun x hx=>hW2.lt x hx)
 . rw[List.append_nil,hfn,hv]
   exact rfl
 . exact hb.frame _
end
end Go.Proofs.YtmcbidhpkpmalaaGreatDoor.Post
namespace Go.Proofs.YtmcbidhpkpmalaaGreatDoor
open Go.RowKit Go.WideShapes Go.ChangeShapes Go.Deep
namespace Cf
theorem Ns{α:Type}{cs:Array α}(h:cs.size=8):∃c0 c1 c2 c3 c4 c5 c6 c7,cs= #[c0,c1,c2,c3,c4,c5,c6,c7]:=by obtain⟨l⟩:=cs;match l,h with|[c0,c1,c2,c3,c4,c5,c6,c7],_=>exact⟨c0,c1,c2,c3,c4,c5,c6,c7,rfl⟩
theorem KH:oneCellFields Tryz.prog (Tryz.prog.fieldsOf 23)=true:=by kernel_rfl
theorem Nt(j:Nat)(hj:j<8):∃f,(Tryz.prog.fieldsOf 23)[j]? =some f/\f.type=3:=by
 have h:∀j:Fin 8,((Tryz.prog.fieldsOf 23)[j.val]?.map fun f=>f.type)=some 3:=by decide+kernel
 have:=h ⟨j,hj⟩;rw[Option.map_eq_some_iff]at this;exact this
theorem zl{H:Type}{enc:TypeId × Value->H}{W:World}{v:Value}{d:DataW H}{p:List MemPlace}{r:Reach}{b0:Nat}(hv:Value.okWide Tryz.prog W r b0 23 v)(h:DataW.Trod enc Tryz.prog W 0 (fun _=>true) true 23 v d p):
 ∃b y fr fa bu le ke va:Int,v= .agg #[b,y,fr,fa,bu,le,ke,va]:=by
 have hu:Tryz.prog.underlying 23=some (.struct (Tryz.prog.fieldsOf 23)):=by kernel_rfl
 obtain⟨cs,rfl,hsz⟩:=okWide_struct hu hv;have h8:Tryz.prog.cellsOf 23=8:=by kernel_rfl
 rw[h8]at hsz;obtain⟨fuel,hf⟩:=h;obtain⟨ys,n',_,_,hlen,hyl,hfl⟩:=DataW.trod_struct hu hf
 have each:∀(j:Nat) (u:Value),cs[j]? =some u->∃z,u= .int .i64 z:=fun j u hj=>by
  have hj8:j<8:=by
   rw[<-hsz];exact(Array.getElem?_eq_some_iff.1 hj).1
  obtain⟨f,hfj,hft⟩:=Nt j hj8;obtain⟨ho,hk⟩:=hone_of KH j f hfj;have h1:=hfl j f hfj;rw[ho,hk,hft]at h1
  have hu1:((Value.agg cs).cells.toList.drop j).take 1=[u]:=by
   simp only[Value.cells];have hl:cs.toList[j]? =some u:=(by simpa using hj);rw[List.getElem?_eq_some_iff]at hl;obtain⟨h2,h3⟩:=hl;rw[List.drop_eq_getElem_cons h2,h3];rfl
  rw[hu1]at h1
  have hj':j<ys.length:=by
   rw[hyl];exact(Array.getElem?_eq_some_iff.1 hfj).1
  rw[List.getElem?_eq_getElem hj']at h1;obtain⟨z,hz,_,_⟩:=DataW.trod_int Tryz.underlying3 h1;exact⟨z,by simpa using hz⟩
 obtain⟨c0,c1,c2,c3,c4,c5,c6,c7,rfl⟩:=Ns hsz;obtain⟨z0,rfl⟩:=each 0 c0 rfl;obtain⟨z1,rfl⟩:=each 1 c1 rfl;obtain⟨z2,rfl⟩:=each 2 c2 rfl;obtain⟨z3,rfl⟩:=each 3 c3 rfl;obtain⟨z4,rfl⟩:=each 4 c4 rfl;obtain⟨z5,rfl⟩:=each 5 c5 rfl;obtain⟨z6,rfl⟩:=each 6 c6 rfl;obtain⟨z7,rfl⟩:=each 7 c7 rfl;exact⟨z0,z1,z2,z3,z4,z5,z6,z7,rfl⟩
end Cf
end Go.Proofs.YtmcbidhpkpmalaaGreatDoor
namespace Go.Proofs.YtmcbidhpkpmalaaGreatDoor.Mem
open Go.RowKit
end Go.Proofs.YtmcbidhpkpmalaaGreatDoor.Mem
namespace Go.Proofs.YtmcbidhpkpmalaaGreatDoor.Args
open Go.RowKit Go.WideShapes Go.ChangeShapes Go.Deep Mem
section
variable{H:Type}{enc:TypeId × Value->H}{P:Program}{W:World}
theorem kM{t e:TypeId}{fuel:Nat}{cs:List Value}{x:DataW H × List MemPlace}(ht:P.underlying t=some (.slice e))(he:P.underlying e=some (.int .u8))(hc:P.cellsOf e=1)
 (h:DataW.trod enc P W 0 (fun _=>true) true fuel t cs=some x):∃(A:Option Addr) (l:List UInt8) (c:Nat),cs=[.slice A l.length c]/\BL W A l/\l.length<=c/\c<=maxLen/\(P.bytesOf e=1->(∀n∈x.1.weights P t,n<=reachBytes)->l.length<=reachBytes):=by
 rcases open_ints ht he hc h with⟨rfl,_⟩|⟨a,len,cap,zs,rfl,_,hl,hm,hz,hx,hcell,hwz⟩
 . exact⟨none,[],0,rfl,BL.nil _ _,Nat.le_refl _,Nat.zero_le _,fun _ _=>Nat.zero_le _⟩
 . simp only[if_true]at hz
   have htl:((zs.take len).map fun z=>UInt8.ofNat z.toNat).length=len:=(by simp;omega);refine⟨some a,(zs.take len).map fun z=>UInt8.ofNat z.toNat,cap,by rw[htl],fun hpos=>?_,by rw[htl];exact hl,hm,fun hb hw=>?_⟩
   case refine_2=>
    rw[htl];have:=hw (((lits .u8 (zs.take len):List (DataW H)).length+(lits .u8 (zs.drop len):List (DataW H)).length)*P.bytesOf e) (by rw[hx];simp[DataW.weights,ht]);rw[hb]at this;simp[lits]at this;omega
   rw[htl]at hpos;obtain⟨b,o,sp⟩:=a;have h0:=hcell 0 (by omega);obtain rfl:sp=none:=(by simpa[Addr.add]using World.cell?_spot h0);refine⟨b,o,rfl,fun i hi=>?_⟩;rw[htl]at hi;have h1:=hcell i (by omega);have e:(⟨b,o,none⟩:Addr).add i=⟨b,o+i,none⟩:=(by unfold Addr.add;split<;>simp_all);rw[e]at h1;rw[h1];obtain⟨n,hn,hlt⟩:=Ck (hwz (zs.getD i 0) (by rw[List.getD,List.getElem?_eq_getElem (by omega)];exact List.getElem_mem _))
   have hzi:zs[i]'(by omega)=(n:Int):=by
    rw[<-hn,List.getD,List.getElem?_eq_getElem (by omega)];rfl
   rw[hn];simp only[List.getElem_map,List.getElem_take,hzi,kH];simp;omega
end
end Go.Proofs.YtmcbidhpkpmalaaGreatDoor.Args
