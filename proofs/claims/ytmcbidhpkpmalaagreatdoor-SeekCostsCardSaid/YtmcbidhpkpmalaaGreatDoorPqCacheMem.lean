import Derived.Test.YtmcbidhpkpmalaaGreatDoorPkAJ
import Derived.Maps.RangeWalk
namespace Go.Proofs.YtmcbidhpkpmalaaGreatDoor
open Go.RowKit Go.Maps
open List (getElem?_set mem_cons not_mem_nil)
namespace Ca
open Mem Dv Cn
theorem keyed:Keyed Tryz.prog 30:=int_keyed Tryz.underlying30
theorem OZ(w:World):(zeroValue 3).run Tryz.prog w= .ok (.int .i64 0) w:=by kernel_rfl
def kl(i:Nat):Lit:= .int .u32 (i:Int)
def el(j:Nat):DataW Unit:= .lit (.int .i64 (j:Int))
structure MC(w:World)(m:Nat)(W:Nat->Option Nat)(k:Nat):Prop where
 own:∃D:DataW Unit,w.ownsMap Tryz.prog 30 (plainElem Tryz.prog 3) m k D/\Maps.size D=k/\
  ∀i:Nat,i<4294967296->D.atKey (kl i) (el 0)=el ((W i).getD 0)/\Maps.has D (kl i)=(W i).isSome
theorem tight{w:World}{k:TypeId}{R:Value->Option (DataW Unit × List MemPlace)}{b n:Nat}{D:DataW Unit}(h:w.ownsMap Tryz.prog k R b n D):w.ownsMap Tryz.prog k R b (Maps.size D) D:=by obtain⟨es,clock,hb,F,_,rfl⟩:=h;exact⟨es,clock,hb,F,by simp[Maps.size,length_sorted],rfl⟩
theorem Aj{i:Nat}(hi:i<4294967296):keyOf Tryz.prog 30 (.int .u32 (i:Int))=some (kl i):=
 keyOf_int_mk Tryz.underlying30 (by
  have h1:IntKind.u32.min=0:=rfl;have h2:IntKind.u32.max=4294967295:=rfl;simp only[Lit.wf,Bool.and_eq_true,decide_eq_true_eq]
  omega)
theorem Jt{i k:Nat}(h:i≠k):kl i≠kl k:=fun e=>h (by unfold kl at e;injection e with _ e;omega)
theorem Mt{j:Nat}(hj:j<65536):plainElem (H:=Unit) Tryz.prog 3 (.int .i64 (j:Int))=some (el j,[]):=plainElem_int Tryz.underlying3 (by have h1:IntKind.i64.min= -9223372036854775808:=rfl;have h2:IntKind.i64.max=9223372036854775807:=rfl;simp only[Lit.wf,Bool.and_eq_true,decide_eq_true_eq];omega)
section
variable{w w':World}{m k:Nat}{W:Nat->Option Nat}
theorem MC.keep(h:MC w m W k)(hk:w'.heap[m]? =w.heap[m]?):MC w' m W k:=by obtain⟨D,⟨es,clock,hb,hr⟩,h2⟩:=h.own;exact⟨D,⟨es,clock,hk.trans hb,hr⟩,h2⟩
theorem MC.lt(h:MC w m W k):m<w.heap.size:=by obtain⟨D,h1,_⟩:=h.own;exact h1.lt
theorem MC.made(w:World):MC (w.alloc (.map #[] 0)) w.heap.size (fun _=>none) 0:=
 ⟨.map [],World.ownsMap_made w _ _ _,rfl,fun _ _=>⟨rfl,rfl⟩⟩
theorem MC.look(h:MC w m W k){i:Nat}(hi:i<4294967296):(Instr.lookup 120 (.map (some m)) (.int .u32 (i:Int)) false).run Tryz.prog w= .ok (.int .i64 (((W i).getD 0:Nat):Int)) w:=by obtain⟨D,h1,_,h3⟩:=h.own;obtain⟨v,ps,hrun,hv⟩:=h1.lookup keyed Tryz.underlying120 (OZ w) (Mt (j:=0) (by omega)) (Aj hi);obtain⟨x,rfl,hx,_⟩:=plainElem_int_inv Tryz.underlying3 hv;rw[(h3 i hi).1]at hx;simp only[el,Prod.mk.injEq,DataW.lit.injEq,Lit.int.injEq,true_and]at hx;rw[hrun,hx.1]
theorem MC.wD(h:MC w m W k){i:Nat}(hi:i<4294967296):(Instr.lookup 120 (.map (some m)) (.int .u32 (i:Int)) true).run Tryz.prog w= .ok (.tuple #[(((W i).getD 0:Nat):Int),.bool (W i).isSome]) w:=by obtain⟨D,h1,_,h3⟩:=h.own;obtain⟨v,ps,hrun,hv⟩:=h1.look_ok keyed Tryz.underlying120 (OZ w) (Mt (j:=0) (by omega)) (Aj hi);obtain⟨x,rfl,hx,_⟩:=plainElem_int_inv Tryz.underlying3 hv;rw[(h3 i hi).1]at hx;simp only[el,Prod.mk.injEq,DataW.lit.injEq,Lit.int.injEq,true_and]at hx;rw[hrun,hx.1,(h3 i hi).2]
theorem MC.store(h:MC w m W k){i j:Nat}(hi:i<4294967296)(hj:j<65536)(hk:k<=65536):
 ∃w',(Instr.mapUpdate 120 (.map (some m)) (.int .u32 (i:Int)) (.int .i64 (j:Int))).run Tryz.prog w= .ok () w'/\MC w' m (fun x=>if x=i then some j else W x) (if (W i).isSome then k else k+1)/\Flow.Into [m] w w':=by
 obtain⟨D,h1,h2,h3⟩:=h.own;have hT:=h1.tidy keyed;have hM:=h1.isMap;obtain⟨w',hrun,h5,h6⟩:=h1.update keyed Tryz.underlying120 (by unfold maxLen;omega) (Aj hi) (Mt hj)
 have hs:Maps.size (D.put (kl i) (el j))=if (W i).isSome then k else k+1:=by
  rw[size_put hT,(h3 i hi).2,h2]
 refine⟨w',hrun,⟨_,by rw[<-hs];exact tight h5,hs,fun x hx=>?_⟩,⟨h6.os,h6.tape,h6.output,h6.size,fun b hb hn=>h6.block b hb (by simpa using fun e=>hn (by simp[e]))⟩⟩;by_cases he:x=i
 . subst he
   rw[atKey_put_same hM (by trivial),has_put_same hM (by trivial),if_pos rfl];exact⟨rfl,rfl⟩
 . rw[atKey_put_other (Jt he),has_put_other (Jt he),if_neg he]
   exact h3 x hx
theorem MC.drop(h:MC w m W k){i:Nat}(hi:i<4294967296)(hv:(W i).isSome=true)(ty:TypeId):
 ∃w',(Builtin.delete_ #[120,30] ty #[.map (some m),.int .u32 (i:Int)]).run Tryz.prog w= .ok (.tuple #[]) w'/\MC w' m (fun x=>if x=i then none else W x) (k-1)/\Flow.Into [m] w w':=by
 obtain⟨D,h1,h2,h3⟩:=h.own;have hT:=h1.tidy keyed;obtain⟨w',hrun,h5,h6⟩:=h1.drop keyed Tryz.underlying120 (Aj hi) ty;have h6:=h6.grown
 have hs:Maps.size (D.del (kl i))=k-1:=by
  have e1:=size_del (k:=kl i) hT;rw[(h3 i hi).2,hv,h2]at e1;simp only[if_true]at e1;omega
 refine⟨w',hrun,⟨_,by rw[<-hs];exact tight h5,hs,fun x hx=>?_⟩,⟨h6.os,h6.tape,h6.output,h6.size,fun b hb hn=>h6.block b hb (by simpa using fun e=>hn (by simp[e]))⟩⟩;by_cases he:x=i
 . subst he
   rw[atKey_del_same,has_del_same,if_pos rfl];exact⟨rfl,rfl⟩
 . rw[atKey_del_other (Jt he),has_del_other (Jt he),if_neg he]
   exact h3 x hx
end
def f0(x:Option Fr):Value:= .int .u32 ((match x with|some f=>f.1|none=>0:Nat):Int)
def f1(q:Nat × Nat)(x:Option Fr):Value:=match x with
 |some f=> .slice (some q.1) f.2.1.length q.2
 |none=> .slice none 0 0
def f2(x:Option Fr):Value:= .bool (match x with|some f=>f.2.2.1|none=>false)
def f3(x:Option Fr):Value:= .int .i64 ((match x with|some f=>f.2.2.2|none=>0:Nat):Int)
def FrW(w:World)(f:Nat)(qk:Nat->Nat × Nat)(fr:List (Option Fr)):Prop:=
 ∃C,Cells 125 w f C/\C.length=fr.length*4/\∀(j:Nat) (x:Option Fr),fr[j]? =some x->C[j*4]? =some (f0 x)/\C[j*4+1]? =some (f1 (qk j) x)/\C[j*4+2]? =some (f2 x)/\C[j*4+3]? =some (f3 x)
section
variable{w w':World}{f:Nat}{qk:Nat->Nat × Nat}{fr:List (Option Fr)}
theorem FrW.lt(h:FrW w f qk fr):f<w.heap.size:=by obtain⟨C,h1,_⟩:=h;exact h1.lt
theorem FrW.keep(h:FrW w f qk fr)(hk:w'.heap[f]? =w.heap[f]?):FrW w' f qk fr:=by obtain⟨C,h1,h2⟩:=h;exact⟨C,hk.trans h1,h2⟩
theorem kE{U:TypeId}{w:World}{q i:Nat}{C:List Value}{v:Value}(h:Cells U w q C)(hv:C[i]? =some v):w.cell? ⟨q,i,none⟩=some v:=by
 unfold Cells at h;have e:C.toArray[i]? =some v:=by simpa using hv
 simp[World.cell?,h,e]
theorem BO{U:TypeId}{w:World}{q:Nat}{C:List Value}(h:Cells U w q C)(i:Nat):w.frozen? ⟨q,i,none⟩=false:=by unfold Cells at h;simp[World.frozen?,h]
theorem iZ{U:TypeId}{w:World}{q:Nat}{C:List Value}(h:Cells U w q C)(i:Nat)(v:Value):Cells U (w.setCell ⟨q,i,none⟩ v) q (C.set i v):=by unfold Cells at h ⊢;simp[World.setCell,Array.getElem?_modify,h,Array.setIfInBounds,List.set_toArray];intro hl;rw[List.set_eq_of_length_le hl]
theorem FrW.cell(h:FrW w f qk fr){j:Nat}{x:Option Fr}(hx:fr[j]? =some x):w.cell? ⟨f,j*4,none⟩=some (f0 x)/\w.cell? ⟨f,j*4+1,none⟩=some (f1 (qk j) x)/\w.cell? ⟨f,j*4+2,none⟩=some (f2 x)/\w.cell? ⟨f,j*4+3,none⟩=some (f3 x):=by obtain⟨C,h1,_,h3⟩:=h;obtain⟨a,b,c,d⟩:=h3 j x hx;exact⟨kE h1 a,kE h1 b,kE h1 c,kE h1 d⟩
theorem FrW.free(h:FrW w f qk fr)(i:Nat):w.frozen? ⟨f,i,none⟩=false:=by obtain⟨C,h1,_⟩:=h;exact BO h1 i
theorem set_self{α:Type}{l:List α}{j:Nat}{x y z:α}(hy:l[j]? =some y)(h:(l.set j x)[j]? =some z):z=x:=by rw[getElem?_set]at h;simp[(List.getElem?_eq_some_iff.1 hy).1]at h;exact h.symm
theorem FrW.of(h:FrW w f qk fr){C C':List Value}(h0:Cells 125 w f C)(h1:Cells 125 w' f C'){j:Nat}{y x:Option Fr}(hy:fr[j]? =some y){q:Nat × Nat}(hl:C'.length=C.length)
 (ho:∀i,i≠j*4->i≠j*4+1->i≠j*4+2->i≠j*4+3->C'[i]? =C[i]?) (hj:C'[j*4]? =some (f0 x)/\C'[j*4+1]? =some (f1 q x)/\C'[j*4+2]? =some (f2 x)/\C'[j*4+3]? =some (f3 x)):
 FrW w' f (fun i=>if i=j then q else qk i) (fr.set j x):=by
 obtain⟨C0,g1,g2,g3⟩:=h;obtain rfl:=qy g1 h0;refine⟨C',h1,by rw[hl,g2,List.length_set],fun i z hz=>?_⟩;by_cases e:i=j
 . subst e
   obtain rfl:=set_self hy hz;simp only[if_true];exact hj
 . simp only[if_neg e]
   rw[getElem?_set,if_neg (fun e'=>e e'.symm)]at hz;obtain⟨a,b,c,d⟩:=g3 i z hz;refine⟨?_,?_,?_,?_⟩
   . rw[ho _ (by omega) (by omega) (by omega) (by omega)];exact a
   . rw[ho _ (by omega) (by omega) (by omega) (by omega)];exact b
   . rw[ho _ (by omega) (by omega) (by omega) (by omega)];exact c
   . rw[ho _ (by omega) (by omega) (by omega) (by omega)];exact d
theorem FrW.same(h:FrW w f qk fr){qk':Nat->Nat × Nat}(hq:∀i,qk' i=qk i):FrW w f qk' fr:=by obtain rfl:qk'=qk:=funext hq;exact h
theorem FrW.put(h:FrW w f qk fr){j:Nat}{y:Option Fr}(hy:fr[j]? =some y)(q:Nat × Nat)(x:Option Fr):
 FrW ((((w.setCell ⟨f,j*4,none⟩ (f0 x)).setCell ⟨f,j*4+1,none⟩ (f1 q x)).setCell ⟨f,j*4+2,none⟩ (f2 x)).setCell ⟨f,j*4+3,none⟩ (f3 x)) f (fun i=>if i=j then q else qk i) (fr.set j x):=by
 have h':=h;obtain⟨C,h1,h2,h3⟩:=h';have hjl:=aR hy;have hjC:j*4+3<C.length:=by omega
 refine h.of h1 (iZ (iZ (iZ (iZ h1 _ _) _ _) _ _) _ _) hy (by simp) (fun i a b c d=>?_) ⟨?_,?_,?_,?_⟩
 . simp only[getElem?_set]
   rw[if_neg (Ne.symm d),if_neg (Ne.symm c),if_neg (Ne.symm b),if_neg (Ne.symm a)]
 all_goals simp only[getElem?_set,List.length_set]
 . rw[if_neg (by omega),if_neg (by omega),if_neg (by omega),if_pos trivial,if_pos (by omega)]
 . rw[if_neg (by omega),if_neg (by omega),if_pos trivial,if_pos (by omega)]
 . rw[if_neg (by omega),if_pos trivial,if_pos (by omega)]
 . rw[if_pos trivial,if_pos (by omega)]
theorem FrW.dirty(h:FrW w f qk fr){j b p:Nat}{x:List UInt8}{d:Bool}(hy:fr[j]? =some (some (b,x,d,p)))(d':Bool):FrW (w.setCell ⟨f,j*4+2,none⟩ (.bool d')) f qk (fr.set j (some (b,x,d',p))):=by
 have h':=h;obtain⟨C,h1,h2,h3⟩:=h';have hjl:=aR hy;obtain⟨a0,a1,a2,a3⟩:=h3 j _ hy;refine(h.of (q:=qk j) h1 (iZ h1 _ _) hy (by simp) (fun i a b c d=>?_) ⟨?_,?_,?_,?_⟩).same (fun i=>by split<;>simp_all)
 all_goals rw[getElem?_set]
 . rw[if_neg (Ne.symm c)]
 . rw[if_neg (by omega)];exact a0
 . rw[if_neg (by omega)];exact a1
 . rw[if_pos rfl,if_pos (by omega)];rfl
 . rw[if_neg (by omega)];exact a3
theorem FrW.pin(h:FrW w f qk fr){j b p:Nat}{x:List UInt8}{d:Bool}(hy:fr[j]? =some (some (b,x,d,p)))(p':Nat):FrW (w.setCell ⟨f,j*4+3,none⟩ (p':Int)) f qk (fr.set j (some (b,x,d,p'))):=by
 have h':=h;obtain⟨C,h1,h2,h3⟩:=h';have hjl:=aR hy;obtain⟨a0,a1,a2,a3⟩:=h3 j _ hy;refine(h.of (q:=qk j) h1 (iZ h1 _ _) hy (by simp) (fun i a b c d=>?_) ⟨?_,?_,?_,?_⟩).same (fun i=>by split<;>simp_all)
 all_goals rw[getElem?_set]
 . rw[if_neg (Ne.symm d)]
 . rw[if_neg (by omega)];exact a0
 . rw[if_neg (by omega)];exact a1
 . rw[if_neg (by omega)];exact a2
 . rw[if_pos rfl,if_pos (by omega)];rfl
theorem FrW.bytes(h:FrW w f qk fr){j b p:Nat}{x y:List UInt8}{d:Bool}(hy:fr[j]? =some (some (b,x,d,p)))(hl:y.length=x.length):FrW w f qk (fr.set j (some (b,y,d,p))):=by have h':=h;obtain⟨C,h1,h2,h3⟩:=h';obtain⟨a0,a1,a2,a3⟩:=h3 j _ hy;refine(h.of (q:=qk j) (x:=some (b,y,d,p)) h1 h1 hy rfl (fun _ _ _ _ _=>rfl) ⟨a0,?_,a2,a3⟩).same (fun i=>by split<;>simp_all);rw[a1];simp[f1,hl]
end
structure CwW(w:World)(S:List Nat)(p f mp ch cb g:Nat)(qk:Nat->Nat × Nat)(st:St)(W:Nat->Option Nat)(k:Nat):Prop where
 hd:w.heap[p]? =some (.cells #[g,.slice (some f) st.fr.length st.fr.length,.map (some mp),ch] 123 (0,0))
 fw:FrW w f qk st.fr
 by_:∀(j:Nat) (x:Fr),st.fr[j]? =some (some x)->Row 5 w (qk j).1 x.2.1
 mc:MC w mp W k
 cn:Chn w ch cb st.fr.length st.row
 dv:Dev w S g st.m st.ls st.r st.s
 nd:[p,f,mp,ch,cb].Nodup
 out:∀x,x∈[p,f,mp,ch,cb]->x∉S
 q1:∀(j:Nat) (x:Fr),st.fr[j]? =some (some x)->(qk j).1∉S/\(qk j).1∉[p,f,mp,ch,cb]
 q2:∀(i j:Nat) (x y:Fr),st.fr[i]? =some (some x)->st.fr[j]? =some (some y)->i≠j->(qk i).1≠(qk j).1
section
variable{w w':World}{S:List Nat}{p f mp ch cb g k:Nat}{qk:Nat->Nat × Nat}{st:St}{W:Nat->Option Nat}
theorem CwW.plt(h:CwW w S p f mp ch cb g qk st W k):p<w.heap.size:=(Array.getElem?_eq_some_iff.1 h.hd).1
theorem CwW.lt(h:CwW w S p f mp ch cb g qk st W k):∀x,x∈[p,f,mp,ch,cb]->x<w.heap.size:=by
 intro x hx;simp only[mem_cons,not_mem_nil,or_false]at hx;rcases hx with rfl|rfl|rfl|rfl|rfl
 . exact h.plt
 . exact h.fw.lt
 . exact h.mc.lt
 . exact h.cn.lt.1
 . exact h.cn.lt.2.1
theorem CwW.nes(h:CwW w S p f mp ch cb g qk st W k):p≠f/\p≠mp/\p≠ch/\p≠cb/\f≠mp/\f≠ch/\f≠cb/\mp≠ch/\mp≠cb/\ch≠cb:=by have:=h.nd;simp only[List.nodup_cons,mem_cons,not_mem_nil,or_false,not_or,List.nodup_nil,and_true,not_false_eq_true]at this;obtain⟨⟨a,b,c,d⟩,⟨e,f',g'⟩,⟨i,j⟩,k'⟩:=this;exact⟨a,b,c,d,e,f',g',i,j,k'⟩
theorem CwW.cells(h:CwW w S p f mp ch cb g qk st W k):w.cell? ⟨p,0,none⟩=some (.pointer (some ⟨g,0,none⟩))/\w.cell? ⟨p,1,none⟩=some (.slice (some f) st.fr.length st.fr.length)/\w.cell? ⟨p,2,none⟩=some (.map (some mp))/\w.cell? ⟨p,3,none⟩=some (.pointer (some ⟨ch,0,none⟩)):=by have:=h.hd;simp[World.cell?,this]
theorem CwW.kept(h:CwW w S p f mp ch cb g qk st W k)(hb:Bw w w'):CwW w' S p f mp ch cb g qk st W k:=
 ⟨(hb.block p h.plt).trans h.hd,h.fw.keep (hb.block f h.fw.lt),fun j x hx=>(h.by_ j x hx).kept hb,h.mc.keep (hb.block mp h.mc.lt),h.cn.kept hb,h.dv.kept hb,h.nd,h.out,h.q1,h.q2⟩
theorem mW{U:TypeId}{T:List Nat}{q:Nat}{l:List UInt8}(h:Row U w q l)(hi:Flow.Into T w w')(hn:q∉T):Row U w' q l:=(hi.block q h.lt hn).trans h
theorem CwW.toRow(h:CwW w S p f mp ch cb g qk st W k){row':List Nat}(hi:Flow.Into [ch,cb] w w')(hc:Chn w' ch cb st.fr.length row'):CwW w' S p f mp ch cb g qk { st with row:=row' } W k:=by obtain⟨n1,n2,n3,n4,n5,n6,n7,n8,n9,n10⟩:=h.nes;refine⟨(hi.block p h.plt (by simp[n3,n4])).trans h.hd,h.fw.keep (hi.block f h.fw.lt (by simp[n6,n7])),fun j x hx=>mW (h.by_ j x hx) hi fun hm=>(h.q1 j x hx).2 ?_,h.mc.keep (hi.block mp h.mc.lt (by simp[n8,n9])),hc,h.dv.into hi fun y hy hm=>h.out y ?_ hy,h.nd,h.out,h.q1,h.q2⟩;(. simp only[mem_cons,not_mem_nil,or_false]at hm ⊢;omega);. simp only[mem_cons,not_mem_nil,or_false]at hm ⊢;omega
theorem CwW.N8(h:CwW w S p f mp ch cb g qk st W k){W':Nat->Option Nat}{k':Nat}(hi:Flow.Into [mp] w w')(hc:MC w' mp W' k'):CwW w' S p f mp ch cb g qk st W' k':=by obtain⟨n1,n2,n3,n4,n5,n6,n7,n8,n9,n10⟩:=h.nes;refine⟨(hi.block p h.plt (by simp[n2])).trans h.hd,h.fw.keep (hi.block f h.fw.lt (by simp[n5])),fun j x hx=>mW (h.by_ j x hx) hi fun hm=>(h.q1 j x hx).2 ?_,hc,h.cn.into hi (by simp;omega) (by simp;omega),h.dv.into hi fun y hy hm=>h.out y ?_ hy,h.nd,h.out,h.q1,h.q2⟩;(. simp only[mem_cons,not_mem_nil,or_false]at hm ⊢;omega);. simp only[mem_cons,not_mem_nil,or_false]at hm ⊢;omega
theorem CwW.toDev(h:CwW w S p f mp ch cb g qk st W k){S':List Nat}{ls':List (List UInt8)}{r' s':Nat}(hi:Flow.Into S w w')(hd:Dev w' S' g st.m ls' r' s')(hg:zC w S S'):CwW w' S' p f mp ch cb g qk { st with ls:=ls',r:=r',s:=s' } W k:=by (have hS:∀x,x<w.heap.size->x∉S->x∉S':=fun x hx hn hm=>by rcases hg x hm with h'|h';(. exact hn h');. omega);have hin:∀{x:Nat},x∈[p,f,mp,ch,cb]->w'.heap[x]? =w.heap[x]? :=fun{x} hx=>hi.block x (h.lt x hx) (h.out x hx);refine⟨(hin (by simp)).trans h.hd,h.fw.keep (hin (by simp)),fun j x hx=>mW (h.by_ j x hx) hi (h.q1 j x hx).1,h.mc.keep (hin (by simp)),h.cn.into hi (h.out ch (by simp)) (h.out cb (by simp)),hd,h.nd,fun x hx=>hS x (h.lt x hx) (h.out x hx),fun j x hx=>⟨hS _ (h.by_ j x hx).lt (h.q1 j x hx).1,(h.q1 j x hx).2⟩,h.q2⟩
theorem CwW.toFr(h:CwW w S p f mp ch cb g qk st W k){qk':Nat->Nat × Nat}{fr':List (Option Fr)}(hi:Flow.Into [f] w w')(hf:FrW w' f qk' fr')(hl:fr'.length=st.fr.length)
 (hq:∀(j:Nat) (x:Fr),fr'[j]? =some (some x)->Row 5 w (qk' j).1 x.2.1/\(qk' j).1∉S/\(qk' j).1∉[p,f,mp,ch,cb])
 (hn:∀(i j:Nat) (x y:Fr),fr'[i]? =some (some x)->fr'[j]? =some (some y)->i≠j->(qk' i).1≠(qk' j).1):CwW w' S p f mp ch cb g qk' { st with fr:=fr' } W k:=by
 obtain⟨n1,n2,n3,n4,n5,n6,n7,n8,n9,n10⟩:=h.nes;refine⟨?_,hf,fun j x hx=>mW (hq j x hx).1 hi fun hm=>(hq j x hx).2.2 ?_,h.mc.keep (hi.block mp h.mc.lt (by simp;omega)),?_,h.dv.into hi fun y hy hm=>h.out y ?_ hy,h.nd,h.out,fun j x hx=>(hq j x hx).2,hn⟩
 . rw[hi.block p h.plt (by simp;omega)]
   show w.heap[p]? =some (.cells #[_,.slice _ fr'.length fr'.length,_,_] _ _);rw[hl];exact h.hd
 . simp only[mem_cons,not_mem_nil,or_false]at hm ⊢;omega
 . show Chn w' ch cb fr'.length st.row
   rw[hl];exact h.cn.into hi (by simp;omega) (by simp;omega)
 . simp only[mem_cons,not_mem_nil,or_false]at hm ⊢;omega
theorem CwW.QT{x:Fr}{j:Nat}(h:(st.fr.set j none)[j]? =some (some x)):False:=by rw[getElem?_set]at h;simp at h
theorem CwW.N9(h:CwW w S p f mp ch cb g qk st W k){j:Nat}{q:Nat × Nat}(hi:Flow.Into [f] w w')(hf:FrW w' f (fun i=>if i=j then q else qk i) (st.fr.set j none)):CwW w' S p f mp ch cb g (fun i=>if i=j then q else qk i) { st with fr:=st.fr.set j none } W k:=by (have hs:∀(i:Nat) (x:Fr),(st.fr.set j none)[i]? =some (some x)->i≠j/\st.fr[i]? =some (some x):=fun i x hx=>by by_cases e:i=j;(. subst e;exact(CwW.QT hx).elim);. rw[getElem?_set,if_neg (fun e'=>e e'.symm)]at hx;exact⟨e,hx⟩);refine h.toFr hi hf (by simp) (fun i x hx=>?_) (fun i i' x y hx hy hne=>?_);(. obtain⟨e,hx⟩:=hs i x hx;simp only[if_neg e];exact⟨h.by_ i x hx,h.q1 i x hx⟩);. obtain⟨e,hx⟩:=hs i x hx;obtain⟨e',hy⟩:=hs i' y hy;simp only[if_neg e,if_neg e'];exact h.q2 i i' x y hx hy hne
theorem CwW.wF(h:CwW w S p f mp ch cb g qk st W k){j b n n':Nat}{d d':Bool}{x:List UInt8}(hx:st.fr[j]? =some (some (b,x,d,n)))(hi:Flow.Into [f] w w')(hf:FrW w' f qk (st.fr.set j (some (b,x,d',n')))):CwW w' S p f mp ch cb g qk { st with fr:=st.fr.set j (some (b,x,d',n')) } W k:=by (have hs:∀(i:Nat) (y:Fr),(st.fr.set j (some (b,x,d',n')))[i]? =some (some y)->∃z:Fr,st.fr[i]? =some (some z)/\z.2.1=y.2.1:=fun i y hy=>by by_cases e:i=j;(. subst e;have:=set_self hx hy;obtain rfl:=Option.some.inj this;exact⟨_,hx,rfl⟩);. rw[getElem?_set,if_neg (fun e'=>e e'.symm)]at hy;exact⟨y,hy,rfl⟩);refine h.toFr hi hf (by simp) (fun i y hy=>?_) (fun i i' y z hy hz hne=>?_);(. obtain⟨z,hz,e⟩:=hs i y hy;rw[<-e];exact⟨h.by_ i z hz,h.q1 i z hz⟩);. obtain⟨y',hy',_⟩:=hs i y hy;obtain⟨z',hz',_⟩:=hs i' z hz;exact h.q2 i i' y' z' hy' hz' hne
theorem CwW.N7(h:CwW w S p f mp ch cb g qk st W k){j:Nat}{y:Option Fr}{q:Nat × Nat}{x:Fr}(hy:st.fr[j]? =some y)(hr:Row 5 w q.1 x.2.1)(hS:q.1∉S)(hF:q.1∉[p,f,mp,ch,cb])(ho:∀(i:Nat) (z:Fr),st.fr[i]? =some (some z)->i≠j->(qk i).1≠q.1)(hi:Flow.Into [f] w w')(hf:FrW w' f (fun i=>if i=j then q else qk i) (st.fr.set j (some x))):
 CwW w' S p f mp ch cb g (fun i=>if i=j then q else qk i) { st with fr:=st.fr.set j (some x) } W k:=by
 have hs:∀(i:Nat) (z:Fr),(st.fr.set j (some x))[i]? =some (some z)->(i=j/\z=x)\/(i≠j/\st.fr[i]? =some (some z)):=fun i z hz=>by
  by_cases e:i=j
  . subst e
    exact .inl ⟨rfl,Option.some.inj (set_self hy hz)⟩
  . rw[getElem?_set,if_neg (fun e'=>e e'.symm)]at hz
    exact .inr ⟨e,hz⟩
 refine h.toFr hi hf (by simp) (fun i z hz=>?_) (fun i i' z z' hz hz' hne=>?_)
 . rcases hs i z hz with⟨rfl,rfl⟩|⟨e,hz⟩
   . simp only[if_true]
     exact⟨hr,hS,hF⟩
   . simp only[if_neg e]
     exact⟨h.by_ i z hz,h.q1 i z hz⟩
 . rcases hs i z hz with⟨e1,-⟩|⟨e,hz1⟩<;>rcases hs i' z' hz' with⟨e2,-⟩|⟨e',hz2⟩
   . omega
   . simp only[if_pos e1,if_neg e']
     exact(ho i' z' hz2 e').symm
   . simp only[if_pos e2,if_neg e]
     exact ho i z hz1 e
   . simp only[if_neg e,if_neg e']
     exact h.q2 i i' z z' hz1 hz2 hne
theorem CwW.Ms(h:CwW w S p f mp ch cb g qk st W k){j b n:Nat}{d:Bool}{x y:List UInt8}(hx:st.fr[j]? =some (some (b,x,d,n)))(hl:y.length=x.length)(hi:Flow.Into [(qk j).1] w w')(hr:Row 5 w' (qk j).1 y):CwW w' S p f mp ch cb g qk { st with fr:=st.fr.set j (some (b,y,d,n)) } W k:=by
 obtain⟨hq1,hq2⟩:=h.q1 j _ hx;have hin:∀{z:Nat},z∈[p,f,mp,ch,cb]->w'.heap[z]? =w.heap[z]? :=fun{z} hz=>hi.block z (h.lt z hz) (by simp;rintro rfl;exact hq2 hz)
 have hs:∀(i:Nat) (z:Fr),(st.fr.set j (some (b,y,d,n)))[i]? =some (some z)->(i=j/\z=(b,y,d,n))\/(i≠j/\st.fr[i]? =some (some z)):=fun i z hz=>by
  by_cases e:i=j
  . subst e
    exact .inl ⟨rfl,Option.some.inj (set_self hx hz)⟩
  . rw[getElem?_set,if_neg (fun e'=>e e'.symm)]at hz
    exact .inr ⟨e,hz⟩
 have hs':∀(i:Nat) (z:Fr),(st.fr.set j (some (b,y,d,n)))[i]? =some (some z)->∃z':Fr,st.fr[i]? =some (some z'):=fun i z hz=>by
  rcases hs i z hz with⟨rfl,_⟩|⟨_,hz⟩
  . exact⟨_,hx⟩
  . exact⟨_,hz⟩
 refine⟨?_,(h.fw.keep (hin (by simp))).bytes hx hl,fun i z hz=>?_,h.mc.keep (hin (by simp)),?_,h.dv.into hi fun z hz hm=>?_,h.nd,h.out,fun i z hz=>?_,fun i i' z z' hz hz' hne=>?_⟩
 . rw[hin (by simp)]
   simpa using h.hd
 . rcases hs i z hz with⟨rfl,rfl⟩|⟨e,hz⟩
   . exact hr
   . exact mW (h.by_ i z hz) hi (by simpa using h.q2 i j z _ hz hx e)
 . have:=h.cn.into hi (fun hm=>hq2 (by obtain rfl:ch=(qk j).1:=by simpa using hm
                                       simp)) (fun hm=>hq2 (by obtain rfl:cb=(qk j).1:=by simpa using hm
                                                               simp))
   simpa using this
 . obtain rfl:z=(qk j).1:=by simpa using hm
   exact hq1 hz
 . obtain⟨z',hz'⟩:=hs' i z hz
   exact h.q1 i z' hz'
 . obtain⟨y1,hy1⟩:=hs' i z hz
   obtain⟨y2,hy2⟩:=hs' i' z' hz';exact h.q2 i i' y1 y2 hy1 hy2 hne
end
end Ca
end Go.Proofs.YtmcbidhpkpmalaaGreatDoor
