import Derived.Test.YtjpjjnalpdpljaaGreatDoorPqCachePin
import Derived.Test.YtjpjjnalpdpljaaGreatDoorPkAA
set_option maxRecDepth 100000
namespace Go.Proofs.YtjpjjnalpdpljaaGreatDoor
open Go.RowKit
namespace Ca
open Mem Dv Cn
def Cw (w:World) (F:List Nat) (p g:Nat) (st:St):Prop:=
 ∃S f mp ch cb qk,CwW w S p f mp ch cb g qk st (ix st.fr) (occ st.fr)/\(∀x,x∈S->x∈F)/\(∀x,x∈[p,f,mp,ch,cb]->x∈F)/\(∀(j:Nat) (x:Fr),st.fr[j]? =some (some x)->(qk j).1∈F)/\Good st/\∀x,x∈F->x<w.heap.size
def Aft (w w':World) (F:List Nat) (p g:Nat) (st:St):Prop:=(∃F',Cw w' F' p g st/\Grew w F F')/\Flow.Into F w w'
section
variable {w w' w1 w2:World} {F:List Nat} {p g:Nat} {st st1 st2:St}
theorem Cw.good (h:Cw w F p g st):Good st:=by obtain ⟨_,_,_,_,_,_,_,_,_,_,h,_⟩:=h;exact h
theorem Cw.lt (h:Cw w F p g st):∀x,x∈F->x<w.heap.size:=by obtain ⟨_,_,_,_,_,_,_,_,_,_,_,h⟩:=h;exact h
theorem Cw.kept (h:Cw w F p g st) (hb:Below w.heap.size w w'):Cw w' F p g st:=by
 obtain ⟨S,f,mp,ch,cb,qk,h1,h2,h3,h4,h5,h6⟩:=h
 exact ⟨S,f,mp,ch,cb,qk,h1.kept hb,h2,h3,h4,h5,fun x hx=>Nat.lt_of_lt_of_le (h6 x hx) hb.size⟩
theorem grew_refl (w:World) (F:List Nat):Grew w F F:=fun _ h=> .inl h
theorem Aft.same (h:Cw w F p g st) (hb:Below w.heap.size w w'):Aft w w' F p g st:=⟨⟨F,h.kept hb,grew_refl w F⟩,Flow.Into.of_below hb⟩
theorem Aft.next (h:Aft w w1 F p g st1) (k:∀F1,Cw w1 F1 p g st1->Aft w1 w2 F1 p g st2):Aft w w2 F p g st2:=by
 obtain ⟨⟨F1,h1,h2⟩,h3⟩:=h
 obtain ⟨⟨F2,k1,k2⟩,k3⟩:=k F1 h1
 refine ⟨⟨F2,k1,fun x hx=>?_⟩,into_more h3 k3 h2⟩
 rcases k2 x hx with h'|h'
 . exact h2 x h'
 . exact .inr (Nat.le_trans h3.size h')
theorem Aft.behind (hb:Below w.heap.size w w1) (h:Aft w1 w2 F p g st):Aft w w2 F p g st:=by
 obtain ⟨⟨F1,h1,h2⟩,h3⟩:=h
 refine ⟨⟨F1,h1,fun x hx=>?_⟩,(Flow.Into.of_below hb).trans h3⟩
 rcases h2 x hx with h'|h'
 . exact .inl h'
 . exact .inr (Nat.le_trans hb.size h')
theorem Cclean (h:Cw w F p g st) {j:Nat} {f:Fr} (hf:st.fr[j]? =some (some f)) (hs:st.s<=1000000):Calls Tryz.prog 96 #[.pointer (some ⟨p,0,none⟩), .int .i64 (j:Int)] w fun e w'=>e= .returned (.tuple #[])/\Aft w w' F p g (cleanT st j):=by
 have h':=h
 obtain ⟨S,fb,mp,ch,cb,qk,h1,h2,h3,h4,h5,h6⟩:=h'
 obtain ⟨b,x,d,n⟩:=f
 obtain ⟨hb,hl⟩:=h5.blk _ _ hf
 cases d with
 |false=>
  refine (clean_no h1 hf).mono fun e w' ⟨he,hw⟩=>⟨he,?_⟩
  subst hw
  have e1:cleanT st j=st:=by unfold cleanT;rw [hf]
  rw [e1]
  exact Aft.same h (Below.refl _ _)
 |true=>
  refine (clean_yes h1 hf hb hl hs).mono fun e w' ⟨he,⟨S',hc,hg⟩,hi⟩=>⟨he,⟨⟨S'++F,?_,fun y hy=>?_⟩,hi.mono fun y hy=>?_⟩⟩
  . have e1:cleanT st j={ st with ls:=st.ls.set b x,s:=st.s+1,fr:=st.fr.set j (some (b,x,false,n)) }:=by unfold cleanT;rw [hf]
    have hgd:=h5.clean j
    rw [e1] at hgd ⊢
    have hix:ix (st.fr.set j (some (b,x,false,n)))=ix st.fr:=by
     funext y
     refine (ix_set (f:=(b,x,false,n)) h5.uq (lt_of_get hf) (fun i u hi e=>h5.uq i j u _ hi hf e) (fun u hu=>by rw [hf] at hu;cases hu;rfl) y).trans ?_
     by_cases e:y=b
     . subst e
       have:=ix_at h5.uq hf
       rw [if_pos rfl];exact this.symm
     . rw [if_neg e]
    have hoc:occ (st.fr.set j (some (b,x,false,n)))=occ st.fr:=by
     have:=occ_set (y:=some (b,x,false,n)) hf
     simpa using this
    refine ⟨S',fb,mp,ch,cb,qk,?_,fun y hy=>List.mem_append_left _ hy,fun y hy=>List.mem_append_right _ (h3 y hy),fun i u hi=>?_,hgd,fun y hy=>?_⟩
    . show CwW w' S' p fb mp ch cb g qk _ (ix (st.fr.set j (some (b,x,false,n)))) (occ (st.fr.set j (some (b,x,false,n))))
      rw [hix,hoc]
      exact hc
    . by_cases e:i=j
      . subst e;exact List.mem_append_right _ (h4 i _ hf)
      . have:(st.fr.set j (some (b,x,false,n)))[i]? =st.fr[i]? :=set_ne e
        rw [this] at hi
        exact List.mem_append_right _ (h4 i u hi)
    . rcases List.mem_append.1 hy with hy|hy
      . exact hc.dv.lt y hy
      . exact Nat.lt_of_lt_of_le (h6 y hy) hi.size
  . rcases List.mem_append.1 hy with hy|hy
    . rcases hg y hy with h'|h'
      . exact .inl (h2 y h')
      . exact .inr h'
    . exact .inl hy
  . rcases List.mem_cons.1 hy with rfl|hy
    . exact h3 _ (by simp)
    . exact h2 y hy
theorem Cempty (h:Cw w F p g st) {j:Nat} {f:Fr} (hf:st.fr[j]? =some (some f)):Calls Tryz.prog 117 #[.pointer (some ⟨p,0,none⟩), .int .i64 (j:Int)] w fun e w'=>e= .returned (.tuple #[])/\Aft w w' F p g (emptyT st j):=by
 obtain ⟨S,fb,mp,ch,cb,qk,h1,h2,h3,h4,h5,h6⟩:=h
 obtain ⟨b,x,d,n⟩:=f
 obtain ⟨hb,hl⟩:=h5.blk _ _ hf
 have hb2:b<4294967296:=by have:=h5.l32;simp only at hb;omega
 refine (empty_any h1 hf (ix_at h5.uq hf) hb2).mono fun e w' ⟨he,hc,hi⟩=>⟨he,⟨⟨F,?_,grew_refl w F⟩,hi.mono fun y hy=>h3 y (List.mem_cons_of_mem _ hy)⟩⟩
 have hix:ix (st.fr.set j none)=fun z=>if z=b then none else ix st.fr z:=by
  funext y
  exact ix_unset h5.uq hf y
 have hoc:occ (st.fr.set j none)=occ st.fr-1:=by
  have:=occ_set (y:=none) hf
  simp at this
  omega
 refine ⟨S,fb,mp,ch,cb,qk,?_,h2,h3,fun i u hi'=>?_,h5.empty hf,fun y hy=>Nat.lt_of_lt_of_le (h6 y hy) hi.size⟩
 . show CwW w' S p fb mp ch cb g qk _ (ix (st.fr.set j none)) (occ (st.fr.set j none))
   rw [hix,hoc]
   exact hc
 . have hi2:(st.fr.set j none)[i]? =some (some u):=hi'
   by_cases e:i=j
   . subst e;rw [set_eq hf] at hi2;cases hi2
   . rw [set_ne e] at hi2
     exact h4 i u hi2
theorem Cfill (h:Cw w F p g st) {j b n q c:Nat} {y:Option Fr} {x:List UInt8} {d:Bool} (hy:st.fr[j]? =some y) (hr:Row 5 w q x) (hq:q∉F) (h1':b<st.ls.length) (h2':x.length=st.m) (h3':0<n) (hc':d=false->st.ls[b]? =some x)
 (ho:∀(i:Nat) (u:Fr),st.fr[i]? =some (some u)->u.1=b->i=j) (hn:∀u:Fr,y=some u->u.1=b):
 Calls Tryz.prog 85 #[.pointer (some ⟨p,0,none⟩), .int .i64 (j:Int), .agg #[.int .u32 (b:Int), .slice (some ⟨q,0,none⟩) x.length c, .bool d, .int .i64 (n:Int)]] w fun e w'=>e= .returned (.tuple #[])/\
  (∃F',Cw w' F' p g (fillT st j (b,x,d,n))/\∀z,z∈F'->z∈F\/z=q)/\Flow.Into F w w':=by
 obtain ⟨S,fb,mp,ch,cb,qk,h1,h2,h3,h4,h5,h6⟩:=h
 have hb2:b<4294967296:=by have:=h5.l32;omega
 have hk:occ st.fr<=65536:=by have:=occ_le st.fr;have:=h5.n2;omega
 have hgd:Good (fillT st j (b,x,d,n)):=h5.fill hy h1' h2' h3' hc' ho
 have hix:ix (st.fr.set j (some (b,x,d,n)))=fun z=>if z=b then some j else ix st.fr z:=by
  funext z
  exact ix_set h5.uq (lt_of_get hy) ho (fun u hu=>by rw [hy] at hu;exact hn u (by simpa using hu)) z
 have hoc:(if (ix st.fr b).isSome then occ st.fr else occ st.fr+1)=occ (st.fr.set j (some (b,x,d,n))):=by
  have e1:=occ_set (y:=some (b,x,d,n)) hy
  cases y with
  |none=>
   have:ix st.fr b=none:=ix_none_of fun i u hi e=>by
    obtain rfl:=ho i u hi e
    rw [hy] at hi;cases hi
   rw [this]
   simp at e1 ⊢
   omega
  |some u=>
   have e2:=hn u rfl
   have:ix st.fr b=some j:=e2▸ix_at h5.uq hy
   rw [this]
   simp at e1 ⊢
   omega
 refine (fill_any (q:=(q,c)) h1 hy hr (fun hh=>hq (h2 _ hh)) (fun hh=>hq (h3 _ hh)) (fun i u hi _=>?_) hb2 hk hoc).mono fun e w' ⟨he,hc,hi⟩=>⟨he,⟨q::F,?_,fun z hz=>?_⟩,hi.mono fun y hy=>h3 y (List.mem_cons_of_mem _ hy)⟩
 . rintro rfl;exact hq (h4 i u hi)
 . refine ⟨S,fb,mp,ch,cb,fun i=>if i=j then (q,c) else qk i,?_,fun z hz=>List.mem_cons_of_mem _ (h2 z hz),fun z hz=>List.mem_cons_of_mem _ (h3 z hz),fun i u hi'=>?_,hgd,fun z hz=>?_⟩
   . show CwW w' S p fb mp ch cb g _ _ (ix (st.fr.set j (some (b,x,d,n)))) (occ (st.fr.set j (some (b,x,d,n))))
     rw [hix]
     exact hc
   . have hi2:(st.fr.set j (some (b,x,d,n)))[i]? =some (some u):=hi'
     by_cases e:i=j
     . simp [e]
     . rw [set_ne e] at hi2
       simp only [if_neg e]
       exact List.mem_cons_of_mem _ (h4 i u hi2)
   . rcases List.mem_cons.1 hz with rfl|hz
     . exact Nat.lt_of_lt_of_le hr.lt hi.size
     . exact Nat.lt_of_lt_of_le (h6 z hz) hi.size
 . rcases List.mem_cons.1 hz with rfl|hz
   . exact .inr rfl
   . exact .inl hz
theorem lst_last {a:Nat}:∀{l:List Nat} (x:Nat),l.getLast? =some a->lst x l=a
 |[],_,h=>by cases h
 |[y],_,h=>by simpa [lst] using h
 |y::z::r,_,h=>by
  have:=lst_last (l:=z::r) y (by simpa using h)
  simpa [lst] using this
theorem room_none (h:Cw w F p g st) (hr:st.row.getLast? =none):Calls Tryz.prog 84 #[.pointer (some ⟨p,0,none⟩)] w fun e w'=>e= .returned (.tuple #[.int .i64 0, .int .i64 7])/\Aft w w' F p g st:=by
 have H:=Lib.hid h
 obtain ⟨S,fb,mp,ch,cb,qk,h1,h2,h3,h4,h5,h6⟩:=h
 have cL:=Lib.hid (CLast h1.cn)
 obtain ⟨-,-,-,c3⟩:=h1.cells
 have e0:st.row=[]:=by simpa using hr
 rw [e0] at cL
 simp only [lst,List.length_nil,Nat.lt_irrefl,decide_false] at cL
 clear h1 h2 h3 h4 h5 h6 hr e0
 go_enter Tryz.func84,Tryz.ntmps84
 go_wp2_with (go_at_call 124;refine cL.out.mono ?_;rintro e w1 ⟨rfl,hb⟩;have HB:=Lib.hid hb;clear hb)
 exact bodyPost_ret (v:= .tuple #[.int .i64 0, .int .i64 7]) (by simp [results,Tryz.results84,go_sem]) rfl ⟨rfl,Aft.same H.out HB.out⟩
theorem last_facts {a:Nat} {l:List Nat} (hr:l.getLast? =some a):((lst 0 l:Nat):Int)=(a:Int)/\decide (0<l.length)=true:=by
 refine ⟨by rw [lst_last 0 hr],?_⟩
 cases l with
 |nil=>cases hr
 |cons x r=>simp
theorem room_free (h:Cw w F p g st) {a:Nat} (hr:st.row.getLast? =some a) (hf:st.fr[a]? =some none):Calls Tryz.prog 84 #[.pointer (some ⟨p,0,none⟩)] w fun e w'=>e= .returned (.tuple #[.int .i64 (a:Int), .int .i64 0])/\Aft w w' F p g st:=by
 have H:=Lib.hid h
 obtain ⟨S,fb,mp,ch,cb,qk,h1,h2,h3,h4,h5,h6⟩:=h
 have cL:=Lib.hid (CLast h1.cn)
 obtain ⟨-,-,-,c3⟩:=h1.cells
 obtain ⟨e1,e2⟩:=last_facts hr
 rw [e1,e2] at cL
 have HF:=Lib.hid hf
 have hj:=lt_of_get hf
 have H1:=Lib.hid h1
 have cE:=fun w=>Lib.hid (isEmpty_any (.int .u32 0) (.bool false) (.int .i64 0) none 0 0 w)
 obtain ⟨N,hN⟩:∃N,N=st.fr.length:=⟨_,rfl⟩
 have HN:=Lib.hid hN
 rw [<-hN] at hj
 clear h1 h2 h3 h4 h5 h6 hr e1 e2 hf hN
 go_enter Tryz.func84,Tryz.ntmps84
 go_upto_region 4 with (go_at_call 124;refine cL.out.mono ?_;rintro e w1 ⟨rfl,hb⟩;have HB:=Lib.hid hb;clear hb)
 have h1:=H1.out.kept HB.out
 obtain ⟨-,c1,-,-⟩:=h1.cells
 rw [<-HN.out] at c1
 obtain ⟨d0,d1,d2,d3⟩:=h1.fw.cell HF.out
 simp only [f0,f1,f2,f3] at d0 d1 d2 d3
 clear h1 c3
 go_wp2_with (go_at_call 125;refine (cE _).out.mono ?_;rintro e w2 ⟨rfl,hb⟩;have HB2:=Lib.hid hb;clear hb)
 exact bodyPost_ret (v:= .tuple #[.int .i64 (a:Int), .int .i64 0]) (by simp [results,Tryz.results84,go_sem]) rfl ⟨rfl,Aft.same H.out (below_all HB.out HB2.out (Nat.le_refl _))⟩
theorem room_used (h:Cw w F p g st) {a:Nat} {f:Fr} (hr:st.row.getLast? =some a) (hf:st.fr[a]? =some (some f)) (hs:st.s<=1000000):Calls Tryz.prog 84 #[.pointer (some ⟨p,0,none⟩)] w fun e w'=>e= .returned (.tuple #[.int .i64 (a:Int), .int .i64 0])/\Aft w w' F p g (emptyT (cleanT st a) a):=by
 have H:=Lib.hid h
 obtain ⟨S,fb,mp,ch,cb,qk,h1,h2,h3,h4,h5,h6⟩:=h
 obtain ⟨b,x,d,n⟩:=f
 have cL:=Lib.hid (CLast h1.cn)
 obtain ⟨-,-,-,c3⟩:=h1.cells
 obtain ⟨e1,e2⟩:=last_facts hr
 rw [e1,e2] at cL
 have HF:=Lib.hid hf
 have hj:=lt_of_get hf
 have H1:=Lib.hid h1
 have HS:=Lib.hid hs
 have cE:=fun w=>Lib.hid (isEmpty_any (.int .u32 (b:Int)) (.bool d) (.int .i64 (n:Int)) (some ⟨(qk a).1,0,none⟩) x.length (qk a).2 w)
 simp only [Option.isNone_some] at cE
 obtain ⟨N,hN⟩:∃N,N=st.fr.length:=⟨_,rfl⟩
 have HN:=Lib.hid hN
 rw [<-hN] at hj
 clear h1 h2 h3 h4 h5 h6 hr e1 e2 hf hN hs
 go_enter Tryz.func84,Tryz.ntmps84
 go_upto_region 4 with (go_at_call 124;refine cL.out.mono ?_;rintro e w1 ⟨rfl,hb⟩;have HB:=Lib.hid hb;clear hb)
 have h1:=H1.out.kept HB.out
 obtain ⟨-,c1,-,-⟩:=h1.cells
 rw [<-HN.out] at c1
 obtain ⟨d0,d1,d2,d3⟩:=h1.fw.cell HF.out
 simp only [f0,f1,f2,f3] at d0 d1 d2 d3
 clear h1 c3
 go_upto_region 5 with (go_at_call 125;refine (cE _).out.mono ?_;rintro e w2 ⟨rfl,hb⟩;have HB2:=Lib.hid hb;clear hb)
 have hb2:=below_all HB.out HB2.out (Nat.le_refl _)
 have h2:=H.out.kept hb2
 have cC:=Lib.hid (Cclean h2 HF.out HS.out)
 have H2:=Lib.hid hb2
 clear h2 hb2 d0 d1 d2 d3 c1
 go_upto_region 6 with (go_at_call 96;refine cC.out.mono ?_;rintro e w3 ⟨rfl,ha⟩)
 have hA:=Lib.hid (Aft.behind H2.out ha)
 clear ha
 obtain ⟨⟨F3,h3,hg3⟩,hi3⟩:=hA.out
 have cX:=Lib.hid (Cempty h3 (clean_at HF.out))
 have HG3:=Lib.hid hg3
 have HI3:=Lib.hid hi3
 have H3:=Lib.hid h3
 clear h3 hg3 hi3
 go_wp2_with (go_at_call 117;refine cX.out.mono ?_;rintro e w4 ⟨rfl,ha⟩;have HA4:=Lib.hid ha;clear ha)
 refine bodyPost_ret (v:= .tuple #[.int .i64 (a:Int), .int .i64 0]) (by simp [results,Tryz.results84,go_sem]) rfl ⟨rfl,?_⟩
 obtain ⟨⟨F4,h4,hg4⟩,hi4⟩:=HA4.out
 refine ⟨⟨F4,h4,fun y hy=>?_⟩,into_more HI3.out hi4 HG3.out⟩
 rcases hg4 y hy with h'|h'
 . exact HG3.out y h'
 . exact .inr (Nat.le_trans HI3.out.size h')
def roomPost (w w':World) (F:List Nat) (p g:Nat) (st:St) (e:Ending):Prop:=match roomT st with
 |none=>e= .returned (.tuple #[.int .i64 0, .int .i64 7])/\Aft w w' F p g st
 |some (a,t)=>e= .returned (.tuple #[.int .i64 (a:Int), .int .i64 0])/\Aft w w' F p g t
theorem Croom (h:Cw w F p g st) (hs:st.s<=1000000):Calls Tryz.prog 84 #[.pointer (some ⟨p,0,none⟩)] w fun e w'=>roomPost w w' F p g st e:=by
 cases hr:st.row.getLast? with
 |none=>
  refine (room_none h hr).mono fun e w' hh=>?_
  unfold roomPost roomT
  rw [hr]
  exact hh
 |some a=>
  have hlt:=((h.good.rw a).1 (List.mem_of_getLast? hr)).1
  cases hf:st.fr[a]? with
  |none=>rw [List.getElem?_eq_none_iff] at hf;omega
  |some y=>
   cases y with
   |none=>
    refine (room_free h hr hf).mono fun e w' hh=>?_
    unfold roomPost roomT
    simp only [hr,hf]
    exact hh
   |some f=>
    refine (room_used h hr hf hs).mono fun e w' hh=>?_
    unfold roomPost roomT
    simp only [hr,hf]
    exact hh
end
end Ca
end Go.Proofs.YtjpjjnalpdpljaaGreatDoor
namespace Go.Proofs.YtjpjjnalpdpljaaGreatDoor
open Go.RowKit
namespace Ca
open Mem Dv Cn
section
variable {w w' w1 w2:World} {F F1:List Nat} {p g:Nat} {st st1 st2:St}
theorem Aft.fin (hi:Flow.Into F w w1) (hg:Grew w F F1) (k:Flow.Into F1 w1 w2) {q:Nat} (hq:w.heap.size<=q) (h:∃F',Cw w2 F' p g st/\∀z,z∈F'->z∈F1\/z=q):Aft w w2 F p g st:=by
 obtain ⟨F',h1,h2⟩:=h
 refine ⟨⟨F',h1,fun x hx=>?_⟩,into_more hi k hg⟩
 rcases h2 x hx with h'|rfl
 . exact hg x h'
 . exact .inr hq
theorem Cplace (h:Cw w F p g st) (b:Nat):Calls Tryz.prog 82 #[.pointer (some ⟨p,0,none⟩), .int .u32 (b:Int)] w fun e w'=>e= .returned (.int .i64 (if b<st.ls.length then 0 else 4))/\w=w':=by
 obtain ⟨S,fb,mp,ch,cb,qk,h1,h2,h3,h4,h5,h6⟩:=h
 by_cases hb:b<st.ls.length
 . rw [if_pos hb];exact place_in h1 hb
 . rw [if_neg hb];exact place_out h1 (by omega)
theorem CPins (h:Cw w F p g st) {b:Nat} (hb:b<4294967296):Calls Tryz.prog 116 #[.pointer (some ⟨p,0,none⟩), .int .u32 (b:Int)] w fun e w'=>e= .returned (.int .i64 (pinsP st b:Int))/\w=w':=by
 obtain ⟨S,fb,mp,ch,cb,qk,h1,h2,h3,h4,h5,h6⟩:=h
 unfold pinsP
 cases hl:look st.fr b with
 |none=>exact Pins_none h1 hb (ix_none_of (look_none hl))
 |some y=>
  obtain ⟨j,b',x,d,n⟩:=y
  obtain ⟨hf,rfl⟩:=look_some hl
  exact Pins_some h1 hb hf (ix_at h5.uq hf)
theorem CisMade (h:Cw w F p g st):Calls Tryz.prog 94 #[.pointer (some ⟨p,0,none⟩)] w fun e w'=>e= .returned (.bool true)/\w=w':=by
 obtain ⟨S,fb,mp,ch,cb,qk,h1,h2,h3,h4,h5,h6⟩:=h
 exact isMade_any h1
theorem Cread (h:Cw w F p g st) {b:Nat} {x:List UInt8} (hx:st.ls[b]? =some x) (hr:st.r<=1000000):Calls Tryz.prog 27 #[.pointer (some ⟨g,0,none⟩), .int .u32 (b:Int)] w fun e w'=>
 (∃q k,e= .returned (.tuple #[.slice (some ⟨q,0,none⟩) st.m k, .int .i64 0])/\Row 5 w' q x/\w.heap.size<=q)/\Cw w' F p g (readT st)/\Flow.Into F w w':=by
 obtain ⟨S,fb,mp,ch,cb,qk,h1,h2,h3,h4,h5,h6⟩:=h
 refine (Read_in h1.dv b x hx hr).mono fun e w' ⟨he,hd,hi⟩=>⟨he,⟨S,fb,mp,ch,cb,qk,?_,h2,h3,h4,h5.read,fun y hy=>Nat.lt_of_lt_of_le (h6 y hy) hi.size⟩,hi.mono fun y hy=>?_⟩
 . exact h1.toDev (hi.mono fun y hy=>by
    obtain rfl:y=g:=by simpa using hy
    exact h1.dv.g_in) hd fun y hy=> .inl hy
 . obtain rfl:y=g:=by simpa using hy
   exact h2 _ h1.dv.g_in
theorem seat_some (h:Cw w F p g st) {b j:Nat} {f:Fr} (hb:b<4294967296) (hl:look st.fr b=some (j,f)):Calls Tryz.prog 158 #[.pointer (some ⟨p,0,none⟩), .int .u32 (b:Int)] w fun e w'=>e= .returned (.tuple #[.int .i64 (j:Int), .int .i64 0])/\w=w':=by
 obtain ⟨S,fb,mp,ch,cb,qk,h1,h2,h3,h4,h5,h6⟩:=h
 obtain ⟨hf,rfl⟩:=look_some hl
 obtain ⟨-,-,c2,-⟩:=h1.cells
 have hq:=h1.mc.lookOk hb
 rw [ix_at h5.uq hf] at hq
 simp only [Option.getD_some,Option.isSome_some] at hq
 clear h1 h2 h3 h4 h5 h6 hf hl
 go_enter Tryz.func158,Tryz.ntmps158
 go_wp2
 exact bodyPost_ret (v:= .tuple #[.int .i64 (j:Int), .int .i64 0]) (by simp [results,Tryz.results158,go_sem]) rfl ⟨rfl,rfl⟩
theorem look_ok {S:List Nat} {f mp ch cb g' k:Nat} {qk:Nat->Nat × Nat} (h:CwW w S p f mp ch cb g' qk st (ix st.fr) k) {b:Nat} (hb:b<4294967296) (hl:look st.fr b=none):(Instr.lookup 126 (.map (some mp)) (.int .u32 (b:Int)) true).run Tryz.prog w= .ok (.tuple #[.int .i64 0, .bool false]) w:=by
 have hq:=h.mc.lookOk hb
 rw [ix_none_of (look_none hl)] at hq
 simpa using hq
theorem seat_none (h:Cw w F p g st) {b:Nat} (hb:b<4294967296) (hl:look st.fr b=none) {z y:Int} {st':St} (hR:Calls Tryz.prog 84 #[.pointer (some ⟨p,0,none⟩)] w fun e w'=>e= .returned (.tuple #[.int .i64 z, .int .i64 y])/\Aft w w' F p g st'):Calls Tryz.prog 158 #[.pointer (some ⟨p,0,none⟩), .int .u32 (b:Int)] w fun e w'=>e= .returned (.tuple #[.int .i64 z, .int .i64 y])/\Aft w w' F p g st':=by
 obtain ⟨S,fb,mp,ch,cb,qk,h1,h2,h3,h4,h5,h6⟩:=h
 obtain ⟨-,-,c2,-⟩:=h1.cells
 have hq:=look_ok h1 hb hl
 have cR:=Lib.hid hR
 clear h1 h2 h3 h4 h5 h6 hl hR
 go_enter Tryz.func158,Tryz.ntmps158
 go_wp2_with (go_at_call 84;refine cR.out.mono ?_;rintro e w' ⟨rfl,ha⟩)
 exact bodyPost_ret (v:= .tuple #[.int .i64 z, .int .i64 y]) (by simp [results,Tryz.results158,go_sem]) rfl ⟨rfl,ha⟩
theorem ix_mark {fr:List (Option Fr)} (hU:Uq fr) {j b n n':Nat} {x x':List UInt8} {d d':Bool} (hf:fr[j]? =some (some (b,x,d,n))):ix (fr.set j (some (b,x',d',n')))=ix fr:=by
 funext y
 refine (ix_set (f:=(b,x',d',n')) hU (lt_of_get hf) (fun i u hi e=>hU i j u _ hi hf e) (fun u hu=>by rw [hf] at hu;cases hu;rfl) y).trans ?_
 by_cases e:y=b
 . subst e
   have:=ix_at hU hf
   rw [if_pos rfl];exact this.symm
 . rw [if_neg e]
theorem occ_mark {fr:List (Option Fr)} {j:Nat} {f f':Fr} (hf:fr[j]? =some (some f)):occ (fr.set j (some f'))=occ fr:=by
 have:=occ_set (y:=some f') hf
 simpa using this
theorem Cw.of_mark {S:List Nat} {fb mp ch cb:Nat} {qk:Nat->Nat × Nat} {j b n n':Nat} {x x':List UInt8} {d d':Bool} {row':List Nat} (hf:st.fr[j]? =some (some (b,x,d,n))) (hU:Uq st.fr)
 (h:CwW w' S p fb mp ch cb g qk { st with fr:=st.fr.set j (some (b,x',d',n')),row:=row' } (ix st.fr) (occ st.fr)) (h2:∀x,x∈S->x∈F) (h3:∀x,x∈[p,fb,mp,ch,cb]->x∈F) (h4:∀(j:Nat) (x:Fr),st.fr[j]? =some (some x)->(qk j).1∈F)
 (hg:Good { st with fr:=st.fr.set j (some (b,x',d',n')),row:=row' }) (h6:∀x,x∈F->x<w.heap.size) (hs:w.heap.size<=w'.heap.size):Cw w' F p g { st with fr:=st.fr.set j (some (b,x',d',n')),row:=row' }:=by
 refine ⟨S,fb,mp,ch,cb,qk,?_,h2,h3,fun i u hi=>?_,hg,fun y hy=>Nat.lt_of_lt_of_le (h6 y hy) hs⟩
 . show CwW w' S p fb mp ch cb g qk _ (ix (st.fr.set j (some (b,x',d',n')))) (occ (st.fr.set j (some (b,x',d',n'))))
   rw [ix_mark hU hf,occ_mark hf]
   exact h
 . have hi2:(st.fr.set j (some (b,x',d',n')))[i]? =some (some u):=hi
   by_cases e:i=j
   . subst e;exact h4 i _ hf
   . rw [set_ne e] at hi2
     exact h4 i u hi2
theorem Pin_out (h:Cw w F p g st) {b:Nat} (hb:st.ls.length<=b):Calls Tryz.prog 47 #[.pointer (some ⟨p,0,none⟩), .int .u32 (b:Int)] w fun e w'=>e= .returned (.int .i64 4)/\w=w':=by
 have cP:=Cplace h b
 rw [if_neg (by omega)] at cP
 have cP:=Lib.hid cP
 clear h
 go_enter Tryz.func47,Tryz.ntmps47
 go_wp2_with (go_at_call 82;refine cP.out.mono ?_;rintro e w' ⟨rfl,rfl⟩)
 go_ret
 exact ⟨rfl,rfl⟩
theorem Pin_hit (h:Cw w F p g st) {b j:Nat} {f:Fr} (hb:b<st.ls.length) (hl:look st.fr b=some (j,f)) (hp:f.2.2.2<=1000000):
 Calls Tryz.prog 47 #[.pointer (some ⟨p,0,none⟩), .int .u32 (b:Int)] w fun e w'=>e= .returned (.int .i64 0)/\Aft w w' F p g (fillT st j (f.1,f.2.1,f.2.2.1,f.2.2.2+1)):=by
 have cP:=Cplace h b
 rw [if_pos hb] at cP
 have cP:=Lib.hid cP
 have hgd:=h.good.pin b
 unfold pinT at hgd
 rw [if_pos hb,hl] at hgd
 have HG:=Lib.hid hgd
 obtain ⟨S,fb,mp,ch,cb,qk,h1,h2,h3,h4,h5,h6⟩:=h
 have hb2:b<4294967296:=by have:=h5.l32;omega
 obtain ⟨hf,rfl⟩:=look_some hl
 obtain ⟨b,x,d,n⟩:=f
 simp only at hp hb hb2
 obtain ⟨-,c1,c2,-⟩:=h1.cells
 have hq:=h1.mc.lookOk hb2
 have hixb:=ix_at h5.uq hf
 simp only at hixb
 rw [hixb] at hq
 simp only [Option.getD_some,Option.isSome_some] at hq
 obtain ⟨-,-,-,d3⟩:=h1.fw.cell hf
 simp only [f3] at d3
 have k3:=h1.fw.free (j*4+3)
 have hwr:IntKind.i64.wrap ((n:Int)+1)=(n:Int)+1:=by rw [IntKind.wrap_i64];omega
 have hj:=lt_of_get hf
 have H1:=Lib.hid h1
 have HF:=Lib.hid hf
 have HS:=Lib.hid (And.intro h2 (And.intro h3 (And.intro h4 h6)))
 have H5:=Lib.hid h5
 obtain ⟨N,hN⟩:∃N,N=st.fr.length:=⟨_,rfl⟩
 have HN:=Lib.hid hN
 rw [<-hN] at hj c1
 clear h1 h2 h3 h4 h5 h6 hf hl hixb hgd hN
 go_enter Tryz.func47,Tryz.ntmps47
 go_upto_region 7 with (go_at_call 82;refine cP.out.mono ?_;rintro e w' ⟨rfl,rfl⟩)
 have hi1:=into_setCell w ⟨fb,j*4+3,none⟩ (.int .i64 ((n:Int)+1))
 have h1:=H1.out.toMark (d':=d) (n':=n+1) HF.out hi1 (by simpa using H1.out.fw.pin HF.out (n+1))
 clear d3 k3 c1 c2 hq
 generalize w.setCell ⟨fb,j*4+3,none⟩ (.int .i64 ((n:Int)+1))=w1 at*
 have cC:=Lib.hid (Cut_any h1.cn (j:=j) (by simpa using lt_of_get HF.out))
 obtain ⟨-,-,-,c3⟩:=h1.cells
 have H1':=Lib.hid h1
 have HI1:=Lib.hid hi1
 clear h1 hi1
 go_wp2_with (go_at_call 83;refine cC.out.mono ?_;rintro e w2 ⟨z,rfl,hc,hi⟩)
 go_ret
 have hiF:Flow.Into F w w2:=(HI1.out.mono fun y hy=>HS.out.2.1 y (by simp at hy ⊢;exact .inr (.inl hy))).trans (hi.mono fun y hy=>HS.out.2.1 y (by simp at hy ⊢;exact .inr (.inr (.inr hy))))
 exact ⟨rfl,⟨F,Cw.of_mark HF.out H5.out.uq (H1'.out.toRow hi hc) HS.out.1 HS.out.2.1 HS.out.2.2.1 HG.out HS.out.2.2.2 hiF.size,grew_refl w F⟩,hiF⟩
theorem Pin_full (h:Cw w F p g st) {b:Nat} (hb:b<st.ls.length) (hl:look st.fr b=none) (hs:st.s<=1000000) (hr:roomT st=none):
 Calls Tryz.prog 47 #[.pointer (some ⟨p,0,none⟩), .int .u32 (b:Int)] w fun e w'=>e= .returned (.int .i64 7)/\Aft w w' F p g st:=by
 have cP:=Cplace h b
 rw [if_pos hb] at cP
 have cP:=Lib.hid cP
 have cR:=Croom h hs
 unfold roomPost at cR
 rw [hr] at cR
 simp only at cR
 have cR:=Lib.hid cR
 obtain ⟨S,fb,mp,ch,cb,qk,h1,h2,h3,h4,h5,h6⟩:=h
 have hb2:b<4294967296:=by have:=h5.l32;omega
 obtain ⟨-,-,c2,-⟩:=h1.cells
 have hq:=look_ok h1 hb2 hl
 clear h1 h2 h3 h4 h5 h6 hl hr hb hs hb2
 go_enter Tryz.func47,Tryz.ntmps47
 go_wp2_with (first
  |(go_at_call 82;refine cP.out.mono ?_;rintro e w' ⟨rfl,rfl⟩)
  |(go_at_call 84;refine cR.out.mono ?_;rintro e w' ⟨rfl,ha⟩))
 go_ret
 exact ⟨rfl,ha⟩
theorem Pin_room (h:Cw w F p g st) {b a:Nat} {t:St} (hb:b<st.ls.length) (hl:look st.fr b=none) (hs:st.s<=1000000) (hrd:st.r<=1000000) (hr:roomT st=some (a,t)):
 Calls Tryz.prog 47 #[.pointer (some ⟨p,0,none⟩), .int .u32 (b:Int)] w fun e w'=>e= .returned (.int .i64 0)/\Aft w w' F p g (fillT (readT t) a (b,(t.ls[b]?).getD [],false,1)):=by
 have cP:=Cplace h b
 rw [if_pos hb] at cP
 have cP:=Lib.hid cP
 have cR:=Croom h hs
 unfold roomPost at cR
 rw [hr] at cR
 simp only at cR
 have cR:=Lib.hid cR
 obtain ⟨g1,g2,g3,g4,g5,g6,g7⟩:=room_spec h.good hr
 have hbt:b<t.ls.length:=by rw [g4];exact hb
 have hx:t.ls[b]? =some (t.ls[b]):=List.getElem?_eq_getElem hbt
 obtain ⟨x,hxx⟩:∃x,x=t.ls[b]:=⟨_,rfl⟩
 rw [<-hxx] at hx
 have hxm:x.length=t.m:=by rw [hxx];exact g1.lm _ (List.getElem_mem hbt)
 rw [hx]
 simp only [Option.getD_some]
 have HX:=Lib.hid (And.intro hx (And.intro hxm hbt))
 have HG:=Lib.hid (And.intro g1 g2)
 have HN:=Lib.hid (fun (i:Nat) (u:Fr) (hi:t.fr[i]? =some (some u))=>look_none hl i u (g5 i u hi))
 have HR:=Lib.hid (by rw [g6];exact hrd:t.r<=1000000)
 obtain ⟨S,fb,mp,ch,cb,qk,h1,h2,h3,h4,h5,h6⟩:=h
 have hb2:b<4294967296:=by have:=h5.l32;omega
 obtain ⟨-,-,c2,-⟩:=h1.cells
 have hq:=look_ok h1 hb2 hl
 clear h1 h2 h3 h4 h5 h6 hl hr hb hs hrd hb2 g1 g2 g3 g4 g5 g6 g7 hx hxx hxm hbt
 go_enter Tryz.func47,Tryz.ntmps47
 go_upto_region 12 with (first
  |(go_at_call 82;refine cP.out.mono ?_;rintro e w' ⟨rfl,rfl⟩)
  |(go_at_call 84;refine cR.out.mono ?_;rintro e w1 ⟨rfl,⟨F1,hc1,hg1⟩,hi1⟩))
 have cD:=Lib.hid (Cread hc1 HX.out.1 HR.out)
 have c0:w1.cell? ⟨p,0,none⟩=some (.pointer (some ⟨g,0,none⟩)):=by
  obtain ⟨S,fb,mp,ch,cb,qk,h1,_⟩:=hc1
  exact h1.cells.1
 have HG1:=Lib.hid (And.intro hg1 (And.intro hi1 hc1.lt))
 clear hc1 hg1 hi1 hq c2
 go_upto_region 13 with (go_at_call 27;refine cD.out.mono ?_;rintro e w2 ⟨⟨q,k,rfl,hrow,hqs⟩,hc2,hi2⟩)
 have hqF:q∉F1:=fun hm=>by have:=HG1.out.2.2 q hm;omega
 have cF:=Cfill (j:=a) (b:=b) (n:=1) (c:=k) (d:=false) hc2 HG.out.2 hrow hqF HX.out.2.2 HX.out.2.1 (by omega) (fun _=>HX.out.1) (fun i u hi e=>absurd e (HN.out i u hi)) (fun u hu=>by cases hu)
 rw [HX.out.2.1] at cF
 have cF:=Lib.hid cF
 have HQ:=Lib.hid hqs
 have HI2:=Lib.hid hi2
 clear hc2 hrow hqF hqs hi2 c0
 go_wp2_with (go_at_call 85;refine cF.out.mono ?_;rintro e w3 ⟨rfl,hF3,hi3⟩)
 go_ret
 exact ⟨rfl,Aft.fin HG1.out.2.1 HG1.out.1 (HI2.out.trans hi3) (Nat.le_trans HG1.out.2.1.size HQ.out) hF3⟩
end
end Ca
end Go.Proofs.YtjpjjnalpdpljaaGreatDoor
namespace Go.Proofs.YtjpjjnalpdpljaaGreatDoor
open Go.RowKit
namespace Ca
open Mem Dv Cn
section
variable {w w' w1 w2:World} {F F1:List Nat} {p g:Nat} {st st1 st2 t:St}
theorem CPin (h:Cw w F p g st) (hK:Sm st 1000000) (b:Nat):Calls Tryz.prog 47 #[.pointer (some ⟨p,0,none⟩), .int .u32 (b:Int)] w fun e w'=>e= .returned (.int .i64 (pinT st b).1)/\Aft w w' F p g (pinT st b).2:=by
 unfold pinT
 by_cases hb:b<st.ls.length
 . rw [if_pos hb]
   cases hl:look st.fr b with
   |some y=>
    obtain ⟨j,f⟩:=y
    exact Pin_hit h hb hl (hK.p j f (look_some hl).1)
   |none=>
    cases hr:roomT st with
    |none=>exact Pin_full h hb hl hK.s hr
    |some y=>
     obtain ⟨a,t⟩:=y
     exact Pin_room h hb hl hK.s hK.r hr
 . rw [if_neg hb]
   exact (Pin_out h (by omega)).mono fun e w' ⟨he,hw⟩=>⟨he,hw▸Aft.same h (Below.refl _ _)⟩
theorem CBytes (h:Cw w F p g st):Calls Tryz.prog 33 #[.pointer (some ⟨g,0,none⟩)] w fun e w'=>e= .returned (.int .i64 (st.m:Int))/\w=w':=by
 obtain ⟨S,fb,mp,ch,cb,qk,h1,h2,h3,h4,h5,h6⟩:=h
 exact Bytes_any h1.dv
theorem Cw.m_le (h:Cw w F p g st):1<=st.m/\st.m<=65536:=by
 obtain ⟨S,fb,mp,ch,cb,qk,h1,h2,h3,h4,h5,h6⟩:=h
 exact ⟨h1.dv.m1,h1.dv.m2⟩
theorem Cw.cell0 (h:Cw w F p g st):w.cell? ⟨p,0,none⟩=some (.pointer (some ⟨g,0,none⟩)):=by
 obtain ⟨S,fb,mp,ch,cb,qk,h1,_⟩:=h
 exact h1.cells.1
theorem Fresh_out (h:Cw w F p g st) {b:Nat} (hb:st.ls.length<=b):Calls Tryz.prog 114 #[.pointer (some ⟨p,0,none⟩), .int .u32 (b:Int)] w fun e w'=>e= .returned (.int .i64 4)/\w=w':=by
 have cP:=Cplace h b
 rw [if_neg (by omega)] at cP
 have cP:=Lib.hid cP
 clear h
 go_enter Tryz.func114,Tryz.ntmps114
 go_wp2_with (go_at_call 82;refine cP.out.mono ?_;rintro e w' ⟨rfl,rfl⟩)
 go_ret
 exact ⟨rfl,rfl⟩
theorem Fresh_pinned (h:Cw w F p g st) {b:Nat} (hb:b<st.ls.length) (hp:0<pinsP st b):Calls Tryz.prog 114 #[.pointer (some ⟨p,0,none⟩), .int .u32 (b:Int)] w fun e w'=>e= .returned (.int .i64 8)/\w=w':=by
 have cP:=Cplace h b
 rw [if_pos hb] at cP
 have cP:=Lib.hid cP
 have cN:=Lib.hid (CPins h (b:=b) (by have:=h.good.l32;omega))
 generalize pinsP st b=n at*
 clear h
 go_enter Tryz.func114,Tryz.ntmps114
 go_wp2_with (first
  |(go_at_call 82;refine cP.out.mono ?_;rintro e w' ⟨rfl,rfl⟩)
  |(go_at_call 116;refine cN.out.mono ?_;rintro e w' ⟨rfl,rfl⟩))
 go_ret
 exact ⟨rfl,rfl⟩
theorem Fresh_full (h:Cw w F p g st) {b:Nat} (hb:b<st.ls.length) (hp:pinsP st b=0) (hS:Calls Tryz.prog 158 #[.pointer (some ⟨p,0,none⟩), .int .u32 (b:Int)] w fun e w'=>e= .returned (.tuple #[.int .i64 0, .int .i64 7])/\Aft w w' F p g st):Calls Tryz.prog 114 #[.pointer (some ⟨p,0,none⟩), .int .u32 (b:Int)] w fun e w'=>e= .returned (.int .i64 7)/\Aft w w' F p g st:=by
 have cP:=Cplace h b
 rw [if_pos hb] at cP
 have cP:=Lib.hid cP
 have cN:=CPins h (b:=b) (by have:=h.good.l32;omega)
 rw [hp] at cN
 have cN:=Lib.hid cN
 have cS:=Lib.hid hS
 clear h hS
 go_enter Tryz.func114,Tryz.ntmps114
 go_wp2_with (first
  |(go_at_call 82;refine cP.out.mono ?_;rintro e w' ⟨rfl,rfl⟩)
  |(go_at_call 116;refine cN.out.mono ?_;rintro e w' ⟨rfl,rfl⟩)
  |(go_at_call 158;refine cS.out.mono ?_;rintro e w' ⟨rfl,ha⟩))
 go_ret
 exact ⟨rfl,ha⟩
theorem Fresh_go (h:Cw w F p g st) {b a:Nat} {y:Option Fr} (hb:b<st.ls.length) (hp:pinsP st b=0) (hS:Calls Tryz.prog 158 #[.pointer (some ⟨p,0,none⟩), .int .u32 (b:Int)] w fun e w'=>e= .returned (.tuple #[.int .i64 (a:Int), .int .i64 0])/\Aft w w' F p g t)
 (hbt:b<t.ls.length) (hy:t.fr[a]? =some y) (ho:∀(i:Nat) (u:Fr),t.fr[i]? =some (some u)->u.1=b->i=a) (hn:∀u:Fr,y=some u->u.1=b):
 Calls Tryz.prog 114 #[.pointer (some ⟨p,0,none⟩), .int .u32 (b:Int)] w fun e w'=>e= .returned (.int .i64 0)/\Aft w w' F p g (fillT t a (b,List.replicate t.m 0,true,1)):=by
 have cP:=Cplace h b
 rw [if_pos hb] at cP
 have cP:=Lib.hid cP
 have cN:=CPins h (b:=b) (by have:=h.good.l32;omega)
 rw [hp] at cN
 have cN:=Lib.hid cN
 have cS:=Lib.hid hS
 have HY:=Lib.hid (And.intro hbt (And.intro hy (And.intro ho hn)))
 clear h hS hb hp hbt hy ho hn
 go_enter Tryz.func114,Tryz.ntmps114
 go_upto_region 9 with (first
  |(go_at_call 82;refine cP.out.mono ?_;rintro e w' ⟨rfl,rfl⟩)
  |(go_at_call 116;refine cN.out.mono ?_;rintro e w' ⟨rfl,rfl⟩)
  |(go_at_call 158;refine cS.out.mono ?_;rintro e w1 ⟨rfl,⟨F1,hc1,hg1⟩,hi1⟩))
 obtain ⟨m1,m2⟩:=hc1.m_le
 have cB:=Lib.hid (CBytes hc1)
 have c0:=hc1.cell0
 have hmk:=run_make_at (P:=Tryz.prog) Tryz.underlying72 u8info rfl (by omega) t.m (by omega) w1
 have hbw:Below w1.heap.size w1 (w1.alloc (.cells (Array.replicate t.m (.int .u8 0)) 5)):=(Below.refl _ _).alloc (Nat.le_refl _) _
 have hrow:Row 5 (w1.alloc (.cells (Array.replicate t.m (.int .u8 0)) 5)) w1.heap.size (List.replicate t.m 0):=by
  have:=Row.new 5 w1 (List.replicate t.m 0)
  simpa [bytesV,byteV] using this
 have hqF:w1.heap.size∉F1:=fun hm=>by have:=hc1.lt _ hm;omega
 have cF:=Cfill (j:=a) (b:=b) (n:=1) (c:=t.m) (d:=true) (hc1.kept hbw) HY.out.2.1 hrow hqF HY.out.1 (by simp) (by omega) (fun hd=>by cases hd) HY.out.2.2.1 HY.out.2.2.2
 rw [List.length_replicate] at cF
 have cF:=Lib.hid cF
 have HG1:=Lib.hid (And.intro hg1 (And.intro hi1 hbw))
 have HM:=Lib.hid (And.intro m1 m2)
 have hm3:(t.m:Int)<=140737488355328:=by omega
 clear hc1 hg1 hi1 hbw hrow hqF m1 m2
 go_wp2_with (first
  |(go_at_call 33;refine cB.out.mono ?_;rintro e w' ⟨rfl,rfl⟩)
  |(go_at_call 85;refine cF.out.mono ?_;rintro e w3 ⟨rfl,hF3,hi3⟩))
 go_ret
 exact ⟨rfl,Aft.fin HG1.out.2.1 HG1.out.1 ((Flow.Into.of_below HG1.out.2.2).trans hi3) HG1.out.2.1.size hF3⟩
theorem CFresh (h:Cw w F p g st) (hK:Sm st 1000000) (b:Nat):Calls Tryz.prog 114 #[.pointer (some ⟨p,0,none⟩), .int .u32 (b:Int)] w fun e w'=>e= .returned (.int .i64 (freshT st b).1)/\Aft w w' F p g (freshT st b).2:=by
 unfold freshT
 by_cases hb:b<st.ls.length
 . have hb2:b<4294967296:=by have:=h.good.l32;omega
   rw [if_pos hb]
   by_cases hp:0<pinsP st b
   . rw [if_pos hp]
     exact (Fresh_pinned h hb hp).mono fun e w' ⟨he,hw⟩=>⟨he,hw▸Aft.same h (Below.refl _ _)⟩
   . rw [if_neg hp]
     have hp0:pinsP st b=0:=by omega
     cases hl:look st.fr b with
     |some y=>
      obtain ⟨j,f⟩:=y
      obtain ⟨hf,he⟩:=look_some hl
      exact Fresh_go h hb hp0 ((seat_some h hb2 hl).mono fun e w' ⟨he,hw⟩=>⟨he,hw▸Aft.same h (Below.refl _ _)⟩) hb hf (fun i u hi e=>h.good.uq i j u f hi hf (e.trans he.symm)) (fun u hu=>by cases hu;exact he)
     |none=>
      have cR:=Croom h hK.s
      unfold roomPost at cR
      cases hr:roomT st with
      |none=>
       rw [hr] at cR
       exact Fresh_full h hb hp0 (seat_none h hb2 hl cR)
      |some y=>
       obtain ⟨a,t⟩:=y
       rw [hr] at cR
       obtain ⟨g1,g2,g3,g4,g5,g6,g7⟩:=room_spec h.good hr
       have:=Fresh_go h hb hp0 (seat_none h hb2 hl cR) (by rw [g4];exact hb) g2 (fun i u hi e=>absurd e (look_none hl i u (g5 i u hi))) (fun u hu=>by cases hu)
       rw [g3] at this
       exact this
 . rw [if_neg hb]
   exact (Fresh_out h (by omega)).mono fun e w' ⟨he,hw⟩=>⟨he,hw▸Aft.same h (Below.refl _ _)⟩
theorem Cpinned_no (h:Cw w F p g st) {b:Nat} (hb:b<4294967296) (hp:pinsP st b=0):Calls Tryz.prog 86 #[.pointer (some ⟨p,0,none⟩), .int .u32 (b:Int)] w fun e w'=>e= .returned (.tuple #[.pointer none, .int .i64 8])/\w=w':=by
 obtain ⟨S,fb,mp,ch,cb,qk,h1,h2,h3,h4,h5,h6⟩:=h
 unfold pinsP at hp
 cases hl:look st.fr b with
 |none=>exact pinned_none h1 hb (ix_none_of (look_none hl))
 |some y=>
  obtain ⟨j,b',x,d,n⟩:=y
  obtain ⟨hf,rfl⟩:=look_some hl
  rw [hl] at hp
  exact pinned_zero h1 hb hf (ix_at h5.uq hf) hp
theorem Unpin_no (h:Cw w F p g st) {b:Nat} (hb:b<4294967296) (hp:pinsP st b=0):Calls Tryz.prog 49 #[.pointer (some ⟨p,0,none⟩), .int .u32 (b:Int)] w fun e w'=>e= .returned (.int .i64 8)/\w=w':=by
 have cP:=Lib.hid (Cpinned_no h hb hp)
 clear h
 go_enter Tryz.func49,Tryz.ntmps49
 go_wp2_with (go_at_call 86;refine cP.out.mono ?_;rintro e w' ⟨rfl,rfl⟩)
 go_ret
 exact ⟨rfl,rfl⟩
theorem Write_no (h:Cw w F p g st) {b:Nat} (hb:b<4294967296) (hp:pinsP st b=0) (v:Value):Calls Tryz.prog 113 #[.pointer (some ⟨p,0,none⟩), .int .u32 (b:Int),v] w fun e w'=>e= .returned (.int .i64 8)/\w=w':=by
 have cP:=Lib.hid (Cpinned_no h hb hp)
 clear h
 go_enter Tryz.func113,Tryz.ntmps113
 go_wp2_with (go_at_call 86;refine cP.out.mono ?_;rintro e w' ⟨rfl,rfl⟩)
 go_ret
 exact ⟨rfl,rfl⟩
end
end Ca
end Go.Proofs.YtjpjjnalpdpljaaGreatDoor
