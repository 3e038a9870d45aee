import Derived.Test.YtjpjjnalpdpljaaGreatDoorPkAB
import Derived.Test.YtjpjjnalpdpljaaGreatDoorPkAS
namespace Go.Proofs.YtjpjjnalpdpljaaGreatDoor
open Go.RowKit
namespace Ca
section
variable {st t:St}
theorem pins_some {b j:Nat} {f:Fr} (h:look st.fr b=some (j,f)):pinsP st b=f.2.2.2:=by unfold pinsP;rw [h]
theorem pins_none {b:Nat} (h:look st.fr b=none):pinsP st b=0:=by unfold pinsP;rw [h]
theorem pins_clean (h:Good st) (a x:Nat):pinsP (cleanT st a) x=pinsP st x:=by
 unfold cleanT
 split
 . rename_i b y p hf
   have hl:=look_mark (f':=(b,y,false,p)) h.uq hf rfl x
   unfold pinsP
   simp only [hl]
   by_cases e:x=b
   . subst e
     rw [if_pos rfl,look_at h.uq hf]
   . rw [if_neg e]
 . rfl
theorem pins_empty (h:Good st) {a:Nat} {f:Fr} (hf:st.fr[a]? =some (some f)) (hd:f.2.2.2=0) (x:Nat):pinsP (emptyT st a) x=pinsP st x:=by
 have hl:=look_unset h.uq hf x
 unfold emptyT pinsP
 simp only [hl]
 by_cases e:x=f.1
 . subst e
   rw [if_pos rfl,look_at h.uq hf]
   exact hd.symm
 . rw [if_neg e]
theorem pins_room (h:Good st) {a:Nat} (hr:roomT st=some (a,t)) (x:Nat):pinsP t x=pinsP st x:=by
 unfold roomT at hr
 split at hr
 . cases hr
 . rename_i i hi
   have hm:i∈st.row:=List.mem_of_getLast? hi
   split at hr
   . rename_i f hf
     simp only [Option.some.injEq,Prod.mk.injEq] at hr
     obtain ⟨rfl,rfl⟩:=hr
     have h0:=((h.rw i).1 hm).2 f hf
     obtain ⟨b,y,d,p⟩:=f
     rw [pins_empty (h.clean _) (clean_at hf) h0,pins_clean h]
   . simp only [Option.some.injEq,Prod.mk.injEq] at hr
     obtain ⟨rfl,rfl⟩:=hr
     rfl
theorem room_some (h:st.row≠[]):∃a t,roomT st=some (a,t):=by
 unfold roomT
 cases e:st.row.getLast? with
 |none=>exact absurd (List.getLast?_eq_none_iff.1 e) h
 |some a=>
  simp only
  split
  . exact ⟨_,_,rfl⟩
  . exact ⟨_,_,rfl⟩
theorem room_few (h:Good st) (h3:3<=st.fr.length) {k1 k2:Nat} (hp:∀b,pinsP st b≠0->b=k1\/b=k2):∃a t,roomT st=some (a,t):=by
 refine room_some fun he=>?_
 have each:∀j,j<3->∃f:Fr,st.fr[j]? =some (some f)/\(f.1=k1\/f.1=k2):=fun j hj=>by
  have hn:¬(j<st.fr.length/\∀f:Fr,st.fr[j]? =some (some f)->f.2.2.2=0):=fun hh=>by
   have:=(h.rw j).2 hh
   rw [he] at this
   cases this
  rw [Classical.not_and_iff_not_or_not] at hn
  rcases hn with hn|hn
  . omega
  . rw [Classical.not_forall] at hn
    obtain ⟨f,hf⟩:=hn
    rw [Classical.not_imp] at hf
    refine ⟨f,hf.1,hp _ ?_⟩
    rw [pins_some (look_at h.uq hf.1)]
    exact hf.2
 obtain ⟨f0,g0,e0⟩:=each 0 (by decide)
 obtain ⟨f1,g1,e1⟩:=each 1 (by decide)
 obtain ⟨f2,g2,e2⟩:=each 2 (by decide)
 have a1:=fun e=>h.uq 0 1 f0 f1 g0 g1 e
 have a2:=fun e=>h.uq 0 2 f0 f2 g0 g2 e
 have a3:=fun e=>h.uq 1 2 f1 f2 g1 g2 e
 rcases e0 with e0|e0<;>rcases e1 with e1|e1<;>rcases e2 with e2|e2<;>first
  |exact absurd (a1 (by omega)) (by decide)
  |exact absurd (a2 (by omega)) (by decide)
  |exact absurd (a3 (by omega)) (by decide)
theorem pin_ok (h:Good st) {b:Nat} (hb:b<st.ls.length) (hr:∃a t,roomT st=some (a,t)):(pinT st b).1=0/\∀x,pinsP (pinT st b).2 x=if x=b then pinsP st b+1 else pinsP st x:=by
 unfold pinT
 rw [if_pos hb]
 cases hl:look st.fr b with
 |some y=>
  obtain ⟨j,f⟩:=y
  obtain ⟨hf,rfl⟩:=look_some hl
  refine ⟨rfl,fun x=>?_⟩
  have:=look_mark (f':=(f.1,f.2.1,f.2.2.1,f.2.2.2+1)) h.uq hf rfl x
  rw [pins_some hl]
  unfold fillT
  simp only
  unfold pinsP
  simp only [this]
  by_cases e:x=f.1
  . rw [if_pos e,if_pos e]
  . rw [if_neg e,if_neg e]
 |none=>
  obtain ⟨a,t,hr⟩:=hr
  rw [hr]
  refine ⟨rfl,fun x=>?_⟩
  obtain ⟨g1,g2,g3,g4,g5,g6,g7⟩:=room_spec h hr
  have hn:=look_none hl
  have:=look_set (f:=(b,(t.ls[b]?).getD [],false,1)) g1.uq (lt_of_get g2) (fun j g hj e=>absurd e (hn j g (g5 j g hj))) (fun g hg=>by rw [g2] at hg;cases hg) x
  rw [pins_none hl,<-pins_room h hr x]
  unfold fillT readT
  simp only
  unfold pinsP
  simp only [this]
  by_cases e:x=b
  . rw [if_pos e,if_pos e]
  . rw [if_neg e,if_neg e]
theorem fresh_ok (h:Good st) {b:Nat} (hb:b<st.ls.length) (h0:pinsP st b=0) (hr:∃a t,roomT st=some (a,t)):(freshT st b).1=0/\∀x,pinsP (freshT st b).2 x=if x=b then 1 else pinsP st x:=by
 unfold freshT
 rw [if_pos hb,if_neg (by omega)]
 cases hl:look st.fr b with
 |some y=>
  obtain ⟨j,f⟩:=y
  obtain ⟨hf,rfl⟩:=look_some hl
  refine ⟨rfl,fun x=>?_⟩
  have:=look_mark (f':=(f.1,List.replicate st.m 0,true,1)) h.uq hf rfl x
  unfold fillT
  simp only
  unfold pinsP
  simp only [this]
  by_cases e:x=f.1
  . rw [if_pos e,if_pos e]
  . rw [if_neg e,if_neg e]
 |none=>
  obtain ⟨a,t,hr⟩:=hr
  rw [hr]
  refine ⟨rfl,fun x=>?_⟩
  obtain ⟨g1,g2,g3,g4,g5,g6,g7⟩:=room_spec h hr
  have hn:=look_none hl
  have:=look_set (f:=(b,List.replicate st.m 0,true,1)) g1.uq (lt_of_get g2) (fun j g hj e=>absurd e (hn j g (g5 j g hj))) (fun g hg=>by rw [g2] at hg;cases hg) x
  rw [<-pins_room h hr x]
  unfold fillT
  simp only
  unfold pinsP
  simp only [this]
  by_cases e:x=b
  . rw [if_pos e,if_pos e]
  . rw [if_neg e,if_neg e]
theorem pinned_look {b:Nat} (h0:pinsP st b≠0):∃j f,look st.fr b=some (j,f)/\f.2.2.2≠0:=by
 cases hl:look st.fr b with
 |none=>exact absurd (pins_none hl) h0
 |some y=>
  obtain ⟨j,f⟩:=y
  rw [pins_some hl] at h0
  exact ⟨j,f,rfl,h0⟩
theorem unpin_ok (h:Good st) {b:Nat} (h0:pinsP st b≠0):(unpinT st b).1=0/\∀x,pinsP (unpinT st b).2 x=if x=b then pinsP st b-1 else pinsP st x:=by
 obtain ⟨j,f,hl,hn⟩:=pinned_look h0
 rw [pins_some hl]
 unfold unpinT
 rw [hl]
 simp only
 rw [if_neg hn]
 refine ⟨rfl,fun x=>?_⟩
 obtain ⟨hf,rfl⟩:=look_some hl
 have:=look_mark (f':=(f.1,f.2.1,f.2.2.1,f.2.2.2-1)) h.uq hf rfl x
 simp only
 unfold pinsP
 simp only [this]
 by_cases e:x=f.1
 . rw [if_pos e,if_pos e]
 . rw [if_neg e,if_neg e]
theorem write_ok (h:Good st) {b:Nat} {y:List UInt8} (h0:pinsP st b≠0) (hy:y.length=st.m):(writeT st b y).1=0/\∀x,pinsP (writeT st b y).2 x=pinsP st x:=by
 obtain ⟨j,f,hl,hn⟩:=pinned_look h0
 obtain ⟨hf,rfl⟩:=look_some hl
 unfold writeT
 rw [hl]
 simp only
 rw [if_neg hn,if_pos (hy.trans (h.blk _ _ hf).2.symm)]
 refine ⟨rfl,fun x=>?_⟩
 have:=look_mark (f':=(f.1,y,true,f.2.2.2)) h.uq hf rfl x
 simp only
 unfold pinsP
 simp only [this]
 by_cases e:x=f.1
 . subst e
   rw [if_pos rfl,hl]
 . rw [if_neg e]
theorem drop_ok (h:Good st) {b:Nat} (h0:pinsP st b=0):(dropT st b).1=0/\(∀x,pinsP (dropT st b).2 x=pinsP st x)/\∀i,i≠b->cur (dropT st b).2 i=cur st i:=by
 unfold dropT
 rw [if_neg (by omega)]
 cases hl:look st.fr b with
 |none=>exact ⟨rfl,fun _=>rfl,fun _ _=>rfl⟩
 |some y=>
  obtain ⟨j,f⟩:=y
  obtain ⟨hf,rfl⟩:=look_some hl
  rw [pins_some hl] at h0
  refine ⟨rfl,fun x=>pins_empty h hf h0 x,fun i hi=>?_⟩
  have hk:=look_unset h.uq hf i
  simp only
  unfold emptyT cur
  simp only [hk]
  rw [if_neg hi]
theorem pins_cleanB (h:Good st) (b x:Nat):pinsP (cleanB st b) x=pinsP st x:=by
 unfold cleanB
 split
 . exact pins_clean h _ _
 . rfl
theorem pins_cleans (l:List Nat):∀{st:St},Good st->∀x,pinsP (l.foldl cleanB st) x=pinsP st x:=by
 induction l with
 |nil=>exact fun _ _=>rfl
 |cons y r ih=>
  intro st h x
  rw [List.foldl_cons,ih (h.cleanB y) x,pins_cleanB h]
theorem pins_flush (h:Good st) (x:Nat):pinsP (flushT st) x=pinsP st x:=pins_cleans _ h x
theorem pins_new (m n:Nat) (ls:List (List UInt8)) (r s x:Nat):pinsP (st0 m n ls r s) x=0:=by
 refine pins_none (look_none_of fun j f hj=>?_)
 exact (repl_none hj).elim
theorem cur_st0 (m n:Nat) (ls:List (List UInt8)) (r s x:Nat):cur (st0 m n ls r s) x=(ls[x]?).getD []:=by
 have:look (st0 m n ls r s).fr x=none:=look_none_of fun j f hj=>(repl_none hj).elim
 rw [cur_none this]
 rfl
end
end Ca
end Go.Proofs.YtjpjjnalpdpljaaGreatDoor
namespace Go.Proofs.YtjpjjnalpdpljaaGreatDoor
open Go.RowKit
namespace Ca
open Mem Dv Cn Po
structure Cl (W w:World) (F:List Nat) (p g:Nat) (st:St):Prop where
 cw:Cw w F p g st
 lo:∀x,x∈F->W.heap.size<=x
 bl:Below W.heap.size W w
section
variable {W w w':World} {F:List Nat} {p g:Nat} {st st':St}
theorem Cl.kept (h:Cl W w F p g st) (hb:Below w.heap.size w w'):Cl W w' F p g st:=⟨h.cw.kept hb,h.lo,below_all h.bl hb (Nat.le_refl _)⟩
theorem Cl.aft (h:Cl W w F p g st) (ha:Aft w w' F p g st'):∃F',Cl W w' F' p g st'/\Grew w F F':=by
 obtain ⟨⟨F',h1,h2⟩,h3⟩:=ha
 refine ⟨F',⟨h1,fun x hx=>?_,h.bl.trans (below_of_into h3 h.lo h.bl.size)⟩,h2⟩
 rcases h2 x hx with h'|h'
 . exact h.lo x h'
 . exact Nat.le_trans h.bl.size h'
theorem Cl.dev (h:Cl W w F p g st):∃S,Dev w S g st.m st.ls st.r st.s:=by
 obtain ⟨S,fb,mp,ch,cb,qk,h1,_⟩:=h.cw
 exact ⟨S,h1.dv⟩
def Did (W w w':World) (F:List Nat) (p g:Nat) (z:Int) (st':St) (e:Ending):Prop:=e= .returned (.int .i64 z)/\(∃F',Cl W w' F' p g st'/\Grew w F F')/\Flow.Into F w w'
theorem Did.of {z:Int} {e:Ending} (h:Cl W w F p g st) (hd:e= .returned (.int .i64 z)/\Aft w w' F p g st'):Did W w w' F p g z st' e:=⟨hd.1,h.aft hd.2,hd.2.2⟩
theorem LPin (h:Cl W w F p g st) (hK:Sm st 1000000) (b:Nat):Calls Tryz.prog 47 #[.pointer (some ⟨p,0,none⟩), .int .u32 (b:Int)] w fun e w'=>Did W w w' F p g (pinT st b).1 (pinT st b).2 e:=(CPin h.cw hK b).mono fun _ _ hd=>Did.of h hd
theorem LFresh (h:Cl W w F p g st) (hK:Sm st 1000000) (b:Nat):Calls Tryz.prog 114 #[.pointer (some ⟨p,0,none⟩), .int .u32 (b:Int)] w fun e w'=>Did W w w' F p g (freshT st b).1 (freshT st b).2 e:=(CFresh h.cw hK b).mono fun _ _ hd=>Did.of h hd
theorem LUnpin (h:Cl W w F p g st) (hK:Sm st 1000000) {b:Nat} (hb:b<4294967296):Calls Tryz.prog 49 #[.pointer (some ⟨p,0,none⟩), .int .u32 (b:Int)] w fun e w'=>Did W w w' F p g (unpinT st b).1 (unpinT st b).2 e:=(CUnpin h.cw hK hb).mono fun _ _ hd=>Did.of h hd
theorem LWrite (h:Cl W w F p g st) {b:Nat} (hb:b<4294967296) {A:Option Addr} {n c:Nat} {y:List UInt8} (hA:BL w A y) (hn:y.length=n):Calls Tryz.prog 113 #[.pointer (some ⟨p,0,none⟩), .int .u32 (b:Int), .slice A n c] w fun e w'=>Did W w w' F p g (writeT st b y).1 (writeT st b y).2 e:=by
 subst hn
 exact (CWrite h.cw hb hA).mono fun _ _ hd=>Did.of h hd
theorem LDrop (h:Cl W w F p g st) {b:Nat} (hb:b<4294967296):Calls Tryz.prog 75 #[.pointer (some ⟨p,0,none⟩), .int .u32 (b:Int)] w fun e w'=>Did W w w' F p g (dropT st b).1 (dropT st b).2 e:=(CDrop h.cw hb).mono fun _ _ hd=>Did.of h hd
theorem LFlush (h:Cl W w F p g st) (hK:Sm st 900000):Calls Tryz.prog 59 #[.pointer (some ⟨p,0,none⟩)] w fun e w'=>Did W w w' F p g 0 (flushT st) e:=(CFlush h.cw hK).mono fun _ _ hd=>Did.of h hd
theorem Did.same (h:Cl W w F p g st) {z:Int} {e:Ending} (he:e= .returned (.int .i64 z)) (hb:Below w.heap.size w w'):Did W w w' F p g z st e:=⟨he,⟨F,h.kept hb,grew_refl w F⟩,Flow.Into.of_below hb⟩
end
end Ca
end Go.Proofs.YtjpjjnalpdpljaaGreatDoor
namespace Go.Proofs.YtjpjjnalpdpljaaGreatDoor
open Go.RowKit
namespace Ca
open Mem Dv Cn Po
def upF {α:Type} (P:Nat->α) (b:Nat) (x:α):Nat->α:=fun i=>if i=b then x else P i
def Few (P:Nat->Nat):Prop:=∃k1 k2,∀b,P b≠0->b=k1\/b=k2
structure Us (st:St) (N M n:Nat) (P:Nat->Nat) (f:Nat->List UInt8) (K:Nat):Prop where
 good:Good st
 sm:Sm st K
 fr:st.fr.length=N
 m:st.m=M
 len:st.ls.length=n
 pins:∀b,pinsP st b=P b
 cur:∀i,cur st i=f i
section
variable {st:St} {N M n K b:Nat} {P:Nat->Nat} {f:Nat->List UInt8} {y:List UInt8}
theorem Us.mono {K':Nat} (h:Us st N M n P f K) (hK:K<=K'):Us st N M n P f K':=⟨h.good,h.sm.mono hK,h.fr,h.m,h.len,h.pins,h.cur⟩
theorem Us.room (h:Us st N M n P f K) (h3:3<=N) (hf:Few P):∃a t,roomT st=some (a,t):=by
 obtain ⟨k1,k2,hk⟩:=hf
 exact room_few h.good (by rw [h.fr];exact h3) (k1:=k1) (k2:=k2) (fun b hb=>hk b (by rw [<-h.pins];exact hb))
theorem Us.pin (h:Us st N M n P f K) (h3:3<=N) (hf:Few P) (hb:b<n):(pinT st b).1=0/\Us (pinT st b).2 N M n (upF P b (P b+1)) f (K+2)/\Cost st (pinT st b).2 1 1:=by
 obtain ⟨h1,h2⟩:=pin_ok h.good (b:=b) (by rw [h.len];exact hb) (h.room h3 hf)
 have hc:=cost_pin st b
 exact ⟨h1,⟨h.good.pin b,h.sm.pin b,hc.fl.trans h.fr,hc.m.trans h.m,hc.ll.trans h.len,fun x=>by rw [h2 x,h.pins,h.pins];rfl,fun i=>by rw [cur_pin h.good,h.cur]⟩,hc⟩
theorem pin_free (h0:pinsP st b≠0) (hb:b<st.ls.length):Cost st (pinT st b).2 0 0:=by
 obtain ⟨j,f,hl,-⟩:=pinned_look h0
 unfold pinT
 rw [if_pos hb,hl]
 exact ⟨Nat.le_refl _,Nat.le_refl _,Nat.le_refl _,Nat.le_refl _,by simp [fillT],rfl,rfl⟩
theorem Us.fresh (h:Us st N M n P f K) (h3:3<=N) (hf:Few P) (hb:b<n) (h0:P b=0):(freshT st b).1=0/\Us (freshT st b).2 N M n (upF P b 1) (upF f b (List.replicate M 0)) (K+2)/\Cost st (freshT st b).2 0 1:=by
 obtain ⟨h1,h2⟩:=fresh_ok h.good (b:=b) (by rw [h.len];exact hb) (by rw [h.pins];exact h0) (h.room h3 hf)
 have hc:=cost_fresh st b
 refine ⟨h1,⟨h.good.fresh b,h.sm.fresh b,hc.fl.trans h.fr,hc.m.trans h.m,hc.ll.trans h.len,fun x=>by rw [h2 x,h.pins];rfl,fun i=>?_⟩,hc⟩
 rw [cur_fresh h.good,h.cur,h.m]
 unfold upF
 by_cases e:i=b
 . rw [if_pos ⟨h1,e⟩,if_pos e]
 . rw [if_neg (fun hh=>e hh.2),if_neg e]
theorem Us.unpin (h:Us st N M n P f K) (h0:P b≠0):(unpinT st b).1=0/\Us (unpinT st b).2 N M n (upF P b (P b-1)) f K/\Cost st (unpinT st b).2 0 0:=by
 obtain ⟨h1,h2⟩:=unpin_ok h.good (b:=b) (by rw [h.pins];exact h0)
 have hc:=cost_unpin st b
 exact ⟨h1,⟨h.good.unpin b,h.sm.unpin b,hc.fl.trans h.fr,hc.m.trans h.m,hc.ll.trans h.len,fun x=>by rw [h2 x,h.pins,h.pins];rfl,fun i=>by rw [cur_unpin h.good,h.cur]⟩,hc⟩
theorem Us.write (h:Us st N M n P f K) (h0:P b≠0) (hy:y.length=M):(writeT st b y).1=0/\Us (writeT st b y).2 N M n P (upF f b y) K/\Cost st (writeT st b y).2 0 0:=by
 obtain ⟨h1,h2⟩:=write_ok h.good (b:=b) (y:=y) (by rw [h.pins];exact h0) (by rw [h.m];exact hy)
 have hc:=cost_write st b y
 refine ⟨h1,⟨h.good.write b y,h.sm.write b y,hc.fl.trans h.fr,hc.m.trans h.m,hc.ll.trans h.len,fun x=>by rw [h2 x,h.pins],fun i=>?_⟩,hc⟩
 rw [cur_write h.good,h.cur]
 unfold upF
 by_cases e:i=b
 . rw [if_pos ⟨h1,e⟩,if_pos e]
 . rw [if_neg (fun hh=>e hh.2),if_neg e]
theorem Us.drop (h:Us st N M n P f K) (h0:P b=0):(dropT st b).1=0/\(∃z,Us (dropT st b).2 N M n P (upF f b z) K)/\Cost st (dropT st b).2 0 0:=by
 obtain ⟨h1,h2,h3⟩:=drop_ok h.good (b:=b) (by rw [h.pins];exact h0)
 have hc:=cost_drop st b
 refine ⟨h1,⟨Ca.cur (dropT st b).2 b,⟨h.good.drop b,h.sm.drop b,hc.fl.trans h.fr,hc.m.trans h.m,hc.ll.trans h.len,fun x=>by rw [h2 x,h.pins],fun i=>?_⟩⟩,hc⟩
 unfold upF
 by_cases e:i=b
 . rw [if_pos e,e]
 . rw [if_neg e,h3 i e,h.cur]
theorem Us.flush (h:Us st N M n P f K):Us (flushT st) N M n P f (K+64)/\Cost st (flushT st) 0 N/\(flushT st).ls=(List.range n).map f:=by
 have hd:(dirtyL st).length<=N:=by
  rw [<-h.fr]
  exact Nat.le_trans (dirty_occ st) (occ_le st.fr)
 have hN:N<=64:=by rw [<-h.fr];exact h.good.n2
 have hc:=cost_flush st
 obtain ⟨f1,-,f3⟩:=flush_all h.good
 refine ⟨⟨h.good.flush,h.sm.flush.mono (by omega),hc.fl.trans h.fr,hc.m.trans h.m,hc.ll.trans h.len,fun x=>by rw [pins_flush h.good,h.pins],fun i=>by rw [f1,h.cur]⟩,⟨hc.r1,hc.r2,hc.s1,Nat.le_trans hc.s2 (Nat.add_le_add_left hd _),hc.fl,hc.ll,hc.m⟩,?_⟩
 rw [f3,h.len]
 exact List.map_congr_left fun i _=>h.cur i
end
def Used (W w w':World) (F:List Nat) (p g:Nat) (st':St):Prop:=(∃F',Cl W w' F' p g st'/\Grew w F F')/\Flow.Into F w w'
section
variable {W w:World} {F:List Nat} {p g:Nat} {st:St} {N M n K b:Nat} {P:Nat->Nat} {f:Nat->List UInt8}
theorem UPin (h:Cl W w F p g st) (u:Us st N M n P f K) (hK:K<=1000000) (h3:3<=N) (hf:Few P) (hb:b<n):Calls Tryz.prog 47 #[.pointer (some ⟨p,0,none⟩), .int .u32 (b:Int)] w fun e w'=>e= .returned (.int .i64 0)/\∃st',Used W w w' F p g st'/\Us st' N M n (upF P b (P b+1)) f (K+2)/\Cost st st' 1 1/\(P b≠0->Cost st st' 0 0):=by
 obtain ⟨h1,h2,hc⟩:=u.pin h3 hf hb
 refine (LPin h (u.sm.mono hK) b).mono ?_
 rintro e w' ⟨he,h4,h5⟩
 rw [h1] at he
 exact ⟨he,_,⟨h4,h5⟩,h2,hc,fun h0=>pin_free (by rw [u.pins];exact h0) (by rw [u.len];exact hb)⟩
theorem UFresh (h:Cl W w F p g st) (u:Us st N M n P f K) (hK:K<=1000000) (h3:3<=N) (hf:Few P) (hb:b<n) (h0:P b=0):Calls Tryz.prog 114 #[.pointer (some ⟨p,0,none⟩), .int .u32 (b:Int)] w fun e w'=>e= .returned (.int .i64 0)/\∃st',Used W w w' F p g st'/\Us st' N M n (upF P b 1) (upF f b (List.replicate M 0)) (K+2)/\Cost st st' 0 1:=by
 obtain ⟨h1,h2,hc⟩:=u.fresh h3 hf hb h0
 refine (LFresh h (u.sm.mono hK) b).mono ?_
 rintro e w' ⟨he,h4,h5⟩
 rw [h1] at he
 exact ⟨he,_,⟨h4,h5⟩,h2,hc⟩
theorem UUnpin (h:Cl W w F p g st) (u:Us st N M n P f K) (hK:K<=1000000) (hb:b<4294967296) (h0:P b≠0):Calls Tryz.prog 49 #[.pointer (some ⟨p,0,none⟩), .int .u32 (b:Int)] w fun e w'=>e= .returned (.int .i64 0)/\∃st',Used W w w' F p g st'/\Us st' N M n (upF P b (P b-1)) f K/\Cost st st' 0 0:=by
 obtain ⟨h1,h2,hc⟩:=u.unpin h0
 refine (LUnpin h (u.sm.mono hK) hb).mono ?_
 rintro e w' ⟨he,h4,h5⟩
 rw [h1] at he
 exact ⟨he,_,⟨h4,h5⟩,h2,hc⟩
theorem UWrite (h:Cl W w F p g st) (u:Us st N M n P f K) (hb:b<4294967296) (h0:P b≠0) {A:Option Addr} {m c:Nat} {y:List UInt8} (hA:BL w A y) (hm:y.length=m) (hy:y.length=M):Calls Tryz.prog 113 #[.pointer (some ⟨p,0,none⟩), .int .u32 (b:Int), .slice A m c] w fun e w'=>e= .returned (.int .i64 0)/\∃st',Used W w w' F p g st'/\Us st' N M n P (upF f b y) K/\Cost st st' 0 0:=by
 obtain ⟨h1,h2,hc⟩:=u.write h0 hy
 refine (LWrite h hb hA hm).mono ?_
 rintro e w' ⟨he,h4,h5⟩
 rw [h1] at he
 exact ⟨he,_,⟨h4,h5⟩,h2,hc⟩
theorem UDrop (h:Cl W w F p g st) (u:Us st N M n P f K) (hb:b<4294967296) (h0:P b=0):Calls Tryz.prog 75 #[.pointer (some ⟨p,0,none⟩), .int .u32 (b:Int)] w fun e w'=>e= .returned (.int .i64 0)/\∃st' z,Used W w w' F p g st'/\Us st' N M n P (upF f b z) K/\Cost st st' 0 0:=by
 obtain ⟨h1,⟨z,h2⟩,hc⟩:=u.drop h0
 refine (LDrop h hb).mono ?_
 rintro e w' ⟨he,h4,h5⟩
 rw [h1] at he
 exact ⟨he,_,z,⟨h4,h5⟩,h2,hc⟩
theorem UFlush (h:Cl W w F p g st) (u:Us st N M n P f K) (hK:K<=900000):Calls Tryz.prog 59 #[.pointer (some ⟨p,0,none⟩)] w fun e w'=>e= .returned (.int .i64 0)/\∃st',Used W w w' F p g st'/\Us st' N M n P f (K+64)/\Cost st st' 0 N/\st'.ls=(List.range n).map f:=by
 obtain ⟨h2,hc,hl⟩:=u.flush
 refine (LFlush h (u.sm.mono hK)).mono ?_
 rintro e w' ⟨he,h4,h5⟩
 exact ⟨he,_,⟨h4,h5⟩,h2,hc,hl⟩
theorem URead (h:Cl W w F p g st) (u:Us st N M n P f K) (hb:b<4294967296) (h0:P b≠0):Calls Tryz.prog 48 #[.pointer (some ⟨p,0,none⟩), .int .u32 (b:Int)] w fun e w'=>(∃A k,e= .returned (.tuple #[.slice A (f b).length k, .int .i64 0])/\BL w' A (f b)/\∀a,A=some a->w.heap.size<=a.block)/\Below w.heap.size w w':=by
 obtain ⟨j,x,hl,hn⟩:=pinned_look (st:=st) (b:=b) (by rw [u.pins];exact h0)
 have hm:=(h.cw.good.blk _ _ (look_some hl).1).2
 have hf:f b=x.2.1:=by rw [<-u.cur,cur_some hl]
 rw [hf,hm]
 exact Read_yes h.cw hb hl (by omega)
end
end Ca
end Go.Proofs.YtjpjjnalpdpljaaGreatDoor
namespace Go.Proofs.YtjpjjnalpdpljaaGreatDoor
open Go.RowKit
namespace Ca
open Mem Dv Cn Po
section
variable {W w:World} {F:List Nat} {p g:Nat} {st:St}
def kinds:List TypeId:=[129,131,193,191,104,72,5]
def Typed (w:World) (x:Nat):Prop:=(∃C U z,w.heap[x]? =some (.cells C U z)/\U∈kinds)\/∃es c,w.heap[x]? =some (.map es c)
theorem Typed.ne {x b:Nat} (h:Typed w x) {C:Array Value} {U:TypeId} {z:Nat × Nat} (hb:w.heap[b]? =some (.cells C U z)) (hU:U∉kinds):b≠x:=by
 rintro rfl
 rcases h with ⟨C',U',z',h',hU'⟩|⟨es,c,h'⟩
 . rw [hb] at h'
   injection h' with h'
   injection h' with _ e _
   exact hU (e▸hU')
 . rw [hb] at h'
   injection h' with h'
   cases h'
theorem Cw.far {w w':World} {F T:List Nat} {p g:Nat} {st:St} (h:Cw w F p g st) (hi:Flow.Into T w w') (hn:∀x,x∈F->x∉T):Cw w' F p g st:=by
 obtain ⟨S,f,mp,ch,cb,qk,h1,h2,h3,h4,h5,h6⟩:=h
 have hb:∀x,x∈F->w'.heap[x]? =w.heap[x]? :=fun x hx=>hi.block x (h6 x hx) (hn x hx)
 refine ⟨S,f,mp,ch,cb,qk,⟨(hb p (h3 p (by simp))).trans h1.hd,h1.fw.keep (hb f (h3 f (by simp))),fun j x hx=>(hb _ (h4 j x hx)).trans (h1.by_ j x hx),h1.mc.keep (hb mp (h3 mp (by simp))),h1.cn.into hi (hn ch (h3 ch (by simp))) (hn cb (h3 cb (by simp))),h1.dv.into hi fun x hx=>hn x (h2 x hx),h1.nd,h1.out,h1.q1,h1.q2⟩,h2,h3,h4,h5,fun x hx=>Nat.lt_of_lt_of_le (h6 x hx) hi.size⟩
end
end Ca
end Go.Proofs.YtjpjjnalpdpljaaGreatDoor
