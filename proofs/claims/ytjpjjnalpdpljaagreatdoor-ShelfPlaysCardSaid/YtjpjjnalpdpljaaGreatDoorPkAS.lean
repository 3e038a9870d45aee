import Derived.Test.YtjpjjnalpdpljaaGreatDoorPkAR
import Derived.Test.YtjpjjnalpdpljaaGreatDoorPkAC
import Derived.Test.YtjpjjnalpdpljaaGreatDoorPkAK
import Derived.Test.YtjpjjnalpdpljaaGreatDoorPkAG
import Derived.Test.YtjpjjnalpdpljaaGreatDoorPkAL
import Derived.Test.YtjpjjnalpdpljaaGreatDoorPqDrift
namespace Go.Proofs.YtjpjjnalpdpljaaGreatDoor
open Go.RowKit
namespace Ca
open Mem Dv Cn Po
def upF {α:Type} (P:Nat->α) (b:Nat) (x:α):Nat->α:=fun i=>if i=b then x else P i
def Few (P:Nat->Nat):Prop:=∃k1 k2,∀b,P b≠0->b=k1\/b=k2
structure Us (st:St) (N M n:Nat) (P:Nat->Nat) (f:Nat->List UInt8) (K:Nat):Prop where
 good:Good st
 sm:Sm st K
 fr:st.fr.length=N
 m:st.m=M
 len:st.ls.length=n
 pins:∀b,bH st b=P b
 cur:∀i,cur st i=f i
section
variable {st:St} {N M n K b:Nat} {P:Nat->Nat} {f:Nat->List UInt8} {y:List UInt8}
theorem Us.mono {K':Nat} (h:Us st N M n P f K) (hK:K<=K'):Us st N M n P f K':=⟨h.good,h.sm.mono hK,h.fr,h.m,h.len,h.pins,h.cur⟩
theorem Us.room (h:Us st N M n P f K) (h3:3<=N) (hf:Few P):∃a t,fV st=some (a,t):=by
 obtain ⟨k1,k2,hk⟩:=hf;exact Ho h.good (by rw [h.fr];exact h3) (k1:=k1) (k2:=k2) (fun b hb=>hk b (by rw [<-h.pins];exact hb))
theorem Us.pin (h:Us st N M n P f K) (h3:3<=N) (hf:Few P) (hb:b<n):(om st b).1=0/\Us (om st b).2 N M n (upF P b (P b+1)) f (K+2)/\iB st (om st b).2 1 1:=by
 obtain ⟨h1,h2⟩:=MN h.good (b:=b) (by rw [h.len];exact hb) (h.room h3 hf);have hc:=FV st b;exact ⟨h1,⟨h.good.pin b,h.sm.pin b,hc.fl.trans h.fr,hc.m.trans h.m,hc.ll.trans h.len,fun x=>by rw [h2 x,h.pins,h.pins];rfl,fun i=>by rw [Jw h.good,h.cur]⟩,hc⟩
theorem Hw (h0:bH st b≠0) (hb:b<st.ls.length):iB st (om st b).2 0 0:=by
 obtain ⟨j,f,hl,-⟩:=jg h0;unfold om;rw [if_pos hb,hl];exact ⟨Nat.le_refl _,Nat.le_refl _,Nat.le_refl _,Nat.le_refl _,by simp [gB],rfl,rfl⟩
theorem Us.fresh (h:Us st N M n P f K) (h3:3<=N) (hf:Few P) (hb:b<n) (h0:P b=0):(eu st b).1=0/\Us (eu st b).2 N M n (upF P b 1) (upF f b (List.replicate M 0)) (K+2)/\iB st (eu st b).2 0 1:=by
 obtain ⟨h1,h2⟩:=Hq h.good (b:=b) (by rw [h.len];exact hb) (by rw [h.pins];exact h0) (h.room h3 hf);have hc:=zT st b;refine ⟨h1,⟨h.good.fresh b,h.sm.fresh b,hc.fl.trans h.fr,hc.m.trans h.m,hc.ll.trans h.len,fun x=>by rw [h2 x,h.pins];rfl,fun i=>?_⟩,hc⟩;rw [BQ h.good,h.cur,h.m];unfold upF;by_cases e:i=b
 . rw [if_pos ⟨h1,e⟩,if_pos e]
 . rw [if_neg (fun hh=>e hh.2),if_neg e]
theorem Us.qW (h:Us st N M n P f K) (h0:P b≠0):(dV st b).1=0/\Us (dV st b).2 N M n (upF P b (P b-1)) f K/\iB st (dV st b).2 0 0:=by
 obtain ⟨h1,h2⟩:=Hr h.good (b:=b) (by rw [h.pins];exact h0);have hc:=zU st b;exact ⟨h1,⟨h.good.qW b,h.sm.qW b,hc.fl.trans h.fr,hc.m.trans h.m,hc.ll.trans h.len,fun x=>by rw [h2 x,h.pins,h.pins];rfl,fun i=>by rw [BR h.good,h.cur]⟩,hc⟩
theorem Us.write (h:Us st N M n P f K) (h0:P b≠0) (hy:y.length=M):(dW st b y).1=0/\Us (dW st b y).2 N M n P (upF f b y) K/\iB st (dW st b y).2 0 0:=by
 obtain ⟨h1,h2⟩:=Ht h.good (b:=b) (y:=y) (by rw [h.pins];exact h0) (by rw [h.m];exact hy);have hc:=zV st b y;refine ⟨h1,⟨h.good.write b y,h.sm.write b y,hc.fl.trans h.fr,hc.m.trans h.m,hc.ll.trans h.len,fun x=>by rw [h2 x,h.pins],fun i=>?_⟩,hc⟩;rw [BS h.good,h.cur];unfold upF;by_cases e:i=b
 . rw [if_pos ⟨h1,e⟩,if_pos e]
 . rw [if_neg (fun hh=>e hh.2),if_neg e]
theorem Us.drop (h:Us st N M n P f K) (h0:P b=0):(iR st b).1=0/\(∃z,Us (iR st b).2 N M n P (upF f b z) K)/\iB st (iR st b).2 0 0:=by
 obtain ⟨h1,h2,h3⟩:=KA h.good (b:=b) (by rw [h.pins];exact h0);have hc:=BO st b;refine ⟨h1,⟨Ca.cur (iR st b).2 b,⟨h.good.drop b,h.sm.drop b,hc.fl.trans h.fr,hc.m.trans h.m,hc.ll.trans h.len,fun x=>by rw [h2 x,h.pins],fun i=>?_⟩⟩,hc⟩;unfold upF;by_cases e:i=b
 . rw [if_pos e,e]
 . rw [if_neg e,h3 i e,h.cur]
theorem Us.flush (h:Us st N M n P f K):Us (eZ st) N M n P f (K+64)/\iB st (eZ st) 0 N/\(eZ st).ls=(List.range n).map f:=by
 have hd:(dh st).length<=N:=by
  rw [<-h.fr];exact Nat.le_trans (oo st) (yB st.fr)
 have hN:N<=64:=by rw [<-h.fr];exact h.good.n2
 have hc:=qw st;obtain ⟨f1,-,f3⟩:=BU h.good;refine ⟨⟨h.good.flush,h.sm.flush.mono (by omega),hc.fl.trans h.fr,hc.m.trans h.m,hc.ll.trans h.len,fun x=>by rw [AA h.good,h.pins],fun i=>by rw [f1,h.cur]⟩,⟨hc.r1,hc.r2,hc.s1,Nat.le_trans hc.s2 (Nat.add_le_add_left hd _),hc.fl,hc.ll,hc.m⟩,?_⟩;rw [f3,h.len];exact List.map_congr_left fun i _=>h.cur i
end
def Used (W w w':World) (F:List Nat) (p g:Nat) (st':St):Prop:=(∃F',Cl W w' F' p g st'/\Df w F F')/\Flow.Into F w w'
section
variable {W w:World} {F:List Nat} {p g:Nat} {st:St} {N M n K b:Nat} {P:Nat->Nat} {f:Nat->List UInt8}
theorem RF (h:Cl W w F p g st) (u:Us st N M n P f K) (hK:K<=1000000) (h3:3<=N) (hf:Few P) (hb:b<n):Calls Tryz.prog 47 #[p,.int .u32 (b:Int)] w fun e w'=>e=.returned (0:Int)/\∃st',Used W w w' F p g st'/\Us st' N M n (upF P b (P b+1)) f (K+2)/\iB st st' 1 1/\(P b≠0->iB st st' 0 0):=by
 obtain ⟨h1,h2,hc⟩:=u.pin h3 hf hb;refine (RD h (u.sm.mono hK) b).mono ?_;rintro e w' ⟨he,h4,h5⟩;rw [h1] at he;exact ⟨he,_,⟨h4,h5⟩,h2,hc,fun h0=>Hw (by rw [u.pins];exact h0) (by rw [u.len];exact hb)⟩
theorem MW (h:Cl W w F p g st) (u:Us st N M n P f K) (hK:K<=1000000) (h3:3<=N) (hf:Few P) (hb:b<n) (h0:P b=0):Calls Tryz.prog 114 #[p,.int .u32 (b:Int)] w fun e w'=>e=.returned (0:Int)/\∃st',Used W w w' F p g st'/\Us st' N M n (upF P b 1) (upF f b (List.replicate M 0)) (K+2)/\iB st st' 0 1:=by
 obtain ⟨h1,h2,hc⟩:=u.fresh h3 hf hb h0;refine (MO h (u.sm.mono hK) b).mono ?_;rintro e w' ⟨he,h4,h5⟩;rw [h1] at he;exact ⟨he,_,⟨h4,h5⟩,h2,hc⟩
theorem MX (h:Cl W w F p g st) (u:Us st N M n P f K) (hK:K<=1000000) (hb:b<4294967296) (h0:P b≠0):Calls Tryz.prog 49 #[p,.int .u32 (b:Int)] w fun e w'=>e=.returned (0:Int)/\∃st',Used W w w' F p g st'/\Us st' N M n (upF P b (P b-1)) f K/\iB st st' 0 0:=by
 obtain ⟨h1,h2,hc⟩:=u.qW h0;refine (MP h (u.sm.mono hK) hb).mono ?_;rintro e w' ⟨he,h4,h5⟩;rw [h1] at he;exact ⟨he,_,⟨h4,h5⟩,h2,hc⟩
theorem MZ (h:Cl W w F p g st) (u:Us st N M n P f K) (hb:b<4294967296) (h0:P b≠0) {A:Option Addr} {m c:Nat} {y:List UInt8} (hA:BL w A y) (hm:y.length=m) (hy:y.length=M):Calls Tryz.prog 113 #[p,.int .u32 (b:Int),.slice A m c] w fun e w'=>e=.returned (0:Int)/\∃st',Used W w w' F p g st'/\Us st' N M n P (upF f b y) K/\iB st st' 0 0:=by
 obtain ⟨h1,h2,hc⟩:=u.write h0 hy;refine (MR h hb hA hm).mono ?_;rintro e w' ⟨he,h4,h5⟩;rw [h1] at he;exact ⟨he,_,⟨h4,h5⟩,h2,hc⟩
theorem Pf (h:Cl W w F p g st) (u:Us st N M n P f K) (hb:b<4294967296) (h0:P b=0):Calls Tryz.prog 75 #[p,.int .u32 (b:Int)] w fun e w'=>e=.returned (0:Int)/\∃st' z,Used W w w' F p g st'/\Us st' N M n P (upF f b z) K/\iB st st' 0 0:=by
 obtain ⟨h1,⟨z,h2⟩,hc⟩:=u.drop h0;refine (Pb h hb).mono ?_;rintro e w' ⟨he,h4,h5⟩;rw [h1] at he;exact ⟨he,_,z,⟨h4,h5⟩,h2,hc⟩
theorem M0 (h:Cl W w F p g st) (u:Us st N M n P f K) (hK:K<=900000):Calls Tryz.prog 59 #[p] w fun e w'=>e=.returned (0:Int)/\∃st',Used W w w' F p g st'/\Us st' N M n P f (K+64)/\iB st st' 0 N/\st'.ls=(List.range n).map f:=by
 obtain ⟨h2,hc,hl⟩:=u.flush;refine (MV h (u.sm.mono hK)).mono ?_;rintro e w' ⟨he,h4,h5⟩;exact ⟨he,_,⟨h4,h5⟩,h2,hc,hl⟩
theorem Pg (h:Cl W w F p g st) (u:Us st N M n P f K) (hb:b<4294967296) (h0:P b≠0):Calls Tryz.prog 48 #[p,.int .u32 (b:Int)] w fun e w'=>(∃A k,e=.returned (.tuple #[.slice A (f b).length k,(0:Int)])/\BL w' A (f b)/\∀a,A=some a->w.heap.size<=a.block)/\Bw w w':=by
 obtain ⟨j,x,hl,hn⟩:=jg (st:=st) (b:=b) (by rw [u.pins];exact h0);have hm:=(h.cw.good.blk _ _ (aH hl).1).2;have hf:f b=x.2.1:=by rw [<-u.cur,qX hl]
 rw [hf,hm];exact Hy h.cw hb hl (by omega)
end
end Ca
end Go.Proofs.YtjpjjnalpdpljaaGreatDoor
namespace Go.Proofs.YtjpjjnalpdpljaaGreatDoor
open Go.RowKit
open List (mem_append mem_filterMap)
namespace Ca
open Mem Dv Cn Po
section
variable {W w:World} {F:List Nat} {p g:Nat} {st:St}
def kinds:List TypeId:=[129,131,193,191,104,72,5]
def Typed (w:World) (x:Nat):Prop:=(∃C U z,w.heap[x]? =some (.cells C U z)/\U∈kinds)\/∃es c,w.heap[x]? =some (.map es c)
theorem iF {x:Nat} {C:Array Value} {U:TypeId} {z:Nat × Nat} (h:w.heap[x]? =some (.cells C U z)) (hU:U∈kinds):Typed w x:= .inl ⟨C,U,z,h,hU⟩
theorem Typed.ne {x b:Nat} (h:Typed w x) {C:Array Value} {U:TypeId} {z:Nat × Nat} (hb:w.heap[b]? =some (.cells C U z)) (hU:U∉kinds):b≠x:=by
 rintro rfl;rcases h with ⟨C',U',z',h',hU'⟩|⟨es,c,h'⟩
 . rw [hb] at h'
   (injection h' with h');(injection h' with _ e _);exact hU (e▸hU')
 . rw [hb] at h'
   (injection h' with h');cases h'
theorem Cw.shrink (h:Cw w F p g st):∃F0,Cw w F0 p g st/\(∀x,x∈F0->x∈F)/\∀x,x∈F0->Typed w x:=by
 obtain ⟨S,f,mp,ch,cb,qk,h1,h2,h3,h4,h5,h6⟩:=h;obtain ⟨b,c,bks,hw,Ef⟩:=h1.dv.ex;have hby:∀j x,j<st.fr.length/\st.fr[j]? =some (some x)->(qk j).1∈F:=fun j x hx=>h4 j x hx.2
 refine ⟨foot g b bks++([p,f,mp,ch,cb]++(List.range st.fr.length).filterMap fun j=>match st.fr[j]? with|some (some _)=>some (qk j).1|_=>none),⟨foot g b bks,f,mp,ch,cb,qk,⟨h1.hd,h1.fw,h1.by_,h1.mc,h1.cn,⟨⟨b,c,bks,hw,fun k hk=>hk⟩,h1.dv.m1,h1.dv.m2,h1.dv.n1,h1.dv.n2,fun k hk=>h1.dv.lt k (Ef k hk)⟩,h1.nd,fun x hx hn=>h1.out x hx (Ef x hn),fun j x hx=>⟨fun hn=>(h1.q1 j x hx).1 (Ef _ hn),(h1.q1 j x hx).2⟩,h1.q2⟩,fun x hx=>by simp [hx],fun x hx=>?_,fun j x hx=>?_,h5,fun x hx=>?_⟩,fun x hx=>?_,fun x hx=>?_⟩
 . exact List.mem_append_right _ (List.mem_append_left _ hx)
 . refine List.mem_append_right _ (List.mem_append_right _ (mem_filterMap.2 ⟨j,by rw [List.mem_range];exact aU hx,by rw [hx]⟩))
 . rcases mem_append.1 hx with hx|hx
   . exact h6 x (h2 x (Ef x hx))
   rcases mem_append.1 hx with hx|hx
   . exact h6 x (h3 x hx)
   . obtain ⟨j,_,hj⟩:=mem_filterMap.1 hx
     split at hj
     . rename_i y hy
       (cases hj);exact h6 _ (h4 j y hy)
     . cases hj
 . rcases mem_append.1 hx with hx|hx
   . exact h2 x (Ef x hx)
   rcases mem_append.1 hx with hx|hx
   . exact h3 x hx
   . obtain ⟨j,_,hj⟩:=mem_filterMap.1 hx
     split at hj
     . rename_i y hy
       (cases hj);exact h4 j y hy
     . cases hj
 . rcases mem_append.1 hx with hx|hx
   . rcases su hx with rfl|rfl|⟨i,o,k,hi⟩
     . exact iF hw.hd (by decide)
     . obtain ⟨_,h2'⟩:=hw.ow
       rcases h2' with ⟨h',_⟩|⟨g',cap',cur,he,_,hh,_⟩
       . cases h'
       . obtain ⟨rfl,_⟩:x=g'/\c=cap':=by simpa using he
         exact iF hh (by decide)
     . obtain ⟨_,_,_,C,y,hC,_⟩:=hw.yes i x o k hi
       exact iF hC (by decide)
   rcases mem_append.1 hx with hx|hx
   . simp only [List.mem_cons,List.not_mem_nil,or_false] at hx
     rcases hx with rfl|rfl|rfl|rfl|rfl
     . exact iF h1.hd (by decide)
     . obtain ⟨C,hC,_⟩:=h1.fw
       exact iF hC (by decide)
     . obtain ⟨D,⟨es,clock,hb,_⟩,_⟩:=h1.mc.own
       exact .inr ⟨es,clock,hb⟩
     . obtain ⟨c',A,B,hc,_⟩:=h1.cn
       exact iF hc.hd (by decide)
     . obtain ⟨c',A,B,hc,_⟩:=h1.cn
       obtain ⟨cur,hh⟩:=hc.lk.heap;exact iF hh (by decide)
   . obtain ⟨j,_,hj⟩:=mem_filterMap.1 hx
     split at hj
     . rename_i y hy
       (cases hj);exact iF (h1.by_ j y hy) (by decide)
     . cases hj
theorem Cw.far {w w':World} {F T:List Nat} {p g:Nat} {st:St} (h:Cw w F p g st) (hi:Flow.Into T w w') (hn:∀x,x∈F->x∉T):Cw w' F p g st:=by
 obtain ⟨S,f,mp,ch,cb,qk,h1,h2,h3,h4,h5,h6⟩:=h;have hb:∀x,x∈F->w'.heap[x]? =w.heap[x]? :=fun x hx=>hi.block x (h6 x hx) (hn x hx)
 refine ⟨S,f,mp,ch,cb,qk,⟨(hb p (h3 p (by simp))).trans h1.hd,h1.fw.keep (hb f (h3 f (by simp))),fun j x hx=>(hb _ (h4 j x hx)).trans (h1.by_ j x hx),h1.mc.keep (hb mp (h3 mp (by simp))),h1.cn.into hi (hn ch (h3 ch (by simp))) (hn cb (h3 cb (by simp))),h1.dv.into hi fun x hx=>hn x (h2 x hx),h1.nd,h1.out,h1.q1,h1.q2⟩,h2,h3,h4,h5,fun x hx=>Nat.lt_of_lt_of_le (h6 x hx) hi.size⟩
theorem Cl.shrink (H:Cl W w F p g st):∃F0,Cl W w F0 p g st/\(∀x,x∈F0->x∈F)/\∀x,x∈F0->Typed w x:=by
 obtain ⟨F0,h1,h2,h3⟩:=H.cw.shrink;exact ⟨F0,⟨h1,fun x hx=>H.lo x (h2 x hx),H.bl⟩,h2,h3⟩
end
end Ca
end Go.Proofs.YtjpjjnalpdpljaaGreatDoor
namespace Go.Proofs.YtjpjjnalpdpljaaGreatDoor
open Go.RowKit
namespace Sh
open Mem No Bt Po
open Ca (St Us upF Few iB)
structure Ad where
 p:Nat
 g:Nat
 k:Nat
 q:Nat
 r:Nat
 b:Nat
def KE (c:Cfg) (z:Ad) (kp:Nat):Array Value:= #[.int .i64 c.blocks,.int .i64 c.bytes,.int .i64 c.frames,.int .i64 c.fan,.int .i64 c.buffer,.int .i64 c.leaf,.int .i64 c.key,.int .i64 c.val,.pointer (some ⟨z.g,0,none⟩),.pointer (some ⟨z.k,0,none⟩),.pointer (some ⟨z.q,0,none⟩),.int .u32 (kp:Int)]
structure Sf (W w:World) (F:List Nat) (z:Ad) (c:Cfg) (tb:List Bool) (kp:Nat) (st:St):Prop where
 bx:bf 83 w z.p (KE c z kp)
 cl:Ca.Cl W w F z.k z.g st
 pw:Pw W w z.q z.r z.b tb
 lo:W.heap.size<=z.p
 pb:z.p≠z.b
 ap:∀x,x∈F->x≠z.p/\x≠z.q/\x≠z.r/\x≠z.b
structure Mv (z:Ad) (w w':World) (F F':List Nat):Prop where
 gr:Dv.Df w F F'
 io:Flow.Into (z.p::z.b::F) w w'
section
variable {W w w' w2:World} {F F' F2:List Nat} {z:Ad} {c:Cfg} {tb tb':List Bool} {kp:Nat} {st st':St}
theorem Mv.below (z:Ad) (F:List Nat) (hb:Bw w w'):Mv z w w' F F:=⟨fun _ h=> .inl h,Flow.Into.of_below hb⟩
theorem Mv.trans (h:Mv z w w' F F') (h2:Mv z w' w2 F' F2):Mv z w w2 F F2:=by
 have h1:=h.io;have h3:=h2.io;refine ⟨fun x hx=>?_,⟨h3.os.trans h1.os,h3.tape.trans h1.tape,h3.output.trans h1.output,Nat.le_trans h1.size h3.size,fun k hk hn=>(h3.block k (Nat.lt_of_lt_of_le hk h1.size) fun hh=>hn ?_).trans (h1.block k hk hn)⟩⟩
 . rcases h2.gr x hx with h4|h4
   . exact h.gr x h4
   . exact .inr (Nat.le_trans h1.size h4)
 . simp only [List.mem_cons] at hh ⊢
   rcases hh with hh|hh|hh
   . exact .inl hh
   . exact .inr (.inl hh)
   . rcases h.gr k hh with h4|h4
     . exact .inr (.inr h4)
     . omega
theorem M4 (h:Pw W w z.q z.r z.b tb) (hT:Tab W) (hi:Flow.Into F w w') (hn:∀x,x∈F->x≠z.p/\x≠z.q/\x≠z.r/\x≠z.b) (hF:∀x,x∈F->W.heap.size<=x):Pw W w' z.q z.r z.b tb:=by
 have h1:=mG h.rw.bel hi hF h.rw.bel.size;exact ⟨(hi.block _ h.lt fun hx=>(hn _ hx).2.1 rfl).trans h.hd,⟨h.rw.row.into hi (fun hx=>(hn _ hx).2.2.1 rfl) (fun hx=>(hn _ hx).2.2.2 rfl),hT.below h1,h1,h.rw.hg,h.rw.hb⟩,h.hq⟩
theorem Sf.kept (h:Sf W w F z c tb kp st) (hT:Tab W) (hb:Bw w w'):Sf W w' F z c tb kp st:=⟨h.bx.kept hb,h.cl.kept hb,h.pw.kept hT hb,h.lo,h.pb,h.ap⟩
theorem Sf.below (h:Sf W w F z c tb kp st):Bw W w:=h.cl.bl
theorem Sf.used (h:Sf W w F z c tb kp st) (hT:Tab W) (hu:Ca.Used W w w' F z.k z.g st'):∃F',Sf W w' F' z c tb kp st'/\Mv z w w' F F':=by
 obtain ⟨⟨F',h1,h2⟩,h3⟩:=hu;have hl:=h.pw.lts;have hp:=h.bx.lt;refine ⟨F',⟨(h3.block _ hp fun hx=>(h.ap _ hx).1 rfl).trans h.bx,h1,M4 h.pw hT h3 h.ap h.cl.lo,h.lo,h.pb,fun x hx=>?_⟩,h2,h3.mono fun k hk=>List.mem_cons_of_mem _ (List.mem_cons_of_mem _ hk)⟩;rcases h2 x hx with h4|h4
 . exact h.ap x h4
 . omega
theorem Sf.pool (h:Sf W w F z c tb kp st) (hp:Pw W w' z.q z.r z.b tb') (hi:Flow.Into [z.b] w w'):Sf W w' F z c tb' kp st/\Mv z w w' F F:=by
 refine ⟨⟨(hi.block _ h.bx.lt (by simpa using h.pb)).trans h.bx,⟨h.cl.cw.far hi fun x hx=>by simpa using (h.ap x hx).2.2.2,h.cl.lo,hp.rw.bel⟩,hp,h.lo,h.pb,h.ap⟩,fun _ hx=> .inl hx,hi.mono fun k hk=>?_⟩;obtain rfl:k=z.b:=by simpa using hk
 simp
theorem Sf.far (h:Sf W w F z c tb kp st) (hT:Tab W) {g:Nat} (hi:Flow.Into [g] w w') (hn:g∉z.p::z.q::z.r::z.b::F) (hg:W.heap.size<=g):Sf W w' F z c tb kp st:=by
 simp only [List.mem_cons,not_or] at hn;obtain ⟨n1,n2,n3,n4,n5⟩:=hn;have hp:=h.pw.far hT hi ⟨fun e=>n2 e.symm,fun e=>n3 e.symm,fun e=>n4 e.symm⟩ hg;exact ⟨(hi.block _ h.bx.lt (by simpa using fun e=>n1 e.symm)).trans h.bx,⟨h.cl.cw.far hi fun x hx hh=>n5 ((show x=g by simpa using hh)▸hx),h.cl.lo,hp.rw.bel⟩,hp,h.lo,h.pb,h.ap⟩
theorem Mv.off (h:Mv z w w' F F') {g:Nat} (hi:Flow.Into [g] w' w2) (hg:w.heap.size<=g):Mv z w w2 F F':=by
 have h1:=h.io;exact ⟨h.gr,hi.os.trans h1.os,hi.tape.trans h1.tape,hi.output.trans h1.output,Nat.le_trans h1.size hi.size,fun k hk hn=>(hi.block k (Nat.lt_of_lt_of_le hk h1.size) (by simp only [List.mem_singleton];omega)).trans (h1.block k hk hn)⟩
theorem Mv.box (h:Mv z w w' F F') {U:TypeId} {g:Nat} {C:Array Value} (hx:bf U w g C) (hn:g∉z.p::z.q::z.r::z.b::F):bf U w' g C/\g∉z.p::z.q::z.r::z.b::F':=by
 simp only [List.mem_cons,not_or] at hn ⊢;obtain ⟨n1,n2,n3,n4,n5⟩:=hn;refine ⟨(h.io.block _ hx.lt (by simp only [List.mem_cons,not_or];exact ⟨n1,n4,n5⟩)).trans hx,n1,n2,n3,n4,fun hh=>?_⟩;rcases h.gr _ hh with h4|h4
 . exact n5 h4
 . have:=hx.lt
   omega
theorem Sf.keep (h:Sf W w F z c tb kp st) (hT:Tab W) (i:Nat):Sf W (w.setCell ⟨z.p,11,none⟩ (.int .u32 (i:Int))) F z c tb i st/\Mv z w (w.setCell ⟨z.p,11,none⟩ (.int .u32 (i:Int))) F F:=by
 have hi:Flow.Into [z.p] w (w.setCell ⟨z.p,11,none⟩ (.int .u32 (i:Int))):=⟨rfl,rfl,rfl,by simp [World.setCell],fun k _ hk=>Below.heap_setCell _ _ _ _ (by simpa using hk)⟩;have hq:=h.pw.lts;have hx:=h.bx.set 11 (.int .u32 (i:Int));have hbn:=h.pb
 have hn:z.q≠z.p/\z.r≠z.p:=by
  refine ⟨fun e=>?_,fun e=>?_⟩
  . have h1:=h.pw.hd
    have h2:=h.bx;unfold bf at h2;rw [e,h2] at h1;simp only [Option.some.injEq,Obj.cells.injEq] at h1;exact absurd h1.2.1 (by decide)
  . obtain ⟨_,_,h1⟩:=h.pw.rw.row
    have h1:=h1.hd;have h2:=h.bx;unfold bf at h2;rw [e,h2] at h1;simp only [Option.some.injEq,Obj.cells.injEq] at h1;exact absurd h1.2.1 (by decide)
 have hp:=h.pw.far hT hi ⟨hn.1,hn.2,fun e=>hbn e.symm⟩ h.lo;refine ⟨⟨hx,⟨h.cl.cw.far hi fun x hx=>by simpa using (h.ap x hx).1,h.cl.lo,hp.rw.bel⟩,hp,h.lo,h.pb,h.ap⟩,fun _ hx=> .inl hx,hi.mono fun k hk=>?_⟩;obtain rfl:k=z.p:=by simpa using hk
 simp
end
def kpF (kp:Nat):Nat->Nat:=fun b=>if b=kp/\0<kp then 1 else 0
theorem Eh (kp:Nat):Few (kpF kp):=⟨kp,kp,fun b hb=>by
 unfold kpF at hb;split at hb
 . rename_i h
   exact .inl h.1
 . exact absurd rfl hb⟩
theorem KF (P:Nat->Nat) (i:Nat):upF (upF P i (P i+1)) i (upF P i (P i+1) i-1)=P:=by
 funext b;unfold upF;by_cases e:b=i
 . subst e
   simp
 . simp [e]
theorem M5 (kp i:Nat) (hi:0<i) (hk:0<kp):upF (upF (kpF kp) i (kpF kp i+1)) kp (upF (kpF kp) i (kpF kp i+1) kp-1)=kpF i:=by
 funext b;unfold upF kpF;by_cases e:b=kp
 . subst e
   by_cases e2:b=i
   . subst e2
     simp [hi]
   . simp [e2,hk]
 . by_cases e2:b=i
   . subst e2
     simp [e,hi]
   . simp [e,e2]
theorem Hz (i:Nat) (hi:0<i):upF (kpF 0) i (kpF 0 i+1)=kpF i:=by
 funext b;unfold upF kpF;by_cases e:b=i
 . subst e
   simp [hi]
 . simp [e]
theorem KG (kp:Nat) (hk:0<kp):upF (kpF kp) kp (kpF kp kp-1)=kpF 0:=by
 funext b;unfold upF kpF;by_cases e:b=kp
 . subst e
   simp [hk]
 . simp [e]
theorem xB {kp i:Nat} (h:i≠kp):kpF kp i=0:=by
 unfold kpF;rw [if_neg (fun hh=>h hh.1)]
theorem sV {kp:Nat} (h:0<kp):kpF kp kp=1:=by
 unfold kpF;rw [if_pos ⟨rfl,h⟩]
theorem Ei {kp i:Nat} (hi:0<i):(if kpF kp i=0 then 1 else 0)=(if i=kp then 0 else 1):=by
 by_cases e:i=kp
 . subst e
   rw [sV hi];simp
 . rw [xB e]
   simp [e]
def thr (c:Cfg) (i:Nat):Prop:=0<i/\(i:Int)<c.blocks
instance (c:Cfg) (i:Nat):Decidable (thr c i):=inferInstanceAs (Decidable (_/\_))
def Okc (c:Cfg):Prop:=Cf.Right c.blocks c.bytes c.frames c.fan c.buffer c.leaf c.key c.val/\c.bytes<=3000/\c.blocks<=65536
structure Sv (W w:World) (F:List Nat) (z:Ad) (c:Cfg) (tb:List Bool) (kp:Nat) (P:Nat->Nat) (f:Nat->List UInt8) (K r s:Nat):Prop where
 ex:∃st,Sf W w F z c tb kp st/\Us st c.frames.toNat c.bytes.toNat c.blocks.toNat P f K/\st.r=r/\st.s=s
 len:(tb.length:Int)=c.blocks
 tb0:tb.getD 0 false=true
 kl:kp=0\/thr c kp
def Out (W w w':World) (F:List Nat) (z:Ad) (c:Cfg) (tb:List Bool) (kp:Nat) (P:Nat->Nat) (f:Nat->List UInt8) (K r s R S:Nat):Prop:=∃F' r' s',Sv W w' F' z c tb kp P f K r' s'/\Mv z w w' F F'/\(r<=r'/\r'<=r+R)/\s<=s'/\s'<=s+S
end Sh
end Go.Proofs.YtjpjjnalpdpljaaGreatDoor
namespace Go.Proofs.YtjpjjnalpdpljaaGreatDoor
open Go.RowKit
namespace Sh
open Mem No Bt Po
open Ca (St Us upF Few iB)
section
variable {W w w' w2:World} {F F':List Nat} {z:Ad} {c:Cfg} {tb tb':List Bool} {kp:Nat} {P P':Nat->Nat} {f f':Nat->List UInt8} {K K' r r' s s' R S R' S':Nat} {st st':St}
theorem Sv.kept (h:Sv W w F z c tb kp P f K r s) (hT:Tab W) (hb:Bw w w'):Sv W w' F z c tb kp P f K r s:=by
 obtain ⟨⟨st,h1,h2⟩,h3,h4,h5⟩:=h;exact ⟨⟨st,h1.kept hT hb,h2⟩,h3,h4,h5⟩
theorem Sv.below (h:Sv W w F z c tb kp P f K r s):Bw W w:=by
 obtain ⟨⟨st,h1,-⟩,-⟩:=h;exact h1.below
theorem Sv.lt (h:Sv W w F z c tb kp P f K r s):∀x,x∈z.p::z.q::z.r::z.b::F->x<w.heap.size:=by
 obtain ⟨⟨st,h1,-⟩,-⟩:=h;obtain ⟨h2,h3,h4,-⟩:=h1.pw.lts;intro x hx;simp only [List.mem_cons] at hx;rcases hx with rfl|rfl|rfl|rfl|hx
 . exact h1.bx.lt
 . exact h2
 . exact h3
 . exact h4
 . exact h1.cl.cw.lt x hx
theorem Sv.new (h:Sv W w F z c tb kp P f K r s):w.heap.size∉z.p::z.q::z.r::z.b::F:=fun hx=>absurd (h.lt _ hx) (by omega)
theorem Sv.far (h:Sv W w F z c tb kp P f K r s) (hT:Tab W) {g:Nat} (hi:Flow.Into [g] w w') (hn:g∉z.p::z.q::z.r::z.b::F) (hg:W.heap.size<=g):Sv W w' F z c tb kp P f K r s:=by
 obtain ⟨⟨st,h1,h2⟩,h3,h4,h5⟩:=h;exact ⟨⟨st,h1.far hT hi hn hg,h2⟩,h3,h4,h5⟩
theorem Sv.box (h:Sv W w F z c tb kp P f K r s):bf 83 w z.p (KE c z kp):=by
 obtain ⟨⟨st,h1,-⟩,-⟩:=h;exact h1.bx
theorem Sv.mono (h:Sv W w F z c tb kp P f K r s) (hK:K<=K'):Sv W w F z c tb kp P f K' r s:=by
 obtain ⟨⟨st,h1,h2,h6⟩,h3,h4,h5⟩:=h;exact ⟨⟨st,h1,h2.mono hK,h6⟩,h3,h4,h5⟩
theorem Sv.cells (h:Sv W w F z c tb kp P f K r s):w.cell? ⟨z.p,0,none⟩=some (.int .i64 c.blocks)/\w.cell? ⟨z.p,1,none⟩=some (.int .i64 c.bytes)/\w.cell? ⟨z.p,2,none⟩=some (.int .i64 c.frames)/\w.cell? ⟨z.p,3,none⟩=some (.int .i64 c.fan)/\w.cell? ⟨z.p,4,none⟩=some (.int .i64 c.buffer)/\w.cell? ⟨z.p,5,none⟩=some (.int .i64 c.leaf)/\w.cell? ⟨z.p,6,none⟩=some (.int .i64 c.key)/\w.cell? ⟨z.p,7,none⟩=some (.int .i64 c.val)/\w.cell? ⟨z.p,8,none⟩=some (.pointer (some ⟨z.g,0,none⟩))/\w.cell? ⟨z.p,9,none⟩=some (.pointer (some ⟨z.k,0,none⟩))/\w.cell? ⟨z.p,10,none⟩=some (.pointer (some ⟨z.q,0,none⟩))/\w.cell? ⟨z.p,11,none⟩=some (.int .u32 (kp:Int))/\w.frozen? ⟨z.p,11,none⟩=false:=by
 obtain ⟨⟨st,h1,-⟩,-⟩:=h;have hx:=h1.bx;exact ⟨hx.cell rfl,hx.cell rfl,hx.cell rfl,hx.cell rfl,hx.cell rfl,hx.cell rfl,hx.cell rfl,hx.cell rfl,hx.cell rfl,hx.cell rfl,hx.cell rfl,hx.cell rfl,hx.free 11⟩
theorem Okc.nat (h:Okc c):(c.blocks.toNat:Int)=c.blocks/\(c.bytes.toNat:Int)=c.bytes/\3<=c.frames.toNat/\5<=c.blocks/\c.blocks<=65536/\64<=c.bytes/\c.bytes<=3000/\(c.frames.toNat:Int)=c.frames/\8<=c.frames/\c.frames<=64:=by
 obtain ⟨⟨-,h1,h2,h3⟩,h4,h5⟩:=h
 have h6:64<=Cf.few c.fan c.buffer c.leaf c.key c.val:=by
  unfold Cf.few;omega
 omega
theorem Out.same (h:Sv W w F z c tb kp P f K r s) (hT:Tab W) (hb:Bw w w') (R S:Nat):Out W w w' F z c tb kp P f K r s R S:=⟨F,r,s,h.kept hT hb,Mv.below z F hb,⟨Nat.le_refl _,Nat.le_add_right _ _⟩,Nat.le_refl _,Nat.le_add_right _ _⟩
theorem Out.mono (h:Out W w w' F z c tb kp P f K r s R S) (hR:R<=R') (hS:S<=S'):Out W w w' F z c tb kp P f K r s R' S':=by
 obtain ⟨F',r',s',h1,h2,h3,h4⟩:=h;exact ⟨F',r',s',h1,h2,by omega,by omega⟩
theorem Out.then (h1:Mv z w w' F F') (hr:r<=r'/\r'<=r+R) (hs:s<=s'/\s'<=s+S) (h:Out W w' w2 F' z c tb kp P f K r' s' R' S'):Out W w w2 F z c tb kp P f K r s (R+R') (S+S'):=by
 obtain ⟨F2,r2,s2,h3,h4,h5,h6⟩:=h;exact ⟨F2,r2,s2,h3,h1.trans h4,by omega,by omega⟩
theorem Out.call (h1:Sf W w F z c tb kp st) (hl:(tb.length:Int)=c.blocks) (h0:tb.getD 0 false=true) (hk:kp=0\/thr c kp) (hT:Tab W) (hu:Ca.Used W w w' F z.k z.g st') (h6:Us st' c.frames.toNat c.bytes.toNat c.blocks.toNat P f K) (hc:iB st st' R S):Out W w w' F z c tb kp P f K st.r st.s R S:=by
 obtain ⟨F',h7,h8⟩:=h1.used hT hu;exact ⟨F',st'.r,st'.s,⟨⟨st',h7,h6,rfl,rfl⟩,hl,h0,hk⟩,h8,⟨hc.r1,hc.r2⟩,hc.s1,hc.s2⟩
variable {b:Nat}
theorem Qz (h:Sv W w F z c tb kp P f K r s) (hc:Okc c) (hT:Tab W) (hK:K<=1000000) (hf:Few P) (hb:(b:Int)<c.blocks):Calls Tryz.prog 47 #[z.k,.int .u32 (b:Int)] w fun e w'=>e=.returned (0:Int)/\Out W w w' F z c tb kp (upF P b (P b+1)) f (K+2) r s (if P b=0 then 1 else 0) (if P b=0 then 1 else 0):=by
 obtain ⟨⟨st,h1,h2,rfl,rfl⟩,h3,h4,h5⟩:=h;have hn:=hc.nat;refine (Ca.RF h1.cl h2 hK (by omega) hf (b:=b) (by omega)).mono ?_;rintro e w' ⟨he,st',hu,h6,hct,hfr⟩;refine ⟨he,?_⟩;by_cases e0:P b=0
 . rw [if_pos e0]
   exact Out.call h1 h3 h4 h5 hT hu h6 hct
 . rw [if_neg e0]
   exact Out.call h1 h3 h4 h5 hT hu h6 (hfr e0)
theorem M6 (h:Sv W w F z c tb kp P f K r s) (hc:Okc c) (hT:Tab W) (hK:K<=1000000) (hf:Few P) (hb:(b:Int)<c.blocks) (h0:P b=0):Calls Tryz.prog 114 #[z.k,.int .u32 (b:Int)] w fun e w'=>e=.returned (0:Int)/\Out W w w' F z c tb kp (upF P b 1) (upF f b (List.replicate c.bytes.toNat 0)) (K+2) r s 0 1:=by
 obtain ⟨⟨st,h1,h2,rfl,rfl⟩,h3,h4,h5⟩:=h;have hn:=hc.nat;refine (Ca.MW h1.cl h2 hK (by omega) hf (b:=b) (by omega) h0).mono ?_;rintro e w' ⟨he,st',hu,h6,hct⟩;exact ⟨he,Out.call h1 h3 h4 h5 hT hu h6 hct⟩
theorem Ej (h:Sv W w F z c tb kp P f K r s) (hT:Tab W) (hK:K<=1000000) (hb:b<4294967296) (h0:P b≠0):Calls Tryz.prog 49 #[z.k,.int .u32 (b:Int)] w fun e w'=>e=.returned (0:Int)/\Out W w w' F z c tb kp (upF P b (P b-1)) f K r s 0 0:=by
 obtain ⟨⟨st,h1,h2,rfl,rfl⟩,h3,h4,h5⟩:=h;refine (Ca.MX h1.cl h2 hK hb h0).mono ?_;rintro e w' ⟨he,st',hu,h6,hct⟩;exact ⟨he,Out.call h1 h3 h4 h5 hT hu h6 hct⟩
theorem I9 (h:Sv W w F z c tb kp P f K r s) (hc:Okc c) (hT:Tab W) (hb:b<4294967296) (h0:P b≠0) {A:Option Addr} {m cap:Nat} {y:List UInt8} (hA:BL w A y) (hm:y.length=m) (hy:(y.length:Int)=c.bytes):Calls Tryz.prog 113 #[z.k,.int .u32 (b:Int),.slice A m cap] w fun e w'=>e=.returned (0:Int)/\Out W w w' F z c tb kp P (upF f b y) K r s 0 0:=by
 obtain ⟨⟨st,h1,h2,rfl,rfl⟩,h3,h4,h5⟩:=h;have hn:=hc.nat;refine (Ca.MZ h1.cl h2 hb h0 hA hm (by omega)).mono ?_;rintro e w' ⟨he,st',hu,h6,hct⟩;exact ⟨he,Out.call h1 h3 h4 h5 hT hu h6 hct⟩
theorem Ph (h:Sv W w F z c tb kp P f K r s) (hT:Tab W) (hb:b<4294967296) (h0:P b=0):Calls Tryz.prog 75 #[z.k,.int .u32 (b:Int)] w fun e w'=>e=.returned (0:Int)/\∃y,Out W w w' F z c tb kp P (upF f b y) K r s 0 0:=by
 obtain ⟨⟨st,h1,h2,rfl,rfl⟩,h3,h4,h5⟩:=h;refine (Ca.Pf h1.cl h2 hb h0).mono ?_;rintro e w' ⟨he,st',y,hu,h6,hct⟩;exact ⟨he,y,Out.call h1 h3 h4 h5 hT hu h6 hct⟩
def Dvs (w:World) (g:Nat) (c:Cfg) (f:Nat->List UInt8):Prop:=∃S r s,Dv.Dev w S g c.bytes.toNat ((List.range c.blocks.toNat).map f) r s
theorem M7 (h:Sv W w F z c tb kp P f K r s) (hT:Tab W) (hK:K<=900000):Calls Tryz.prog 59 #[z.k] w fun e w'=>e=.returned (0:Int)/\Out W w w' F z c tb kp P f (K+64) r s 0 c.frames.toNat/\Dvs w' z.g c f:=by
 obtain ⟨⟨st,h1,h2,rfl,rfl⟩,h3,h4,h5⟩:=h;refine (Ca.M0 h1.cl h2 hK).mono ?_;rintro e w' ⟨he,st',hu,h6,hct,hl⟩;refine ⟨he,Out.call h1 h3 h4 h5 hT hu h6 hct,?_⟩;obtain ⟨⟨F',h7,-⟩,-⟩:=hu;obtain ⟨S,hd⟩:=h7.dev;rw [h6.m,hl] at hd;exact ⟨S,_,_,hd⟩
theorem Pj (h:Sv W w F z c tb kp P f K r s) (hb:b<4294967296) (h0:P b≠0):Calls Tryz.prog 48 #[z.k,.int .u32 (b:Int)] w fun e w'=>(∃A k,e=.returned (.tuple #[.slice A (f b).length k,(0:Int)])/\BL w' A (f b)/\∀a,A=some a->w.heap.size<=a.block)/\Bw w w':=by
 obtain ⟨⟨st,h1,h2,rfl,rfl⟩,h3,h4,h5⟩:=h;exact Ca.Pg h1.cl h2 hb h0
theorem Sv.many (h:Sv W w F z c tb kp P f K r s) (hc:Okc c) {i:Nat} (hi:(i:Int)<c.blocks):((f i).length:Int)=c.bytes:=by
 obtain ⟨⟨st,h1,h2,-⟩,-⟩:=h;have hn:=hc.nat;have h9:=Ca.JB h2.good (i:=i) (by rw [h2.len];omega);rw [h2.cur,h2.m] at h9;omega
theorem Sv.dev (h:Sv W w F z c tb kp P f K r s):∃S ls,Dv.Dev w S z.g c.bytes.toNat ls r s/\ls.length=c.blocks.toNat:=by
 obtain ⟨⟨st,h1,h2,rfl,rfl⟩,-⟩:=h;obtain ⟨S,hd⟩:=h1.cl.dev;rw [h2.m] at hd;exact ⟨S,_,hd,h2.len⟩
theorem Sv.pool (h:Sv W w F z c tb kp P f K r s) (hp:Pw W w' z.q z.r z.b tb') (hi:Flow.Into [z.b] w w') (hl:tb'.length=tb.length) (h0:tb'.getD 0 false=true):Out W w w' F z c tb' kp P f K r s 0 0:=by
 obtain ⟨⟨st,h1,h2⟩,h3,h4,h5⟩:=h;obtain ⟨h7,h8⟩:=h1.pool hp hi;exact ⟨F,r,s,⟨⟨st,h7,h2⟩,by rw [hl];exact h3,h0,h5⟩,h8,⟨Nat.le_refl _,Nat.le_refl _⟩,Nat.le_refl _,Nat.le_refl _⟩
theorem Sv.pw (h:Sv W w F z c tb kp P f K r s):Pw W w z.q z.r z.b tb:=by
 obtain ⟨⟨st,h1,-⟩,-⟩:=h;exact h1.pw
theorem El {i:Nat} (h:tb.getD 0 false=true):(jQ tb (i:Int)).length=tb.length/\(jQ tb (i:Int)).getD 0 false=true:=by
 unfold jQ;split
 . rename_i hin
   have hlt:i<tb.length:=by
    have:=of_decide_eq_true hin;omega
   refine ⟨by simp,?_⟩;rw [show ((i:Int)).toNat=i from rfl,fT _ _ _ _ _ hlt];split
   . rfl
   . exact h
 . exact ⟨rfl,h⟩
theorem AB {i:Nat} (h:tb.getD 0 false=true):(gvT tb i).length=tb.length/\(gvT tb i).getD 0 false=true:=by
 refine ⟨wI _ _,?_⟩;unfold gvT;split
 . exact h
 . rename_i h0
   unfold ru;split
   . rename_i hin
     have hlt:i<tb.length:=by
      have:=of_decide_eq_true hin;omega
     rw [show ((i:Int)).toNat=i from rfl,fT _ _ _ _ _ hlt,if_neg (fun e=>h0 e.symm)];exact h
   . exact h
theorem Em {t:List Bool} {j:Nat} (hg:Got tb 1 t [j]) (h:tb.getD 0 false=true):t.length=tb.length/\t.getD 0 false=true/\0<j:=by
 refine ⟨hg.len.1,?_,?_⟩
 . obtain ⟨p,h1,rfl,-,-⟩:=hg
   clear h1
   induction p with
   |zero=>exact h
   |succ p ih=>
    show ((fill tb p).set p true).getD 0 false=true;by_cases hp:p<tb.length
    . rw [fT _ _ _ _ _ (by rw [dR];exact hp)]
      split
      . rfl
      . exact ih
    . rw [List.set_eq_of_length_le (by rw [dR];omega)]
      exact ih
 . have hm:∀p,∀x,x∈frs tb p->0<x:=fun p=>by
    induction p with
    |zero=>exact fun x hx=>by cases hx
    |succ p ih=>
     intro x hx;unfold frs at hx;rcases List.mem_append.1 hx with hx|hx
     . exact ih x hx
     . split at hx
       . cases hx
       . rename_i hv
         obtain rfl:x=p:=(by simpa using hx);rcases Nat.eq_zero_or_pos x with e|e
         . subst e
           exact absurd h hv
         . exact e
   obtain ⟨p,-,-,h2,-⟩:=hg;exact hm p j (by rw [<-h2];simp)
end
end Sh
end Go.Proofs.YtjpjjnalpdpljaaGreatDoor
set_option maxRecDepth 100000
namespace Go.Proofs.YtjpjjnalpdpljaaGreatDoor
open Go.RowKit
open Go.Lib (hid)
namespace Sh
open Mem No Bt Po
open Ca (upF)
section
variable {W w:World} {F:List Nat} {z:Ad} {c:Cfg} {tb:List Bool} {kp:Nat} {P:Nat->Nat} {f:Nat->List UInt8} {K r s:Nat}
theorem RG:Tryz.prog.underlying 65=some (.struct (Tryz.prog.fieldsOf 65)):=by kernel_rfl
theorem QA {v u:Value}:(Tryz.prog.info? 65).map (·.size)=some (#[v,u]:Array Value).size:=by kernel_rfl
theorem gJ (h:Sv W w F z c tb kp P f K r s):CW 55 #[z.p] w (.bool true):=by
 obtain ⟨-,-,-,-,-,-,-,-,c8,-⟩:=h.cells;clear h;go_enter Tryz.func55,Tryz.ntmps55
 go_wp2
 go_ret
 exact ⟨rfl,rfl⟩
theorem pJ (h:Sv W w F z c tb kp P f K r s) (hc:Okc c) (i:Nat):CW 46 #[z.p,.int .u32 (i:Int)] w (.int .i64 (if thr c i then 0 else 4)):=by
 have cM:=hid (gJ h);obtain ⟨c0,-⟩:=h.cells;obtain ⟨-,-,-,n1,n2,-⟩:=hc.nat;have hwr:IntKind.u32.wrap c.blocks=c.blocks:=by rw [IntKind.wrap_u32];omega
 clear h hc;by_cases ht:thr c i
 . rw [if_pos ht]
   have hz:((i:Int)==0)=false:=(by have:=ht.1;simp;omega);have hd:decide (c.blocks<=(i:Int))=false:=(by have:=ht.2;simp;omega);clear ht;go_enter Tryz.func46,Tryz.ntmps46
   go_wp2_with (go_at_call 55;refine cM.out.mono ?_;rintro e w' ⟨rfl,rfl⟩)
   go_ret
   exact ⟨rfl,rfl⟩
 . rw [if_neg ht]
   unfold thr at ht;by_cases h0:i=0
   . subst h0
     go_enter Tryz.func46,Tryz.ntmps46
     go_wp2_with (go_at_call 55;refine cM.out.mono ?_;rintro e w' ⟨rfl,rfl⟩)
     go_ret
     exact ⟨rfl,rfl⟩
   . have hz:((i:Int)==0)=false:=by simp;omega
     have hd:decide (c.blocks<=(i:Int))=true:=(by simp;omega);clear ht h0;go_enter Tryz.func46,Tryz.ntmps46
     go_wp2_with (go_at_call 55;refine cM.out.mono ?_;rintro e w' ⟨rfl,rfl⟩)
     go_ret
     exact ⟨rfl,rfl⟩
theorem xC:Tryz.prog.underlying 23=some (.struct (Tryz.prog.fieldsOf 23)):=by kernel_rfl
theorem vD {C:Array Value} (h:C.size=8):(Tryz.prog.info? 23).map (·.size)=some C.size:=by
 rw [h]
 kernel_rfl
theorem rY (c:Cfg):∀v∈(aZ c).toList,v.oneCell'=true:=by simp [aZ,Value.oneCell']
theorem Ja (c:Cfg) (z:Ad) (kp:Nat):((KE c z kp).toList.take (aZ c).size).toArray=aZ c:=rfl
theorem H6 (h:Sv W w F z c tb kp P f K r s) (hT:Tab W):CB 23 #[z.p] w (.agg (aZ c)):=by
 have hb1:Bw w (w.alloc (.cells #[(0:Int),(0:Int),(0:Int),(0:Int),(0:Int),(0:Int),(0:Int),(0:Int)] 23)):=bAx;have hx:=bf.new 23 w #[(0:Int),(0:Int),(0:Int),(0:Int),(0:Int),(0:Int),(0:Int),(0:Int)];have h1:=h.kept hT hb1;have hn:=h.new;have cM:=hid (gJ h1);clear h;go_enter Tryz.func23,Tryz.ntmps23
 go_upto_region 1 with fail
 generalize w.alloc (.cells #[(0:Int),(0:Int),(0:Int),(0:Int),(0:Int),(0:Int),(0:Int),(0:Int)] 23)=w1 at*;obtain ⟨g,hg⟩:∃g,g=w.heap.size:=⟨_,rfl⟩
 rw [<-hg] at hx;simp only [<-hg];have HX:=hid hx;have HB:=hid (And.intro hg hb1);have HS:=hid h1.box;clear hx hg hb1 h1 hn
 go_wp2_with (first
  |(go_at_call 55;refine cM.out.mono ?_;rintro e w' ⟨rfl,rfl⟩)
  |(refine jE rfl (.tmp 9) 23 rfl xC z.p (KE c z kp) (aZ c) (vD rfl) rfl HS.out (Ja c z kp) (Nat.le_of_ble_eq_true rfl) ?_)
  |(refine aK rfl (.tmp 2) (.tmp 10) 23 rfl rfl g #[.int .i64 0,.int .i64 0,.int .i64 0,.int .i64 0,.int .i64 0,.int .i64 0,.int .i64 0,.int .i64 0] (aZ c) (vD rfl) rfl (rY c) rfl rfl HX.out ?_;intro w3 HZ hi;have HI:=hid hi;clear hi))
 have hl:=eO (P:=Tryz.prog) xC (vD (C:=aZ c) rfl) HZ.out;refine bodyPost_ret (v:= .agg (aZ c)) (by simp [results,Tryz.results23,asAddr,Act.put,hl]) rfl ⟨rfl,?_⟩;obtain ⟨hg,hb⟩:=HB.out;have hi:=HI.out;exact hb.trans ⟨hi.os,hi.tape,hi.output,hi.size,fun k hk=>hi.block k (Nat.lt_of_lt_of_le hk hb.size) (by simp only [List.mem_singleton];omega)⟩
theorem Jb (h:Sv W w F z c tb kp P f K r s):CW 17 #[z.p] w (.int .i64 (free tb:Int)):=by
 have cM:=hid (gJ h);have cF:=hid (lu h.pw);obtain ⟨-,-,-,-,-,-,-,-,-,-,c10,-⟩:=h.cells;clear h;generalize free tb=m at*;go_enter Tryz.func17,Tryz.ntmps17
 go_wp2_with (first
  |(go_at_call 55;refine cM.out.mono ?_;rintro e w' ⟨rfl,rfl⟩)
  |(go_at_call 56;refine cF.out.mono ?_;rintro e w' ⟨rfl,rfl⟩))
 go_ret
 exact ⟨rfl,rfl⟩
theorem M8 (h:Sv W w F z c tb kp P f K r s) (hT:Tab W) (i:Nat) (hi:i<4294967296):CB 22 #[z.p,.int .u32 (i:Int)] w (.bool (tb.getD i false)):=by
 have cM:=hid (gJ h);have cF:=hid (sI h.pw hT i hi);obtain ⟨-,-,-,-,-,-,-,-,-,-,c10,-⟩:=h.cells;clear h;generalize tb.getD i false=v at*;go_enter Tryz.func22,Tryz.ntmps22
 go_wp2_with (first
  |(go_at_call 55;refine cM.out.mono ?_;rintro e w' ⟨rfl,rfl⟩)
  |(go_at_call 58;refine cF.out.mono ?_;rintro e w1 ⟨rfl,-,hb⟩;have HB:=hid hb;clear hb))
 go_ret
 exact ⟨rfl,HB.out⟩
theorem M9 (h:Sv W w F z c tb kp P f K r s) (hT:Tab W):Calls Tryz.prog 20 #[z.p] w fun e w'=>(∃A m,e=.returned (.slice A (cnt tb) m)/\UL w' A (tks tb tb.length))/\Bw w w':=by
 have cM:=hid (gJ h);have cF:=hid (Ki h.pw hT);obtain ⟨-,-,-,-,-,-,-,-,-,-,c10,-⟩:=h.cells;clear h;generalize cnt tb=n at*;go_enter Tryz.func20,Tryz.ntmps20
 go_wp2_with (first
  |(go_at_call 55;refine cM.out.mono ?_;rintro e w' ⟨rfl,rfl⟩)
  |(go_at_call 57;refine cF.out.mono ?_;rintro e w1 ⟨A,m,rfl,hv,-,hb⟩;have HB:=hid hb;have HV:=hid hv;clear hb hv))
 go_ret
 exact ⟨⟨A,m,rfl,UL.Jy HV.out⟩,HB.out⟩
theorem KH (h:Sv W w F z c tb kp P f K r s) (hT:Tab W):CB 24 #[z.p] w (.agg #[.int .u64 (r:Int),.int .u64 (s:Int)]):=by
 have hb1:Bw w (w.alloc (.cells #[.int .u64 0,.int .u64 0] 65)):=bAx;have hx:=bf.new 65 w #[.int .u64 0,.int .u64 0];have h1:=h.kept hT hb1;have cM:=hid (gJ h1);obtain ⟨S,ls,hd,-⟩:=h1.dev;have cS:=hid (Dv.uJ hd);obtain ⟨-,-,-,-,-,-,-,-,c8,-⟩:=h1.cells;clear h hd;go_enter Tryz.func24,Tryz.ntmps24
 go_upto_region 1 with fail
 generalize w.alloc (.cells #[.int .u64 0,.int .u64 0] 65)=w1 at*;obtain ⟨g,hg⟩:∃g,g=w.heap.size:=⟨_,rfl⟩
 rw [<-hg] at hx;simp only [<-hg];have HX:=hid hx;have HB:=hid (And.intro hg hb1);clear hx hg hb1 h1
 go_wp2_with (first
  |(go_at_call 55;refine cM.out.mono ?_;rintro e w' ⟨rfl,rfl⟩)
  |(go_at_call 25;refine cS.out.mono ?_;rintro e w2 ⟨rfl,hb⟩;replace HX:=hid (HX.out.kept hb);have HB2:=hid hb;clear hb c8)
  |(refine aK rfl (.tmp 2) (.tmp 11) 65 rfl rfl g #[.int .u64 0,.int .u64 0] #[.int .u64 (r:Int),.int .u64 (s:Int)] QA rfl (by simp [Value.oneCell']) rfl rfl HX.out ?_;intro w3 HZ hi;have HI:=hid hi;clear hi))
 have hl:=eO (P:=Tryz.prog) RG QA HZ.out;refine bodyPost_ret (v:= .agg #[.int .u64 (r:Int),.int .u64 (s:Int)]) (by simp [results,Tryz.results24,asAddr,hl]) rfl ⟨rfl,?_⟩;obtain ⟨hg,hb⟩:=HB.out;have hi:=HI.out;have hb2:=hb.trans (HB2.out.mono hb.size);exact hb2.trans ⟨hi.os,hi.tape,hi.output,hi.size,fun k hk=>hi.block k (Nat.lt_of_lt_of_le hk hb2.size) (by simp only [List.mem_singleton];omega)⟩
theorem En (h:Sv W w F z c tb kp P f K r s) (hT:Tab W) (hK:K<=900000):Calls Tryz.prog 26 #[z.p] w fun e w'=>e=.returned (0:Int)/\Out W w w' F z c tb kp P f (K+64) r s 0 c.frames.toNat/\Dvs w' z.g c f:=by
 have cM:=hid (gJ h);have cF:=hid (M7 h hT hK);obtain ⟨-,-,-,-,-,-,-,-,-,c9,-⟩:=h.cells;clear h;go_enter Tryz.func26,Tryz.ntmps26
 go_wp2_with (first
  |(go_at_call 55;refine cM.out.mono ?_;rintro e w' ⟨rfl,rfl⟩)
  |(go_at_call 59;refine cF.out.mono ?_;rintro e w1 ⟨rfl,ho⟩;have HO:=hid ho;clear ho))
 go_ret
 exact ⟨rfl,HO.out⟩
theorem Na (h:Sv W w F z c tb kp P f K r s) (hc:Okc c) (hT:Tab W) (i:Nat) (hi:i<4294967296):Calls Tryz.prog 37 #[z.p,.int .u32 (i:Int)] w fun e w'=>e=.returned (if thr c i then mZ tb i else 4:Int)/\Out W w w' F z c (if thr c i then jQ tb i else tb) kp P f K r s 0 0:=by
 have cM:=hid (pJ h hc i);have cF:=hid (GL h.pw hT i hi);obtain ⟨-,-,-,-,-,-,-,-,-,-,c10,-⟩:=h.cells;have H:=hid h;clear h;by_cases ht:thr c i
 . simp only [if_pos ht] at cM ⊢
   clear ht;go_enter Tryz.func37,Tryz.ntmps37
   go_wp2_with (first
    |(go_at_call 46;refine cM.out.mono ?_;rintro e w' ⟨rfl,rfl⟩)
    |(go_at_call 76;refine cF.out.mono ?_;rintro e w1 ⟨rfl,hp,hi⟩;have HP:=hid hp;have HI:=hid hi;clear hp hi))
   go_ret
   obtain ⟨h1,h2⟩:=El (i:=i) H.out.tb0;exact ⟨rfl,H.out.pool HP.out HI.out h1 h2⟩
 . simp only [if_neg ht] at cM ⊢
   clear ht cF;go_enter Tryz.func37,Tryz.ntmps37
   go_wp2_with (go_at_call 46;refine cM.out.mono ?_;rintro e w' ⟨rfl,rfl⟩)
   go_ret
   exact ⟨rfl,Out.same H.out hT (Below.refl _ _) 0 0⟩
end
end Sh
end Go.Proofs.YtjpjjnalpdpljaaGreatDoor
set_option maxHeartbeats 1000000
set_option maxRecDepth 100000
namespace Go.Proofs.YtjpjjnalpdpljaaGreatDoor
open Go.RowKit
open Go.Lib (hid)
namespace Sh
open Mem No Bt Po
open Ca (upF Few)
theorem lH {w:World} {g:Nat} {c:Cfg} (hx:bf 23 w g (aZ c)):w.cell? ⟨g,0,none⟩=some (.int .i64 c.blocks)/\w.cell? ⟨g,1,none⟩=some (.int .i64 c.bytes)/\w.cell? ⟨g,2,none⟩=some (.int .i64 c.frames):=⟨hx.cell rfl,hx.cell rfl,hx.cell rfl⟩
section
variable {W w:World} {c:Cfg}
def fls (ls:List (List UInt8)):Nat->List UInt8:=fun i=>(ls[i]?).getD []
theorem Nc {w2 w3:World} (hc:Okc c) (hT:Tab W) (hb:Bw W w2) {F:List Nat} {k g q R b m r s K:Nat} {ls:List (List UInt8)} (hcw:Ca.Cw w2 F k g (Ca.st0 m c.frames.toNat ls r s)) (hF:∀x,x∈F->W.heap.size<=x) (hm:(m:Int)=c.bytes) (hl:(ls.length:Int)=c.blocks) (hp:Pw w2 w3 q R b (tbN c.blocks.toNat)) (hK:r<=K/\s<=K) (kp:Nat) (hk:kp=0):Sv W (w3.alloc (.cells (KE c ⟨w3.heap.size,g,k,q,R,b⟩ kp) 83)) F ⟨w3.heap.size,g,k,q,R,b⟩ c (tbN c.blocks.toNat) kp (kpF kp) (fls ls) K r s:=by
 subst hk;have hn:=hc.nat;have hbp:=hp.rw.bel;have hb3:Bw W w3:=hb.trans (hbp.mono hb.size);have ha:Bw w3 (w3.alloc (.cells (KE c ⟨w3.heap.size,g,k,q,R,b⟩ 0) 83)):=bAx;have hpw:Pw W w3 q R b (tbN c.blocks.toNat):=⟨hp.hd,⟨hp.rw.row,hT.below hb3,hb3,Nat.le_trans hb.size hp.rw.hg,Nat.le_trans hb.size hp.rw.hb⟩,Nat.le_trans hb.size hp.hq⟩;have hlt:=hpw.lts;have hcl:Ca.Cl W w3 F k g (Ca.st0 m c.frames.toNat ls r s):=⟨hcw.kept hbp,hF,hb3⟩;have hq:=hp.hq;have hg:=hp.rw.hg;have hbb:=hp.rw.hb;have hbs:=hb.size;have hps:=hbp.size;refine ⟨⟨Ca.st0 m c.frames.toNat ls r s,⟨bf.new _ _ _,hcl.kept ha,hpw.kept hT ha,?_,?_,fun x hx=>?_⟩,⟨hcw.good,⟨hK.1,hK.2,fun j f hj=>(Ca.dG hj).elim⟩,?_,?_,?_,fun x=>?_,fun i=>Ca.KD _ _ _ _ _ _⟩,rfl,rfl⟩,?_,?_,.inl rfl⟩
 . show W.heap.size<=w3.heap.size
   omega
 . show w3.heap.size≠b
   omega
 . have:=hcw.lt x hx
   refine ⟨?_,?_,?_,?_⟩
   . show x≠w3.heap.size
     omega
   . show x≠q
     omega
   . show x≠R
     omega
   . show x≠b
     omega
 . show (List.replicate c.frames.toNat none).length=c.frames.toNat
   rw [List.length_replicate]
 . show m=c.bytes.toNat
   omega
 . show ls.length=c.blocks.toNat
   omega
 . rw [Ca.Hu]
   unfold kpF;rw [if_neg (fun hh=>absurd hh.2 (by omega))]
 . rw [sJ]
   omega
 . unfold tbN
   rw [fT _ _ _ _ _ (by rw [List.length_replicate];omega),if_pos rfl]
theorem Pk {S:List Nat} {g m r s K:Nat} {ls:List (List UInt8)} (hc:Okc c) (hT:Tab W) (hW:Bw W w) (hd:Dv.Dev w S g m ls r s) (hl:(ls.length:Int)=c.blocks) (hm:(m:Int)=c.bytes) (hS:∀x,x∈S->W.heap.size<=x) (hK:r<=K/\s<=K):Calls Tryz.prog 30 #[.agg (aZ c),g] w fun e w'=>(∃F z,e=.returned (.tuple #[z.p,(0:Int)])/\z.g=g/\Sv W w' F z c (tbN c.blocks.toNat) 0 (kpF 0) (fls ls) K r s)/\Bw w w':=by
 have hnn:=hc.nat
 have hn:1<=c.frames.toNat/\c.frames.toNat<=64/\(c.frames.toNat:Int)=c.frames:=by
  obtain ⟨-,-,h,-⟩:=hc.1;omega
 have cC:∀w,Hid (CB 61 #[.agg (aZ c)] w (.int .i64 0)):=fun w=>Cf.pq c.blocks c.bytes c.frames c.fan c.buffer c.leaf c.key c.val w hc.1
 have cN:∀{w},Dv.Dev w S g m ls r s->Hid (Calls Tryz.prog 65 #[g,c.frames] w fun e w'=>Ca.Qy w w' S g (Ca.st0 m c.frames.toNat ls r s) e):=fun h=>by
  have:=Ca.lg h c.frames.toNat hn.1 hn.2.1;rw [hn.2.2] at this;exact this
 have cB:∀{w},Dv.Dev w S g m ls r s->Hid (CB 32 #[g] w (.int .i64 (ls.length:Int))):=fun h=>(Dv.gM h).mono fun e w' ⟨he,hw⟩=>⟨he,hw▸Below.refl _ _⟩
 have cY:∀{w},Dv.Dev w S g m ls r s->Hid (CB 33 #[g] w (.int .i64 (m:Int))):=fun h=>(Dv.uI h).mono fun e w' ⟨he,hw⟩=>⟨he,hw▸Below.refl _ _⟩
 have hx:=bf.new 23 w (aZ c);have hb1:Bw w (w.alloc (.cells (aZ c) 23)):=bAx;have hd1:=hd.kept hb1;clear hd;go_enter Tryz.func30,Tryz.ntmps30
 go_upto_region 1 with fail
 generalize w.alloc (.cells (aZ c) 23)=w1 at*;obtain ⟨a,ha⟩:∃a,a=w.heap.size:=⟨_,rfl⟩
 rw [<-ha] at hx;simp only [<-ha];have HX:=hid hx;have HB:=hid hb1;have HD:=hid hd1;clear hx hb1 hd1 ha
 go_upto_region 6 with (first
  |(refine aL rfl (.tmp 2) 23 rfl xC a (aZ c) (vD rfl) rfl HX.out ?_)
  |(go_at_call 61;refine (cC _).out.mono ?_;rintro e w2 ⟨rfl,hb⟩;replace HB:=hid (HB.out.trans (hb.mono HB.out.size));replace HX:=hid (HX.out.kept hb);replace HD:=hid (HD.out.kept hb);obtain ⟨-,-,d2⟩:=lH HX.out;clear hb cC)
  |(go_at_call 65;refine (cN HD.out).out.mono ?_;rintro e w3 ⟨k,F,rfl,hcw,hgr,hb⟩;have HC:=hid (And.intro hcw (And.intro hgr HB.out.size));replace HB:=hid (HB.out.trans (hb.mono HB.out.size));replace HX:=hid (HX.out.kept hb);replace HD:=hid (HD.out.kept hb);clear hcw hgr hb cN d2))
 obtain ⟨d0,d1,-⟩:=lH HX.out;have t0:=ah.tc d0;have t1:=ah.tc d1;clear d0 d1;simp only [hl] at cB;simp only [hm] at cY;refine ah.aj [] [(0,[]),(1,[]),(2,[]),(3,[]),(4,[]),(5,[]),(6,[]),(7,[]),(8,[]),(9,[]),(10,[]),(11,[])] [] [] (by kernel_rfl) (by kernel_rfl) (by simp) ?_;simp only [ah.pick,ah.aO,ah.dL]
 repeat (refine ah.ak (fun K hK=>?_);go_simp;first|(refine hK _ ?_;clear hK K)|(apply Exists.intro;refine ⟨fun q=>?_,hK _ ?_⟩;(first|(go_at_call 32;exact (cB (HD.out.kept q.into.below)).out)|(go_at_call 33;exact (cY (HD.out.kept q.into.below)).out));clear hK K))
 refine ah.walk_nil ?_;intro w5 hb5 _;clear t0 t1;have hb5:Bw w3 w5:=hb5;simp only [lC,List.drop_zero,Nat.zero_add,Nat.reduceAdd];go_upto_region 8 with fail
 replace HB:=hid (HB.out.trans (hb5.mono HB.out.size));replace HX:=hid (HX.out.kept hb5);replace HC:=hid (And.intro (HC.out.1.kept hb5) HC.out.2);have hW5:=hW.trans (HB.out.mono hW.size);have cP:=lg w5 w5 (hT.below hW5) (Below.refl _ _) c.blocks.toNat (by omega) (by omega);rw [hnn.1] at cP;have CP:=hid cP
 have hS2:∀x,x∈F->W.heap.size<=x:=by
  intro x hx;rcases HC.out.2.1 x hx with h'|h'
  . exact hS x h'
  . exact Nat.le_trans (Nat.le_trans hW.size HC.out.2.2) h'
 have HS:=hid hS2;have HW5:=hid hW5;obtain ⟨d0,-⟩:=lH HX.out;clear cP hW5 cB cY HD hb5 hS2;go_upto_region 9 with (go_at_call 66;refine CP.out.mono ?_;rintro e w6 ⟨q,R,b,rfl,hp⟩;have HP:=hid hp;replace HX:=hid (HX.out.kept hp.rw.bel);replace HB:=hid (HB.out.trans (hp.rw.bel.mono HB.out.size));clear hp CP d0)
 have d0:w6.cell? ⟨a,0,none⟩=some (.int .i64 c.blocks):=HX.out.cell rfl;have d1:w6.cell? ⟨a,1,none⟩=some (.int .i64 c.bytes):=HX.out.cell rfl;have d2:w6.cell? ⟨a,2,none⟩=some (.int .i64 c.frames):=HX.out.cell rfl;have d3:w6.cell? ⟨a,3,none⟩=some (.int .i64 c.fan):=HX.out.cell rfl;have d4:w6.cell? ⟨a,4,none⟩=some (.int .i64 c.buffer):=HX.out.cell rfl;have d5:w6.cell? ⟨a,5,none⟩=some (.int .i64 c.leaf):=HX.out.cell rfl;have d6:w6.cell? ⟨a,6,none⟩=some (.int .i64 c.key):=HX.out.cell rfl;have d7:w6.cell? ⟨a,7,none⟩=some (.int .i64 c.val):=HX.out.cell rfl;go_wp2_with fail
 refine bodyPost_ret (v:= .tuple #[w6.heap.size,(0:Int)]) (by simp [results,Tryz.results30,go_sem]) rfl ⟨⟨F,⟨w6.heap.size,g,k,q,R,b⟩,rfl,rfl,?_⟩,?_⟩
 . exact Nc hc hT HW5.out HC.out.1 HS.out hm hl HP.out hK 0 rfl
 . exact HB.out.trans ((Below.refl _ _).alloc HB.out.size _)
end
end Sh
end Go.Proofs.YtjpjjnalpdpljaaGreatDoor
