import Derived.Test.YtjpjjnalpdpljaaGreatDoorProg
import Derived.Test.YtjpjjnalpdpljaaGreatDoorPkAD
import Derived.Laws.Concat
import Derived.Lib.ConvBytes
import Derived.ProofKit
import Derived.Test.YtjpjjnalpdpljaaGreatDoorPkBA
import Derived.Test.YtjpjjnalpdpljaaGreatDoorPkBB
import Derived.Test.YtjpjjnalpdpljaaGreatDoorPqConfR
import Derived.Test.YtjpjjnalpdpljaaGreatDoorPqDrift
import Derived.Laws.DeepStrings4
import Derived.Test.YtjpjjnalpdpljaaGreatDoorPkAK
import Derived.Deep.RegionWith
import Derived.Test.YtjpjjnalpdpljaaGreatDoorPkBC
import Derived.Test.YtjpjjnalpdpljaaGreatDoorPkAT
import Derived.Test.YtjpjjnalpdpljaaGreatDoorPkAC
set_option maxHeartbeats 1000000
set_option maxRecDepth 100000
namespace Go.Proofs.YtjpjjnalpdpljaaGreatDoor
open Go.RowKit
namespace No
open Mem Lx Bu Lf Fa
open Wd (be val be_length val_be isW)
structure Bx2 (W:World) (g:Nat) (X Y:Obj) (w:World):Prop where
 below:Below W.heap.size W w
 x:w.heap[g]? =some X
 y:w.heap[g+1]? =some Y
theorem Bx2.kept {W w w':World} {g:Nat} {X Y:Obj} (h:Bx2 W g X Y w) (hb:Below w.heap.size w w'):Bx2 W g X Y w':=⟨h.below.trans (hb.mono h.below.size),kept3 h.x hb,kept3 h.y hb⟩
theorem Bx2.new (W:World) (X Y:Obj):Bx2 W W.heap.size X Y ((W.alloc X).alloc Y):=⟨(two_new W X Y).2.2,(two_new W X Y).1,(two_new W X Y).2.1⟩
section
variable {α:Type} {A:List UInt8} {f:α->List UInt8} {L:List α} {S k:Nat} {x:α}
end
end No
end Go.Proofs.YtjpjjnalpdpljaaGreatDoor
namespace Go.Proofs.YtjpjjnalpdpljaaGreatDoor
open Go.RowKit
namespace No
open Mem Lx Bu Lf Fa
open Wd (be val be_length val_be isW val_snoc val_lt)
def EncP (c:Cfg) (n:Nd) (s:List UInt8) (f:Int):Prop:=
 (¬Cf.Right c.blocks c.bytes c.frames c.fan c.buffer c.leaf c.key c.val/\s=[]/\f=2)\/
 (Cf.Right c.blocks c.bytes c.frames c.fan c.buffer c.leaf c.key c.val/\¬RightA c n/\s=[]/\f=3)\/(RightA c n/\s=blockL c n/\f=0)
theorem EncP.some (c:Cfg) (n:Nd):∃s f,EncP c n s f:=by
 by_cases h1:Cf.Right c.blocks c.bytes c.frames c.fan c.buffer c.leaf c.key c.val
 . by_cases h2:RightA c n
   . exact ⟨_,_, .inr (.inr ⟨h2,rfl,rfl⟩)⟩
   . exact ⟨_,_, .inr (.inl ⟨h1,h2,rfl,rfl⟩)⟩
 . exact ⟨_,_, .inl ⟨h1,rfl,rfl⟩⟩
theorem EncP.one {c:Cfg} {n:Nd} {s s':List UInt8} {f f':Int} (h:EncP c n s f) (h':EncP c n s' f'):s=s'/\f=f':=by
 rcases h with ⟨h1,rfl,rfl⟩|⟨h1,h2,rfl,rfl⟩|⟨h1,rfl,rfl⟩<;>rcases h' with ⟨k1,rfl,rfl⟩|⟨k1,k2,rfl,rfl⟩|⟨k1,rfl,rfl⟩<;>first|exact ⟨rfl,rfl⟩|exact absurd k1 h1|exact absurd h1 k1|exact absurd k1.1 h1|exact absurd h1.1 k1|exact absurd k1 h2|exact absurd h1 k2
end No
end Go.Proofs.YtjpjjnalpdpljaaGreatDoor
namespace Go.Proofs.YtjpjjnalpdpljaaGreatDoor
open Go.RowKit
namespace No
open Mem Lx Bu Lf Fa
open Wd (be val be_length val_be isW)
def nilN:Nd:=⟨0,[],[],[],[]⟩
def DecP (c:Cfg) (b:List UInt8) (n:Nd) (f:Int):Prop:=
 (¬Cf.Right c.blocks c.bytes c.frames c.fan c.buffer c.leaf c.key c.val/\n=nilN/\f=2)\/
 (Cf.Right c.blocks c.bytes c.frames c.fan c.buffer c.leaf c.key c.val/\(∀m,¬(RightA c m/\blockL c m=b))/\n=nilN/\f=12)\/(RightA c n/\blockL c n=b/\f=0)
theorem DecP.one {c:Cfg} {b:List UInt8} {n n':Nd} {f f':Int} (h:DecP c b n f) (h':DecP c b n' f'):n=n'/\f=f':=by
 rcases h with ⟨h1,rfl,rfl⟩|⟨h1,h2,rfl,rfl⟩|⟨h1,h2,rfl⟩<;>rcases h' with ⟨k1,rfl,rfl⟩|⟨k1,k2,rfl,rfl⟩|⟨k1,k2,rfl⟩<;>first|exact ⟨rfl,rfl⟩|exact absurd k1 h1|exact absurd h1 k1|exact absurd k1.1 h1|exact absurd h1.1 k1|exact absurd ⟨k1,k2⟩ (h2 _)|exact absurd ⟨h1,h2⟩ (k2 _)|exact ⟨block_inj h1 k1 (h2.trans k2.symm),rfl⟩
def EvDec (c:Cfg) (b:List UInt8) (v:Value) (w:World):Prop:=∃n f z,v= .tuple #[.agg (ndCs n z), .int .i64 f]/\NdIn w n z/\DecP c b n f
theorem NdIn.nil (w:World):NdIn w nilN ⟨none,0,none,0,none,0,none,0⟩:=⟨RC.nil _ _ _,RC.nil _ _ _,RC.nil _ _ _,RC.nil _ _ _⟩
structure Dc (W w0:World) (g s:Nat) (X Y N:Obj) (w:World):Prop where
 bx:Bx2 W g X Y w
 box:w.heap[s]? =some N
 at_:W.heap.size<=g
 lo:g+1<w0.heap.size
 ls:s<w0.heap.size
 size:w0.heap.size<=w.heap.size
 sne:W.heap.size<=s/\g≠s/\g+1≠s
section
variable {W w0 w w':World} {g s i:Nat} {X Y N:Obj}
theorem Dc.kept (h:Dc W w0 g s X Y N w) (hb:Below w.heap.size w w'):Dc W w0 g s X Y N w':=⟨h.bx.kept hb,kept3 h.box hb,h.at_,h.lo,h.ls,Nat.le_trans h.size hb.size,h.sne⟩
theorem Dc.grow (h:Dc W w0 g s X Y N w) (hb:Below w0.heap.size w w'):Dc W w0 g s X Y N w':=by
 have h1:=h.lo
 have h2:=h.ls
 have h3:=h.size
 have h4:=h.at_
 exact ⟨⟨h.bx.below.trans (hb.mono (by omega)),(hb.block g (by omega)).trans h.bx.x,(hb.block (g+1) (by omega)).trans h.bx.y⟩,(hb.block s h2).trans h.box,h.at_,h.lo,h.ls,Nat.le_trans h.size hb.size,h.sne⟩
theorem Dc.set (h:Dc W w0 g s X Y N w) (v:Value) (N':Obj) (hn:(w.setCell ⟨s,i,none⟩ v).heap[s]? =some N'):Dc W w0 g s X Y N' (w.setCell ⟨s,i,none⟩ v):=by
 obtain ⟨h1,h2,h3⟩:=h.sne
 exact ⟨⟨h.bx.below.setCell h1 _,(set_other _ h2).trans h.bx.x,(set_other _ h3).trans h.bx.y⟩,hn,h.at_,h.lo,h.ls,by simpa using h.size,h.sne⟩
end
end No
end Go.Proofs.YtjpjjnalpdpljaaGreatDoor
namespace Go.Proofs.YtjpjjnalpdpljaaGreatDoor
open Go.RowKit
namespace No
open Mem Lx Bu Lf Fa
open Wd (be val be_length val_be isW)
theorem kdinfD:(Tryz.prog.info? 25).map (fun i=>(i.zero,i.size,i.bytes))=some (some (.int .u32 0),1,4):=by kernel_rfl
theorem stinfD:(Tryz.prog.info? 9).map (fun i=>(i.zero,i.size,i.bytes))=some (some (.string ⟨#[]⟩),1,16):=by kernel_rfl
theorem sub_le (b:List UInt8) (i n:Nat):(strOf (subL b i n)).size<=b.length:=by
 rw [strOf_size]
 unfold subL
 rw [List.length_take,List.length_drop]
 omega
end No
end Go.Proofs.YtjpjjnalpdpljaaGreatDoor
namespace Go.Proofs.YtjpjjnalpdpljaaGreatDoor
open Go.RowKit
namespace No
open Mem Lx Bu Lf Fa
def cC:Cfg:=⟨9,200,8,8,16,16,2,1⟩
def cN:Nd:=⟨0,[],[],[],[(⟨#[97]⟩,⟨#[55]⟩)]⟩
end No
end Go.Proofs.YtjpjjnalpdpljaaGreatDoor
namespace Go.Proofs.YtjpjjnalpdpljaaGreatDoor
open Go.RowKit
namespace Sh
open Mem No Bt Po
open Ca (upF)
theorem block_zero (c:Cfg) (n:Nd) (M:Nat):blockL c n≠List.replicate M 0:=fun h=>by
 have h1:(blockL c n)[0]? =some 1\/(blockL c n)[0]? =some 2:=by
  unfold blockL slotL bodyL
  split
  . exact .inl rfl
  . exact .inr rfl
 rw [h,List.getElem?_replicate] at h1
 rcases h1 with h1|h1<;>split at h1<;>first|exact absurd (Option.some.inj h1) (by decide)|cases h1
structure NdW (W:World) (n:Nd) (a:At):Prop where
 nd:NdIn W n a
 fit:Fit n
 kid:∀k,k∈n.kids->k<4294967296
theorem NdW.kept {W W':World} {n:Nd} {a:At} (h:NdW W n a) (hb:Below W.heap.size W W'):NdW W' n a:=⟨h.nd.kept hb,h.fit,h.kid⟩
def SlOk (W:World) (c:Cfg) (M:Nat) (x:Sl) (b:List UInt8):Prop:=(x.kd=0/\x=sl0/\b=List.replicate M 0)\/(x.kd=1/\RightA c x.n/\b=blockL c x.n/\NdW W x.n x.a)\/x.kd=2
def Sr (W:World) (s:Ds) (M:Nat) (f:Nat->List UInt8):Prop:=∀i x,0<i->s.l[i]? =some x->SlOk W s.c M x (f i)
section
variable {W W':World} {s s':Ds} {M i:Nat} {f:Nat->List UInt8} {x:Sl} {y:List UInt8}
theorem SlOk.kept {c:Cfg} (h:SlOk W c M x y) (hb:Below W.heap.size W W'):SlOk W' c M x y:=by
 rcases h with h|⟨h1,h2,h3,h4⟩|h
 . exact .inl h
 . exact .inr (.inl ⟨h1,h2,h3,h4.kept hb⟩)
 . exact .inr (.inr h)
theorem Sr.kept (h:Sr W s M f) (hb:Below W.heap.size W W'):Sr W' s M f:=fun i x h0 hx=>(h i x h0 hx).kept hb
theorem Sr.new (c:Cfg) (n M:Nat) (hd:List Bool) (k:Nat) {f:Nat->List UInt8} (hf:∀i,i<n->f i=List.replicate M 0):Sr W ⟨c,List.replicate n sl0,hd,k⟩ M f:=fun i x _ hx=>by
 simp only [List.getElem?_replicate] at hx
 split at hx
 . rename_i hi
   obtain rfl:=Option.some.inj hx
   exact .inl ⟨rfl,rfl,hf i hi⟩
 . cases hx
theorem Sr.same (h:Sr W s M f) (hl:s'.l=s.l) (hc:s'.c=s.c):Sr W s' M f:=fun i x h0 hx=>by
 rw [hl] at hx
 rw [hc]
 exact h i x h0 hx
theorem Sr.put (h:Sr W s M f) {hd:List Bool} {k:Nat} (hx:SlOk W s.c M x y):Sr W (putS { s with held:=hd,kept:=k } i x) M (upF f i y):=fun j z h0 hz=>by
 have hz':(s.l.set i x)[j]? =some z:=hz
 show SlOk W s.c M z (upF f i y j)
 unfold upF
 by_cases e:j=i
 . subst e
   rw [if_pos rfl]
   rw [List.getElem?_set] at hz'
   rw [if_pos rfl] at hz'
   split at hz'
   . obtain rfl:=Option.some.inj hz'
     exact hx
   . cases hz'
 . rw [if_neg e]
   rw [List.getElem?_set_ne (fun e'=>e e'.symm)] at hz'
   exact h j z h0 hz'
theorem Sr.load (h:Sr W s M f) (hR:Cf.Right s.c.blocks s.c.bytes s.c.frames s.c.fan s.c.buffer s.c.leaf s.c.key s.c.val) (hl:(s.l.length:Int)=s.c.blocks) (ht:there s i) {n:Nd} {e:Int} (hd:DecP s.c (f i) n e) (hk:(ldS s i).2.2=true):e=(ldS s i).2.1/\n=(ldS s i).1.n:=by
 have hlt:=sl_in hl ht
 obtain ⟨x,hx⟩:∃x,s.l[i]? =some x:=⟨_,List.getElem?_eq_getElem hlt⟩
 have hg:s.l.getD i sl0=x:=by rw [List.getD_eq_getElem?_getD,hx];rfl
 have h1:=h i x ht.1 hx
 unfold ldS at hk ⊢
 rw [if_pos ht,hg] at hk ⊢
 rcases h1 with ⟨h1,-,h2⟩|⟨h1,h2,h3,-⟩|h1
 . rw [if_pos h1]
   rw [h2] at hd
   have h9:DecP s.c (List.replicate M 0) nilN 12:= .inr (.inl ⟨hR,fun m hm=>block_zero _ _ _ hm.2,rfl,rfl⟩)
   obtain ⟨rfl,rfl⟩:=hd.one h9
   exact ⟨rfl,rfl⟩
 . rw [if_neg (by omega)]
   rw [h3] at hd
   obtain ⟨rfl,rfl⟩:=hd.one (.inr (.inr ⟨h2,rfl,rfl⟩))
   exact ⟨rfl,rfl⟩
 . rw [if_neg (by omega)] at hk
   exact absurd (of_decide_eq_true hk) (by omega)
end
end Sh
end Go.Proofs.YtjpjjnalpdpljaaGreatDoor
namespace Go.Proofs.YtjpjjnalpdpljaaGreatDoor
open Go.RowKit
namespace Sh
open Mem No Bt Po
open Ca (upF)
theorem WantR.one {s s1 s2:Ds} {x:Ac} {r:Bool} {k1 k2:Nat} {e1 e2:Int} (h:WantR s x r s1 k1 e1) (h':WantR s x r s2 k2 e2) (hf:∀t j,Got s.held 1 t [j]->free s.held≠0):s1=s2/\k1=k2/\e1=e2:=by
 unfold WantR at h h'
 rcases h with ⟨hk,a,b,c⟩|⟨hk,hr,a,b,c⟩|⟨hk,hr,h0,a,b,c⟩|⟨hk,hr,⟨t,hg,a⟩,c⟩|⟨hk,a,b,c⟩|⟨hk,a,b,c⟩|⟨hk,a,b,c⟩|⟨hk,a,b,c⟩<;>
 rcases h' with ⟨hk',a',b',c'⟩|⟨hk',hr',a',b',c'⟩|⟨hk',hr',h0',a',b',c'⟩|⟨hk',hr',⟨t',hg',a'⟩,c'⟩|⟨hk',a',b',c'⟩|⟨hk',a',b',c'⟩|⟨hk',a',b',c'⟩|⟨hk',a',b',c'⟩<;>
 first
  |exact ⟨a.trans a'.symm,b.trans b'.symm,c.trans c'.symm⟩
  |(exfalso;omega)
  |exact absurd (hr.symm.trans hr') (by decide)
  |exact absurd h0 (hf _ _ hg')
  |exact absurd h0' (hf _ _ hg)
  |skip
 obtain ⟨rfl,hj⟩:=hg.one hg'
 obtain rfl:k1=k2:=by simpa using hj
 exact ⟨a.trans a'.symm,rfl,c.trans c'.symm⟩
def FileR (s:Ds) (x:Ac) (r:Bool) (k:Nat) (e:Int) (f f':Nat->List UInt8):Prop:=
 ((x.kd=0\/x.kd=1)/\e=0/\there s x.i/\r=true/\f'=upF f x.i (blockL s.c x.n))\/
 (x.kd=2/\e=0/\f'=upF f k (blockL s.c x.n))\/
 (x.kd=3/\e=0/\∃z,f'=upF f x.i z)\/
 ((x.kd=0\/x.kd=1\/x.kd=2\/x.kd=3->e≠0)/\f'=f)
section
variable {W:World} {s s':Ds} {x:Ac} {r:Bool} {k M:Nat} {e:Int} {f f':Nat->List UInt8}
theorem Sr.step (h:Sr W s M f) (hw:WantR s x r s' k e) (hf:FileR s x r k e f f') (hr:r=true->RightA s.c x.n) (hn:NdW W x.n x.a):Sr W s' M f':=by
 have put:∀(hd:List Bool) (kp i:Nat),r=true->Sr W (putS { s with held:=hd,kept:=kp } i ⟨1,x.n,x.a⟩) M (upF f i (blockL s.c x.n)):=fun hd kp i hr1=>h.put (.inr (.inl ⟨rfl,hr hr1,rfl,hn⟩))
 rcases hw with ⟨hk,rfl,-,he⟩|⟨hk,hr0,rfl,-,he⟩|⟨hk,hr0,h0,rfl,-,he⟩|⟨hk,hr0,⟨t,hg,rfl⟩,he⟩|⟨hk,rfl,-,he⟩|⟨hk,rfl,-,he⟩|⟨hk,rfl,-,he⟩|⟨hk,rfl,-,he⟩
 . rcases hf with ⟨-,h1,h2,h3,rfl⟩|⟨h1,-,-⟩|⟨h1,-,-⟩|⟨h1,rfl⟩
   . unfold svS
     rw [if_pos h2,if_pos h3]
     exact put s.held s.kept x.i h3
   . omega
   . omega
   . have h2:=h1 (by omega)
     unfold svS
     split
     . rename_i ht
       split
       . rename_i hr1
         refine absurd ?_ h2
         rw [he]
         unfold svE
         rw [if_pos ht,if_pos hr1]
       . exact h
     . exact h
 . rcases hf with ⟨h1,-⟩|⟨-,h1,-⟩|⟨h1,-⟩|⟨-,rfl⟩
   . omega
   . omega
   . omega
   . exact h
 . rcases hf with ⟨h1,-⟩|⟨-,h1,-⟩|⟨h1,-⟩|⟨-,rfl⟩
   . omega
   . omega
   . omega
   . exact h
 . rcases hf with ⟨h1,-⟩|⟨-,-,rfl⟩|⟨h1,-⟩|⟨h1,rfl⟩
   . omega
   . exact put t s.kept k hr0
   . omega
   . exact absurd he (h1 (by omega))
 . rcases hf with ⟨h1,-⟩|⟨h1,-⟩|⟨-,h1,z,rfl⟩|⟨h1,rfl⟩
   . omega
   . omega
   . unfold frE at he
     unfold frS
     split at he
     . rename_i ht
       rw [if_pos ht]
       split at he
       . omega
       . rename_i hkp
         rw [if_neg hkp,if_pos (by omega)]
         exact h.put (hd:=gvT s.held x.i) (k:=s.kept) (.inr (.inr rfl))
     . omega
   . have h2:=h1 (by omega)
     unfold frE at he
     unfold frS
     split at he
     . rename_i ht
       rw [if_pos ht]
       split at he
       . rename_i hkp
         rw [if_pos hkp]
         exact h
       . rename_i hkp
         rw [if_neg hkp,if_neg (by omega)]
         exact h
     . rename_i ht
       rw [if_neg ht]
       exact h
 . rcases hf with ⟨h1,-⟩|⟨h1,-⟩|⟨h1,-⟩|⟨-,rfl⟩
   . omega
   . omega
   . omega
   . obtain ⟨hL,hl,-⟩:=like_mr (s:=s) (i:=x.i)
     exact h.same hl hL.c
 . rcases hf with ⟨h1,-⟩|⟨h1,-⟩|⟨h1,-⟩|⟨-,rfl⟩
   . omega
   . omega
   . omega
   . obtain ⟨hL,hl,-⟩:=like_kp (s:=s) (i:=x.i)
     exact h.same hl hL.c
 . rcases hf with ⟨h1,-⟩|⟨h1,-⟩|⟨h1,-⟩|⟨-,rfl⟩
   . omega
   . omega
   . omega
   . exact h
end
end Sh
end Go.Proofs.YtjpjjnalpdpljaaGreatDoor
namespace Go.Proofs.YtjpjjnalpdpljaaGreatDoor
open Go.RowKit
namespace Sh
open Mem No Bu
def Lt (c:Cfg):Prop:=Cf.Right c.blocks c.bytes c.frames c.fan c.buffer c.leaf c.key c.val/\c.bytes<=3000/\c.blocks<=400
theorem Light_any (c:Cfg) (W:World) (v:Bool) (hv:v=true↔Lt c):Calls Tryz.prog 7 #[.agg (cfCs c)] W fun e w'=>e= .returned (.bool v)/\Below W.heap.size W w':=by
 obtain ⟨cB,cY,cF,cN,cU,cL,cKy,cV⟩:=c
 unfold cfCs
 unfold Lt at hv
 simp only at hv ⊢
 by_cases hq9:Cf.Right cB cY cF cN cU cL cKy cV
 . have cQ:∀w,Hid (Calls Tryz.prog 31 #[.agg #[.int .i64 cB, .int .i64 cY, .int .i64 cF, .int .i64 cN, .int .i64 cU, .int .i64 cL, .int .i64 cKy, .int .i64 cV]] w fun e w'=>e= .returned (.bool true)/\Below w.heap.size w w'):=fun w=>Cf.RRight_yes cB cY cF cN cU cL cKy cV w hq9
   by_cases h1:cY<=3000
   . by_cases h2:cB<=400
     . obtain rfl:v=true:=hv.2 ⟨hq9,h1,h2⟩
       clear hv hq9
       go_enter Tryz.func7,Tryz.ntmps7
       go_upto_region 1 with fail
       have hx:=heap_alloc_new W (.cells #[.int .i64 cB, .int .i64 cY, .int .i64 cF, .int .i64 cN, .int .i64 cU, .int .i64 cL, .int .i64 cKy, .int .i64 cV] 23)
       have hb:Below W.heap.size W (W.alloc (.cells #[.int .i64 cB, .int .i64 cY, .int .i64 cF, .int .i64 cN, .int .i64 cU, .int .i64 cL, .int .i64 cKy, .int .i64 cV] 23)):=(Below.refl _ _).alloc (Nat.le_refl _) _
       generalize W.alloc (.cells #[.int .i64 cB, .int .i64 cY, .int .i64 cF, .int .i64 cN, .int .i64 cU, .int .i64 cL, .int .i64 cKy, .int .i64 cV] 23)=w1 at*
       obtain ⟨g,hg⟩:∃g,g=W.heap.size:=⟨_,rfl⟩
       rw [<-hg] at hx
       simp only [<-hg]
       clear hg
       obtain ⟨a0,a1,a2,a3,a4,a5,a6,a7⟩:=Cf.box8 hx
       have HX:=Lib.hid hx
       have HB:=Lib.hid hb
       clear hx hb
       go_wp2_with (go_at_call 31;refine (cQ _).out.mono ?_;rintro e w2 ⟨rfl,hb⟩;replace HX:=Lib.hid (kept3 HX.out hb);replace HB:=Lib.hid (HB.out.trans (hb.mono HB.out.size));clear hb cQ a0 a1 a2 a3 a4 a5 a6 a7;obtain ⟨a0,a1,a2,a3,a4,a5,a6,a7⟩:=Cf.box8 HX.out)
       go_ret
       exact ⟨rfl,HB.out⟩
     . have h2n:decide (cB<=400)=false:=by simpa using h2
       obtain rfl:v=false:=Bool.eq_false_iff.2 fun h=>h2 (hv.1 h).2.2
       clear hv hq9
       go_enter Tryz.func7,Tryz.ntmps7
       go_upto_region 1 with fail
       have hx:=heap_alloc_new W (.cells #[.int .i64 cB, .int .i64 cY, .int .i64 cF, .int .i64 cN, .int .i64 cU, .int .i64 cL, .int .i64 cKy, .int .i64 cV] 23)
       have hb:Below W.heap.size W (W.alloc (.cells #[.int .i64 cB, .int .i64 cY, .int .i64 cF, .int .i64 cN, .int .i64 cU, .int .i64 cL, .int .i64 cKy, .int .i64 cV] 23)):=(Below.refl _ _).alloc (Nat.le_refl _) _
       generalize W.alloc (.cells #[.int .i64 cB, .int .i64 cY, .int .i64 cF, .int .i64 cN, .int .i64 cU, .int .i64 cL, .int .i64 cKy, .int .i64 cV] 23)=w1 at*
       obtain ⟨g,hg⟩:∃g,g=W.heap.size:=⟨_,rfl⟩
       rw [<-hg] at hx
       simp only [<-hg]
       clear hg
       obtain ⟨a0,a1,a2,a3,a4,a5,a6,a7⟩:=Cf.box8 hx
       have HX:=Lib.hid hx
       have HB:=Lib.hid hb
       clear hx hb
       go_wp2_with (go_at_call 31;refine (cQ _).out.mono ?_;rintro e w2 ⟨rfl,hb⟩;replace HX:=Lib.hid (kept3 HX.out hb);replace HB:=Lib.hid (HB.out.trans (hb.mono HB.out.size));clear hb cQ a0 a1 a2 a3 a4 a5 a6 a7;obtain ⟨a0,a1,a2,a3,a4,a5,a6,a7⟩:=Cf.box8 HX.out)
       go_ret
       exact ⟨rfl,HB.out⟩
   . have h1n:decide (cY<=3000)=false:=by simpa using h1
     obtain rfl:v=false:=Bool.eq_false_iff.2 fun h=>h1 (hv.1 h).2.1
     clear hv hq9
     go_enter Tryz.func7,Tryz.ntmps7
     go_upto_region 1 with fail
     have hx:=heap_alloc_new W (.cells #[.int .i64 cB, .int .i64 cY, .int .i64 cF, .int .i64 cN, .int .i64 cU, .int .i64 cL, .int .i64 cKy, .int .i64 cV] 23)
     have hb:Below W.heap.size W (W.alloc (.cells #[.int .i64 cB, .int .i64 cY, .int .i64 cF, .int .i64 cN, .int .i64 cU, .int .i64 cL, .int .i64 cKy, .int .i64 cV] 23)):=(Below.refl _ _).alloc (Nat.le_refl _) _
     generalize W.alloc (.cells #[.int .i64 cB, .int .i64 cY, .int .i64 cF, .int .i64 cN, .int .i64 cU, .int .i64 cL, .int .i64 cKy, .int .i64 cV] 23)=w1 at*
     obtain ⟨g,hg⟩:∃g,g=W.heap.size:=⟨_,rfl⟩
     rw [<-hg] at hx
     simp only [<-hg]
     clear hg
     obtain ⟨a0,a1,a2,a3,a4,a5,a6,a7⟩:=Cf.box8 hx
     have HX:=Lib.hid hx
     have HB:=Lib.hid hb
     clear hx hb
     go_wp2_with (go_at_call 31;refine (cQ _).out.mono ?_;rintro e w2 ⟨rfl,hb⟩;replace HX:=Lib.hid (kept3 HX.out hb);replace HB:=Lib.hid (HB.out.trans (hb.mono HB.out.size));clear hb cQ a0 a1 a2 a3 a4 a5 a6 a7;obtain ⟨a0,a1,a2,a3,a4,a5,a6,a7⟩:=Cf.box8 HX.out)
     go_ret
     exact ⟨rfl,HB.out⟩
 . have cQ:∀w,Hid (Calls Tryz.prog 31 #[.agg #[.int .i64 cB, .int .i64 cY, .int .i64 cF, .int .i64 cN, .int .i64 cU, .int .i64 cL, .int .i64 cKy, .int .i64 cV]] w fun e w'=>e= .returned (.bool false)/\Below w.heap.size w w'):=fun w=>Cf.RRight_no cB cY cF cN cU cL cKy cV w hq9
   obtain rfl:v=false:=Bool.eq_false_iff.2 fun h=>hq9 (hv.1 h).1
   clear hv hq9
   go_enter Tryz.func7,Tryz.ntmps7
   go_upto_region 1 with fail
   have hx:=heap_alloc_new W (.cells #[.int .i64 cB, .int .i64 cY, .int .i64 cF, .int .i64 cN, .int .i64 cU, .int .i64 cL, .int .i64 cKy, .int .i64 cV] 23)
   have hb:Below W.heap.size W (W.alloc (.cells #[.int .i64 cB, .int .i64 cY, .int .i64 cF, .int .i64 cN, .int .i64 cU, .int .i64 cL, .int .i64 cKy, .int .i64 cV] 23)):=(Below.refl _ _).alloc (Nat.le_refl _) _
   generalize W.alloc (.cells #[.int .i64 cB, .int .i64 cY, .int .i64 cF, .int .i64 cN, .int .i64 cU, .int .i64 cL, .int .i64 cKy, .int .i64 cV] 23)=w1 at*
   obtain ⟨g,hg⟩:∃g,g=W.heap.size:=⟨_,rfl⟩
   rw [<-hg] at hx
   simp only [<-hg]
   clear hg
   obtain ⟨a0,a1,a2,a3,a4,a5,a6,a7⟩:=Cf.box8 hx
   have HX:=Lib.hid hx
   have HB:=Lib.hid hb
   clear hx hb
   go_wp2_with (go_at_call 31;refine (cQ _).out.mono ?_;rintro e w2 ⟨rfl,hb⟩;replace HX:=Lib.hid (kept3 HX.out hb);replace HB:=Lib.hid (HB.out.trans (hb.mono HB.out.size));clear hb cQ a0 a1 a2 a3 a4 a5 a6 a7;obtain ⟨a0,a1,a2,a3,a4,a5,a6,a7⟩:=Cf.box8 HX.out)
   go_ret
   exact ⟨rfl,HB.out⟩
end Sh
end Go.Proofs.YtjpjjnalpdpljaaGreatDoor
