import Derived.Test.YtjpjjnalpdpljaaGreatDoorPqNodeR2
import Derived.Test.YtjpjjnalpdpljaaGreatDoorProg
import Derived.Test.YtjpjjnalpdpljaaGreatDoorPkAD
import Derived.Laws.Concat
import Derived.Lib.ConvBytes
import Derived.ProofKit
import Derived.Test.YtjpjjnalpdpljaaGreatDoorPkAV
import Derived.Test.YtjpjjnalpdpljaaGreatDoorPkAL
import Derived.Test.YtjpjjnalpdpljaaGreatDoorPqDrift
import Derived.Laws.DeepStrings4
import Derived.Test.YtjpjjnalpdpljaaGreatDoorPkAW
import Derived.Test.YtjpjjnalpdpljaaGreatDoorPkAU
import Derived.Test.YtjpjjnalpdpljaaGreatDoorPqCodeC2
import Derived.Test.YtjpjjnalpdpljaaGreatDoorPkAB
set_option maxHeartbeats 8000000
set_option maxRecDepth 100000
namespace Go.Proofs.YtjpjjnalpdpljaaGreatDoor
open Go.RowKit
open Go.Lib (hid)
namespace No
open Mem Lx Bu Lf Fa
theorem vL {W:World} (c:Cfg) (lo hi:ByteArray) (top:Bool) {n:Nd} {a:At} (h:gK W n a) (hf:Sz n) (jr:∀k,k∈n.kids->k<4294967296) (hlo:lo.size<=maxLen):Calls Tryz.prog 118 #[.agg (aZ c),fu lo hi top,.agg (bL n a)] W fun e w'=>(∃v:Bool,e=.returned (.bool v)/\(v=true↔gI c lo hi top n))/\Bw W w':=by
 obtain ⟨r,hr⟩:=bU (nE c lo hi top n);obtain ⟨s,hs⟩:=bU (nG c lo hi top n);have c1:∀w,Bw W w->Hid (CB 159 #[.agg (aZ c),fu lo hi top,.agg (bL n a)] w (.bool r)):=fun w hb=>(ED c lo hi top (h.kept hb) hf hlo).mono fun e w' ⟨⟨v,he,hv⟩,hb⟩=>⟨by rw [he,dA hv hr],hb⟩
 have c2:∀w,Bw W w->Hid (CB 160 #[.agg (aZ c),fu lo hi top,.agg (bL n a)] w (.bool s)):=fun w hb=>(EY c lo hi top (h.kept hb) hf jr hlo).mono fun e w' ⟨⟨v,he,hv⟩,hb⟩=>⟨by rw [he,dA hv hs],hb⟩
 obtain ⟨P,hP⟩:∃P:Prop,P=gI c lo hi top n:=⟨_,rfl⟩
 have H0:Hid (n.lv=0->(r=true↔P)):=fun e=>by
  rw [hP,hr];exact ⟨fun h=>⟨fun _=>h,fun h2=>absurd e h2⟩,fun h=>h.1 e⟩
 have H1:Hid (0<n.lv->(s=true↔P)):=fun e=>by
  rw [hP,hs];exact ⟨fun h=>⟨fun h2=>absurd h2 (by omega),fun _=>⟨e,h⟩⟩,fun h=>(h.2 (by omega)).2⟩
 have H2:Hid (n.lv<0->¬P):=fun e h=>by
  rw [hP] at h;have:=(h.2 (by omega)).1;omega
 rw [<-hP];clear hP hr hs h hf jr hlo;obtain ⟨lv,K,L,B,Q⟩:=n;obtain ⟨kA,kc,pA,pc,bA,bc,qA,qc⟩:=a;obtain ⟨cB,cY,cF,cN,cU,cL,cKy,cV⟩:=c;unfold bL aZ at*;simp only at*;generalize K.length=kn at*;generalize L.length=pn at*;generalize B.length=bn at*;generalize Q.length=qn at*;go_enter Tryz.func118,Tryz.ntmps118
 go_upto_region 1 with fail
 have HB:=hid (B3.new W (.cells #[cB,cY,cF,cN,cU,cL,cKy,cV] 23) (.cells #[.string lo,.string hi,.bool top] 152) (.cells #[lv,.slice kA kn kc,.slice pA pn pc,.slice bA bn bc,.slice qA qn qc] 43));generalize ((W.alloc (.cells #[cB,cY,cF,cN,cU,cL,cKy,cV] 23)).alloc (.cells #[.string lo,.string hi,.bool top] 152)).alloc (.cells #[lv,.slice kA kn kc,.slice pA pn pc,.slice bA bn bc,.slice qA qn qc] 43)=w1 at*;obtain ⟨g,hg⟩:∃g,g=W.heap.size:=⟨_,rfl⟩
 rw [<-hg] at HB;simp only [<-hg];clear hg;obtain ⟨d0,d1,d2,d3,d4⟩:=aG HB.out.z;obtain ⟨e0,e1,e2⟩:=bR HB.out.y;obtain ⟨g0,g1,g2,g3,g4,g5,g6,g7⟩:=aT HB.out.x;have HBW:=hid HB.out.below;clear HB;rcases Int.lt_trichotomy lv 0 with hl|hl|hl
 . have HNO:=hid (H2.out hl)
   have t0:(lv==0)=false:=(by simp;omega);have t1:decide (0<lv)=false:=(by simp;omega);clear H0 H1 H2 hl;go_wp2_with fail
   go_ret
   exact ⟨⟨false,rfl,(fun h=>by cases h),fun h=>absurd h HNO.out⟩,HBW.out⟩
 . have HR:=hid (H0.out hl)
   subst hl;clear H0 H1 H2;go_wp2_with (go_at_call 159;refine (c1 _ HBW.out).out.mono ?_;rintro e w3 ⟨rfl,hb⟩)
   go_ret
   exact ⟨⟨r,rfl,HR.out⟩,HBW.out.trans (hb.mono HBW.out.size)⟩
 . have HR:=hid (H1.out hl)
   have t0:(lv==0)=false:=(by simp;omega);clear H0 H1 H2;go_wp2_with (go_at_call 160;refine (c2 _ HBW.out).out.mono ?_;rintro e w3 ⟨rfl,hb⟩)
   go_ret
   exact ⟨⟨s,rfl,HR.out⟩,HBW.out.trans (hb.mono HBW.out.size)⟩
theorem gN {W:World} (c:Cfg) (lo hi:ByteArray) (top:Bool) {n:Nd} {a:At} (h:gK W n a) (hf:Fit n) (jr:∀k,k∈n.kids->k<4294967296) (hlo:lo.size<=maxLen):Calls Tryz.prog 118 #[.agg (aZ c),fu lo hi top,.agg (bL n a)] W fun e w'=>(∃v:Bool,e=.returned (.bool v)/\(v=true↔gI c lo hi top n))/\Bw W w':=vL c lo hi top h ⟨fun p hp=>Nat.le_trans (hf.pk p hp) (by decide),fun m hm=>Nat.le_trans (hf.bk m hm) (by decide),fun m hm=>Nat.le_trans (hf.qk m hm) (by decide),Nat.le_trans hf.kids (by decide),Nat.le_trans hf.piv (by decide),Nat.le_trans hf.buf (by decide),Nat.le_trans hf.prs (by decide)⟩ jr hlo
end No
end Go.Proofs.YtjpjjnalpdpljaaGreatDoor
set_option maxHeartbeats 4000000
set_option maxRecDepth 100000
namespace Go.Proofs.YtjpjjnalpdpljaaGreatDoor
open Go.RowKit
open ah (dL tc)
namespace No
open Mem Lx Bu Lf Fa
open Wd (be val aD dY isW)
theorem Ik (W:World):CB 119 #[] W (.agg #[.string ⟨#[]⟩,.string ⟨#[]⟩,.bool true]):=by
 go_enter Tryz.func119,Tryz.ntmps119
 go_wp2_with fail
 exact bodyPost_ret (v:= .agg #[.string ⟨#[]⟩,.string ⟨#[]⟩,.bool true]) (by simp [results,Tryz.results119,go_sem]) rfl ⟨rfl,bAx⟩
theorem Ba (c:Cfg) {n:Nd} {a:At} {W:World} (h:gK W n a) (hz:Sz n) (jr:∀k,k∈n.kids->k<4294967296) (r:Bool) (hr:r=true↔bQ c n):CB 77 #[.agg (aZ c),.agg (bL n a)] W (.bool r):=by
 obtain ⟨q,hq⟩:=bU (Cf.Right c.blocks c.bytes c.frames c.fan c.buffer c.leaf c.key c.val)
 have cQ:∀w,Hid (CB 31 #[.agg (aZ c)] w (.bool q)):=fun w=>by
  cases q with
  |true=>exact Cf.qE c.blocks c.bytes c.frames c.fan c.buffer c.leaf c.key c.val w (hq.1 rfl)
  |false=>exact Cf.uU c.blocks c.bytes c.frames c.fan c.buffer c.leaf c.key c.val w (fun h=>by cases hq.2 h)
 obtain ⟨t,ht⟩:=bU (gI c ⟨#[]⟩ ⟨#[]⟩ true n);have cR:∀w,Bw W w->Hid (CB 118 #[.agg (aZ c),.agg #[.string ⟨#[]⟩,.string ⟨#[]⟩,.bool true],.agg (bL n a)] w (.bool t)):=fun w hb=>(vL c ⟨#[]⟩ ⟨#[]⟩ true (h.kept hb) hz jr (Nat.zero_le _)).mono fun e w' ⟨⟨v,he,hv⟩,hb⟩=>⟨by rw [he,dA hv ht],hb⟩
 have cA:=fun w=>Lib.hid (Ik w)
 have HE:Hid (r=(q&&t)):=by
  unfold Hid;rw [Bool.eq_iff_iff,hr];unfold bQ;simp only [Bool.and_eq_true,hq,ht]
 clear h hz jr hr hq ht;obtain ⟨cB,cY,cF,cN,cU,cL,cKy,cV⟩:=c;obtain ⟨lv,K,P,B,Q⟩:=n;obtain ⟨kA,kc,pA,pc,bA,bc,qA,qc⟩:=a;unfold aZ bL at*;simp only at*;generalize K.length=kn at*;generalize P.length=pn at*;generalize B.length=bn at*;generalize Q.length=qn at*;go_enter Tryz.func77,Tryz.ntmps77
 go_upto_region 1 with fail
 have h2:=aR W (.cells #[cB,cY,cF,cN,cU,cL,cKy,cV] 23) (.cells #[lv,.slice kA kn kc,.slice pA pn pc,.slice bA bn bc,.slice qA qn qc] 43);generalize (W.alloc (.cells #[cB,cY,cF,cN,cU,cL,cKy,cV] 23)).alloc (.cells #[lv,.slice kA kn kc,.slice pA pn pc,.slice bA bn bc,.slice qA qn qc] 43)=w1 at*;obtain ⟨g,hg⟩:∃g,g=W.heap.size:=⟨_,rfl⟩
 obtain ⟨hx,hy,hb⟩:=h2;rw [<-hg] at hx hy;simp only [<-hg];clear hg;have HB:=Lib.hid hb;obtain ⟨g0,g1,g2,g3,g4,g5,g6,g7⟩:=aT hx;obtain ⟨d0,d1,d2,d3,d4⟩:=aG hy;have tg0:=tc g0;have tg1:=tc g1;have tg2:=tc g2;have tg3:=tc g3;have tg4:=tc g4;have tg5:=tc g5;have tg6:=tc g6;have tg7:=tc g7;have td0:=tc d0;have td1:=tc d1;have td2:=tc d2;have td3:=tc d3;have td4:=tc d4;clear hx hy hb g0 g1 g2 g3 g4 g5 g6 g7 d0 d1 d2 d3 d4;cases q with
 |false=>
  clear cR cA;refine ah.aj [] [(0,[]),(1,[]),(2,[]),(3,[]),(4,[]),(5,[]),(6,[]),(7,[]),(8,[])] [] [] (by kernel_rfl) (by kernel_rfl) (by simp) ?_;simp only [ah.pick,ah.aO,dL]
  repeat (refine ah.ak (fun K hK=>?_);go_simp;first|(refine hK _ ?_;clear hK K)|(apply Exists.intro;refine ⟨fun q=>?_,hK _ ?_⟩;(go_at_call 31;exact (cQ _).out);clear hK K))
  refine ah.walk_nil ?_;intro w2 hb2 _;have HB2:=Lib.hid (HB.out.trans (hb2.mono HB.out.size));clear hb2 tg0 tg1 tg2 tg3 tg4 tg5 tg6 tg7 td0 td1 td2 td3 td4 cQ;simp only [lC,List.drop_nil,Nat.zero_add,Nat.reduceAdd];go_wp2_with fail
  go_ret
  exact ⟨by rw [HE.out];rfl,HB2.out⟩
 |true=>
  refine ah.aj [] [(0,[]),(1,[]),(2,[]),(3,[]),(4,[]),(5,[]),(6,[]),(7,[]),(8,[])] [] [] (by kernel_rfl) (by kernel_rfl) (by simp) ?_;simp only [ah.pick,ah.aO,dL]
  repeat (refine ah.ak (fun K hK=>?_);go_simp;first|(refine hK _ ?_;clear hK K)|(apply Exists.intro;refine ⟨fun q=>?_,hK _ ?_⟩;(first|(go_at_call 31;exact (cQ _).out)|(go_at_call 119;exact (cA _).out)|(go_at_call 118;exact (cR _ (HB.out.trans (q.into.below.mono HB.out.size))).out));clear hK K))
  refine ah.walk_nil ?_;intro w2 hb2 _;have HB2:=Lib.hid (HB.out.trans (hb2.mono HB.out.size));clear hb2 tg0 tg1 tg2 tg3 tg4 tg5 tg6 tg7 td0 td1 td2 td3 td4 cQ cA cR;simp only [lC,List.drop_nil,Nat.zero_add,Nat.reduceAdd];go_wp2_with fail
  go_ret
  exact ⟨by rw [HE.out];rfl,HB2.out⟩
end No
end Go.Proofs.YtjpjjnalpdpljaaGreatDoor
namespace Go.Proofs.YtjpjjnalpdpljaaGreatDoor
open Go.RowKit
namespace No
open Mem Lx Bu Lf Fa
open Wd (be val aD dY isW)
structure Bx2 (W:World) (g:Nat) (X Y:Obj) (w:World):Prop where
 below:Bw W w
 x:w.heap[g]? =some X
 y:w.heap[g+1]? =some Y
theorem Bx2.kept {W w w':World} {g:Nat} {X Y:Obj} (h:Bx2 W g X Y w) (hb:Bw w w'):Bx2 W g X Y w':=⟨h.below.trans (hb.mono h.below.size),aC h.x hb,aC h.y hb⟩
theorem Bx2.new (W:World) (X Y:Obj):Bx2 W W.heap.size X Y ((W.alloc X).alloc Y):=⟨(aR W X Y).2.2,(aR W X Y).1,(aR W X Y).2.1⟩
section
variable {α:Type} {A:List UInt8} {f:α->List UInt8} {L:List α} {S k:Nat} {x:α}
end
end No
end Go.Proofs.YtjpjjnalpdpljaaGreatDoor
namespace Go.Proofs.YtjpjjnalpdpljaaGreatDoor
open Go.RowKit
namespace No
open Mem Lx Bu Lf Fa
open Wd (be val aD dY isW jR uD)
def Bb (c:Cfg) (n:Nd) (s:List UInt8) (f:Int):Prop:=
 (¬Cf.Right c.blocks c.bytes c.frames c.fan c.buffer c.leaf c.key c.val/\s=[]/\f=2)\/
 (Cf.Right c.blocks c.bytes c.frames c.fan c.buffer c.leaf c.key c.val/\¬bQ c n/\s=[]/\f=3)\/(bQ c n/\s=aJ c n/\f=0)
theorem Bb.some (c:Cfg) (n:Nd):∃s f,Bb c n s f:=by
 by_cases h1:Cf.Right c.blocks c.bytes c.frames c.fan c.buffer c.leaf c.key c.val
 . by_cases h2:bQ c n
   . exact ⟨_,_,.inr (.inr ⟨h2,rfl,rfl⟩)⟩
   . exact ⟨_,_,.inr (.inl ⟨h1,h2,rfl,rfl⟩)⟩
 . exact ⟨_,_,.inl ⟨h1,rfl,rfl⟩⟩
theorem Bb.one {c:Cfg} {n:Nd} {s s':List UInt8} {f f':Int} (h:Bb c n s f) (h':Bb c n s' f'):s=s'/\f=f':=by
 rcases h with ⟨h1,rfl,rfl⟩|⟨h1,h2,rfl,rfl⟩|⟨h1,rfl,rfl⟩<;>rcases h' with ⟨k1,rfl,rfl⟩|⟨k1,k2,rfl,rfl⟩|⟨k1,rfl,rfl⟩<;>first|exact ⟨rfl,rfl⟩|exact absurd k1 h1|exact absurd h1 k1|exact absurd k1.1 h1|exact absurd h1.1 k1|exact absurd k1 h2|exact absurd h1 k2
end No
end Go.Proofs.YtjpjjnalpdpljaaGreatDoor
namespace Go.Proofs.YtjpjjnalpdpljaaGreatDoor
open Go.RowKit
namespace No
open Mem Lx Bu Lf Fa
open Wd (be val aD dY isW)
def qm:Nd:=⟨0,[],[],[],[]⟩
def KV (c:Cfg) (b:List UInt8) (n:Nd) (f:Int):Prop:=
 (¬Cf.Right c.blocks c.bytes c.frames c.fan c.buffer c.leaf c.key c.val/\n=qm/\f=2)\/
 (Cf.Right c.blocks c.bytes c.frames c.fan c.buffer c.leaf c.key c.val/\(∀m,¬(bQ c m/\aJ c m=b))/\n=qm/\f=12)\/(bQ c n/\aJ c n=b/\f=0)
theorem KV.one {c:Cfg} {b:List UInt8} {n n':Nd} {f f':Int} (h:KV c b n f) (h':KV c b n' f'):n=n'/\f=f':=by
 rcases h with ⟨h1,rfl,rfl⟩|⟨h1,h2,rfl,rfl⟩|⟨h1,h2,rfl⟩<;>rcases h' with ⟨k1,rfl,rfl⟩|⟨k1,k2,rfl,rfl⟩|⟨k1,k2,rfl⟩<;>first|exact ⟨rfl,rfl⟩|exact absurd k1 h1|exact absurd h1 k1|exact absurd k1.1 h1|exact absurd h1.1 k1|exact absurd ⟨k1,k2⟩ (h2 _)|exact absurd ⟨h1,h2⟩ (k2 _)|exact ⟨EB h1 k1 (h2.trans k2.symm),rfl⟩
def xV (c:Cfg) (b:List UInt8) (v:Value) (w:World):Prop:=∃n f z,v= .tuple #[.agg (bL n z),(f:Int)]/\gK w n z/\KV c b n f
theorem gK.nil (w:World):gK w qm ⟨none,0,none,0,none,0,none,0⟩:=⟨RC.nil _ _ _,RC.nil _ _ _,RC.nil _ _ _,RC.nil _ _ _⟩
structure Dc (W w0:World) (g s:Nat) (X Y N:Obj) (w:World):Prop where
 bx:Bx2 W g X Y w
 box:w.heap[s]? =some N
 at_:W.heap.size<=g
 lo:g+1<w0.heap.size
 ls:s<w0.heap.size
 size:w0.heap.size<=w.heap.size
 sne:W.heap.size<=s/\g≠s/\g+1≠s
section
variable {W w0 w w':World} {g s i:Nat} {X Y N:Obj}
theorem Dc.kept (h:Dc W w0 g s X Y N w) (hb:Bw w w'):Dc W w0 g s X Y N w':=⟨h.bx.kept hb,aC h.box hb,h.at_,h.lo,h.ls,Nat.le_trans h.size hb.size,h.sne⟩
theorem Dc.grow (h:Dc W w0 g s X Y N w) (hb:Below w0.heap.size w w'):Dc W w0 g s X Y N w':=by
 have h1:=h.lo;have h2:=h.ls;have h3:=h.size;have h4:=h.at_;exact ⟨⟨h.bx.below.trans (hb.mono (by omega)),(hb.block g (by omega)).trans h.bx.x,(hb.block (g+1) (by omega)).trans h.bx.y⟩,(hb.block s h2).trans h.box,h.at_,h.lo,h.ls,Nat.le_trans h.size hb.size,h.sne⟩
theorem Dc.set (h:Dc W w0 g s X Y N w) (v:Value) (N':Obj) (hn:(w.setCell ⟨s,i,none⟩ v).heap[s]? =some N'):Dc W w0 g s X Y N' (w.setCell ⟨s,i,none⟩ v):=by
 obtain ⟨h1,h2,h3⟩:=h.sne;exact ⟨⟨h.bx.below.setCell h1 _,(aQ _ h2).trans h.bx.x,(aQ _ h3).trans h.bx.y⟩,hn,h.at_,h.lo,h.ls,by simpa using h.size,h.sne⟩
end
end No
end Go.Proofs.YtjpjjnalpdpljaaGreatDoor
namespace Go.Proofs.YtjpjjnalpdpljaaGreatDoor
open Go.RowKit
namespace No
open Mem Lx Bu Lf Fa
open Wd (be val aD dY isW)
theorem Nv:(Tryz.prog.info? 25).map (fun i=>(i.zero,i.size,i.bytes))=some (some (.int .u32 0),1,4):=by kernel_rfl
theorem Nw:(Tryz.prog.info? 9).map (fun i=>(i.zero,i.size,i.bytes))=some (some (.string ⟨#[]⟩),1,16):=by kernel_rfl
theorem sub_le (b:List UInt8) (i n:Nat):(strOf (Gh b i n)).size<=b.length:=by
 rw [l7];unfold Gh;rw [List.length_take,List.length_drop];omega
end No
end Go.Proofs.YtjpjjnalpdpljaaGreatDoor
namespace Go.Proofs.YtjpjjnalpdpljaaGreatDoor
open Go.RowKit
namespace No
open Mem Lx Bu Lf Fa
def cC:Cfg:=⟨9,200,8,8,16,16,2,1⟩
def cN:Nd:=⟨0,[],[],[],[(⟨#[97]⟩,⟨#[55]⟩)]⟩
end No
end Go.Proofs.YtjpjjnalpdpljaaGreatDoor
set_option maxHeartbeats 8000000
set_option maxRecDepth 100000
namespace Go.Proofs.YtjpjjnalpdpljaaGreatDoor
open Go.RowKit
open Go.Lib (hid)
open ah (dL tc)
open List (drop_zero length length_append replicate)
namespace No
open Mem Lx Bu Lf Fa
open Wd (be val aD dY isW gH)
theorem Bx2.kw {W w w':World} {g:Nat} {X Y:Array Value} {T1 T2:TypeId} (h:Bx2 W g (.cells X T1) (.cells Y T2) w) (hk:Kw W.heap.size w w') (h1:T1≠5/\T1≠196) (h2:T2≠5/\T2≠196):Bx2 W g (.cells X T1) (.cells Y T2) w':=⟨h.below.trans hk.below,hk.box h.x h1.1 h1.2,hk.box h.y h2.1 h2.2⟩
theorem Own.empty {w:World} {B b m:Nat} (hb:B<=b) (hm:m<=65536) (h:w.heap[b]? =some (.cells (replicate m (.int .u8 0)).toArray 5)):Own 5 w B (.slice (some ⟨b,0,none⟩) 0 m) []:=
 ⟨rfl,.inr ⟨b,m,_,rfl,hb,h,Nat.zero_le _,by unfold maxLen;omega,by simp,by simp [aI]⟩⟩
theorem Wr.fr {c:Cfg} {B:Nat} {w:World} {g:Nat} {xs:List UInt8} (h:Wr c B w g xs):∃A cap,w.cell? ⟨g,8,none⟩=some (.slice A xs.length cap)/\FrB w B A xs/\xs.length<=cap:=by
 obtain ⟨v,h1,h2⟩:=h.ex;obtain ⟨A,cap,rfl,hbl,hc⟩:=h2.slice;refine ⟨A,cap,(fU h1).1,⟨hbl,fun h0=>?_⟩,hc⟩;obtain ⟨b,o',e,-⟩:=hbl h0;subst e;obtain ⟨hB,C,hC⟩:=h2.row b rfl;exact ⟨b,o',C,rfl,hB,hC⟩
theorem Il (l m:List UInt8):be 1 1++(be 1 0++(l++(be 2 0++zs 2)))++m=[1,0]++(l++(zs 4++m)):=by
 have e1:be 1 1=[1]:=by decide
 have e2:be 1 0=[0]:=by decide
 have e3:be 2 0=[0,0]:=by decide
 have e4:zs 2=[0,0]:=by decide
 have e5:zs 4=[0,0,0,0]:=by decide
 rw [e1,e2,e3,e4,e5];simp
theorem Bc (c:Cfg) {n:Nd} {a:At} {W:World} (h:gK W n a) (jr:∀k,k∈n.kids->k<4294967296) (hr:bQ c n) (h0:n.lv=0):Calls Tryz.prog 111 #[.agg (aZ c),.agg (bL n a)] W fun e w'=>(∃A cap,e=.returned (.slice A (aJ c n).length cap)/\FrB w' W.heap.size A (aJ c n)/\(aJ c n).length<=cap)/\Bw W w':=by
 have h0':=h0;obtain ⟨F,Bf,Lf',K,V,hs⟩:=uS hr.1;obtain ⟨Y,hY⟩:∃Y:Nat,c.bytes=Y:=⟨c.bytes.toNat,by have:=hs.bytes;omega⟩
 have hYb:=hs.bytes;rw [hY] at hYb;have hP:=hr.2.1 h0;obtain ⟨hlen,hq⟩:=sZ hs hP;have hout:=hs.out;have hm:=vF (s:=3+K+V) hq;have hLl:=hs.l
 have hbl:aJ c n=lJ c n++replicate (Y-(lJ c n).length) 0:=by
  unfold aJ lM slotL zs;rw [if_pos h0,hY];congr 2
  omega
 have hp:∀x∈n.prs,x.1.size<=K/\x.2.size<=V:=fun x hx=>by
  obtain ⟨h1,-,h3⟩:=hP.each x hx;have:=(eT h1).2;have:=hs.key;have:=hs.val;omega
 have hfit:(lJ c n).length<=Y:=by
  rw [hlen];generalize n.prs.length*(3+K+V)=X1 at*;generalize Lf'*(3+K+V)=X2 at*;omega
 have hpx:8+n.prs.length*(3+K+V)<=65536:=by omega
 obtain ⟨body,hbody⟩:∃b,b=lJ c n:=⟨_,rfl⟩
 have HBD:Hid (be 1 1++(be 1 0++(be 2 n.prs.length++(be 2 0++zs 2)))++n.prs.flatMap (prL c)=body):=by
  unfold Hid;rw [hbody,Il];rfl
 rw [<-hbody] at hbl hfit;obtain ⟨d,hd⟩:∃d,d=Y-body.length:=⟨_,rfl⟩
 rw [<-hd] at hbl;have Ny:Hid (body++replicate d 0=aJ c n):=hbl.symm;have Nz:∀(w:World) (g:Nat),Wr c W.heap.size w g []->Hid (Calls Tryz.prog 151 #[(g:Nat),(0:Int),(n.prs.length:Int),(0:Int)] w fun e w'=>e=.returned (.tuple #[])/\Wr c W.heap.size w' g (be 1 1++(be 1 0++(be 2 n.prs.length++(be 2 0++zs 2))))/\Kw W.heap.size w w'):=fun w g h=>zu c h 0 n.prs.length 0 (by simp) (by omega) (by omega) (by omega)
 have cPr:∀(w:World) (g:Nat),Bw W w->Wr c W.heap.size w g (be 1 1++(be 1 0++(be 2 n.prs.length++(be 2 0++zs 2))))->Hid (Calls Tryz.prog 152 #[(g:Nat),.slice a.qA n.prs.length a.qc] w fun e w'=>e=.returned (.tuple #[])/\Wr c W.heap.size w' g body/\Kw W.heap.size w w'):=fun w g hb h9=>by
  have h8:=Bd hs hb h9 (cc:=a.qc) h.prs.1 hp (by
   simp only [length_append,aD,gY]
   omega)
  rw [HBD.out] at h8;exact h8
 have hsub:IntKind.i64.wrap ((Y:Int)-(body.length:Int))=(d:Int):=by
  rw [IntKind.wrap_i64];omega
 have hz:body.length+d<=1048576:=by omega
 have hY9:Y<=65536:=by omega
 obtain ⟨bl,NA⟩:∃b,b=aJ c n:=⟨_,rfl⟩
 rw [<-NA] at Ny ⊢;have hmk:=fun w=>iN (P:=Tryz.prog) Tryz.underlying72 gH rfl (by decide) Y (by omega) w;clear NA hbl hfit hd hr hs h0 hP hlen hq hout hm hLl hp hpx hbody HBD;obtain ⟨cB,cY,cF,cN,cU,cL,cKy,cV⟩:=c;obtain ⟨lv,Ks,P,B,Q⟩:=n;obtain ⟨kA,kc,pA,pc,bA,bc,qA,qc⟩:=a;unfold aZ bL;simp only at*;subst hY;subst h0';generalize Ks.length=kn at*;generalize P.length=pn at*;generalize B.length=bn at*;generalize Q.length=qn at*;clear h jr;go_enter Tryz.func111,Tryz.ntmps111
 go_upto_region 1 with fail
 have HB:=hid (Bx2.new W (.cells #[cB,(Y:Int),cF,cN,cU,cL,cKy,cV] 23) (.cells #[(0:Int),.slice kA kn kc,.slice pA pn pc,.slice bA bn bc,.slice qA qn qc] 43));generalize (W.alloc (.cells #[cB,(Y:Int),cF,cN,cU,cL,cKy,cV] 23)).alloc (.cells #[(0:Int),.slice kA kn kc,.slice pA pn pc,.slice bA bn bc,.slice qA qn qc] 43)=w1 at*;obtain ⟨g,hg⟩:∃g,g=W.heap.size:=⟨_,rfl⟩
 rw [<-hg] at HB;have hgW:W.heap.size<=g:=by omega
 simp only [<-hg];clear hg;obtain ⟨g0,g1,g2,g3,g4,g5,g6,g7⟩:=aT HB.out.x;have t0:=tc g0;have t1:=tc g1;have t2:=tc g2;have t3:=tc g3;have t4:=tc g4;have t5:=tc g5;have t6:=tc g6;have t7:=tc g7;clear g0 g1 g2 g3 g4 g5 g6 g7;refine ah.aj [] [(0,[]),(1,[]),(2,[]),(3,[]),(4,[]),(5,[])] [] [3,5] (by kernel_rfl) (by kernel_rfl) (by simp) ?_;simp only [ah.pick,ah.aO,dL]
 repeat (refine ah.ak (fun K hK=>?_);go_simp;(refine hK _ ?_;clear hK K))
 refine ah.dF rfl ah.aF (fun b=> .slice (some ⟨b,0,none⟩) 0 Y) (.cells (replicate Y (.int .u8 0)).toArray 5) (fun W=>by go_simp) (fun b1 hb1 hT1=>?_);clear t0 t1 t2 t3 t4 t5 t6 t7 hmk
 repeat (refine ah.ak (fun K hK=>?_);go_simp;first|(refine hK _ ?_;clear hK K)|(refine ⟨_,fun _=>rfl,hK _ ?_⟩;clear hK K))
 refine ah.dF rfl ah.aF (fun b=> .pointer (some ⟨b,0,none⟩)) (.cells #[cB,(Y:Int),cF,cN,cU,cL,cKy,cV,.slice (some ⟨b1,0,none⟩) 0 Y] 196) (fun W=>by go_simp) (fun b2 hb2 hT2=>?_);refine ah.walk_nil ?_;intro w2 hk2 hl2;have HW:Hid (Wr ⟨cB,Y,cF,cN,cU,cL,cKy,cV⟩ W.heap.size w2 b2 []):=⟨Nat.le_trans HB.out.below.size hb2,_,hl2 (b2,.cells #[cB,(Y:Int),cF,cN,cU,cL,cKy,cV,.slice (some ⟨b1,0,none⟩) 0 Y] 196) (by simp),Own.empty (Nat.le_trans HB.out.below.size hb1) hY9 (hl2 (b1,.cells (replicate Y (.int .u8 0)).toArray 5) (by simp))⟩;replace HB:=hid (HB.out.kept hk2);clear hk2 hl2 hT1 hT2 hb1 hb2;simp only [lC,drop_zero,Nat.zero_add,Nat.reduceAdd];obtain ⟨d0,d1,d2,d3,d4⟩:=aG HB.out.y;go_upto_region 3 with fail
 go_upto_region 4 with (go_at_call 151;refine (Nz _ _ HW.out).out.mono ?_;rintro e w3 ⟨rfl,hw,hk⟩;replace HW:=hid hw;replace HB:=hid (HB.out.kw hk (by decide) (by decide));clear hw hk d0 d1 d2 d3 d4;obtain ⟨d0,d1,d2,d3,d4⟩:=aG HB.out.y)
 clear Nz;go_upto_region 9 with (go_at_call 152;refine (cPr _ _ HB.out.below HW.out).out.mono ?_;rintro e w4 ⟨rfl,hw,hk⟩;replace HW:=hid hw;replace HB:=hid (HB.out.kw hk (by decide) (by decide));clear hw hk d0 d1 d2 d3 d4;obtain ⟨d0,d1,d2,d3,d4⟩:=aG HB.out.y)
 clear cPr d0 d1 d2 d3 d4;have hbd:Below w4.heap.size w4 { w4 with drawn:=w4.drawn+1 }:=⟨rfl,rfl,rfl,Nat.le_refl _,fun _ _=>rfl⟩;refine wp_region_still_tail 9 (by kernel_rfl) (by kernel_rfl) ?_;simp only [List.take_succ_cons,List.take_zero,List.drop_succ_cons,drop_zero];generalize { w4 with drawn:=w4.drawn+1 }=w7 at*;replace HW:=hid (HW.out.kept hbd);replace HB:=hid (HB.out.kept hbd);clear hbd;obtain ⟨g0,g1,g2,g3,g4,g5,g6,g7⟩:=aT HB.out.x;obtain ⟨A,cap,c8,-,-⟩:=HW.out.fr;clear g0 g2 g3 g4 g5 g6 g7
 repeat (refine wpStill_step (fun K hK=>?_);go_simp;(refine hK _ ?_;clear hK K))
 refine wpStill_nil ?_;clear c8 g1;go_upto_region 10 with (go_at_call 156;refine (gP _ HW.out d hz).mono ?_;rintro e w8 ⟨rfl,hw,hk⟩;rw [Ny.out] at hw;replace HW:=hid hw;replace HB:=hid (HB.out.kw hk (by decide) (by decide));clear hw hk)
 obtain ⟨A9,KW,c9,hfr,hcap⟩:=HW.out.fr;have HFR:=hid hfr;have HCP:=hid hcap;clear hfr hcap;go_wp2_with fail
 go_ret
 exact ⟨⟨A9,KW,rfl,HFR.out,HCP.out⟩,HB.out.below⟩
theorem xW (c:Cfg) {n:Nd} {a:At} {W:World} (h:gK W n a) (jr:∀k,k∈n.kids->k<4294967296) (hr:bQ c n) (h0:n.lv≠0):Calls Tryz.prog 111 #[.agg (aZ c),.agg (bL n a)] W fun e w'=>(∃A cap,e=.returned (.slice A (aJ c n).length cap)/\FrB w' W.heap.size A (aJ c n)/\(aJ c n).length<=cap)/\Bw W w':=by
 have h0':=h0;obtain ⟨F,Bf,Lf',K,V,hs⟩:=uS hr.1;obtain ⟨Y,hY⟩:∃Y:Nat,c.bytes=Y:=⟨c.bytes.toNat,by have:=hs.bytes;omega⟩
 have hYb:=hs.bytes;rw [hY] at hYb;obtain ⟨RJ,hP⟩:=hr.2.2 h0;obtain ⟨hkl,hpl,hml,hlen,hbq⟩:=vG hs hP;have hin:=hs.inn;have hm:=vF (s:=4+K+V) hbq;have hkf:n.kids.length<=F:=by have:=hP.fan;have:=hs.fan;omega
 have hpf:n.piv.length+1<=F:=by have:=hP.fewer;omega
 have hF:=hs.f;have hBf:=hs.b;have KQ:=hP.lv;obtain ⟨lv',QF⟩:∃l:Nat,n.lv=l:=⟨n.lv.toNat,by omega⟩
 have QG:lv'≠0:=by omega
 have hbl:aJ c n=xH c n++replicate (Y-(xH c n).length) 0:=by
  unfold aJ lM slotL zs;rw [if_neg h0,hY];congr 2
  omega
 have hfit:(xH c n).length<=Y:=by
  rw [hlen];generalize n.buf.length*(4+K+V)=X1 at*;generalize Bf*(4+K+V)=X2 at*;omega
 have hinl:=hlen;have hYs:Y<=65536:=by omega
 obtain ⟨t0,ht0⟩:∃t,t=be 1 2++(be 1 lv'++(be 2 n.kids.length++(be 2 n.buf.length++zs 2))):=⟨_,rfl⟩
 obtain ⟨t1,ht1⟩:∃t,t=t0++(n.kids.flatMap (be 4)++zs (4*(c.fan-n.kids.length))):=⟨_,rfl⟩
 obtain ⟨t2,ht2⟩:∃t,t=t1++(n.piv.flatMap (pvL c)++zs ((1+c.key)*(c.fan-1-n.piv.length))):=⟨_,rfl⟩
 obtain ⟨body,hbody⟩:∃b,b=xH c n:=⟨_,rfl⟩
 have hbd:t2++n.buf.flatMap (msL c)=body:=by
  rw [hbody,ht2,ht1,ht0];have e1:be 1 2=[2]:=by decide
  have e2:n.lv.toNat=lv':=by omega
  unfold xH;rw [e1,e2];simp only [List.append_assoc]
 have hl0:t0.length=8:=by
  rw [ht0];simp only [length_append,aD,gY];rfl
 have hl3:t2.length+n.buf.length*(4+K+V)<=Y:=by
  have h9:=congrArg length hbd;rw [length_append,hml] at h9;rw [<-hbody] at hfit;omega
 have hl2:t1.length+n.piv.length*(1+K)<=Y:=by
  have h9:=congrArg length ht2;rw [length_append,length_append,hpl] at h9;omega
 have hl1:t0.length+n.kids.length*4<=Y:=by
  have h9:=congrArg length ht1;rw [length_append,length_append,hkl] at h9;omega
 rw [<-hbody] at hbl hfit;obtain ⟨d,hd⟩:∃d,d=Y-body.length:=⟨_,rfl⟩
 rw [<-hd] at hbl;have Ny:Hid (body++replicate d 0=aJ c n):=hbl.symm
 have hpk:∀x∈n.piv,x.size<=K:=fun x hx=>by
  have:=(eT (hP.piv x hx)).2;have:=hs.key;omega
 have hpm:∀x∈n.buf,x.1.size<=K/\x.2.2.size<=V:=fun x hx=>by
  obtain ⟨h1,-,h3,-⟩:=hP.buf x hx;have:=(eT h1).2;have:=hs.key;have:=hs.val;omega
 have Nz:∀(w:World) (g:Nat),Wr c W.heap.size w g []->Hid (Calls Tryz.prog 151 #[(g:Nat),(lv':Int),(n.kids.length:Int),(n.buf.length:Int)] w fun e w'=>e=.returned (.tuple #[])/\Wr c W.heap.size w' g t0/\Kw W.heap.size w w'):=fun w g h=>by
  have h8:=zu c h lv' n.kids.length n.buf.length (by simp) (by omega) (by omega) (by omega);rw [if_neg QG,List.nil_append,<-ht0] at h8;exact h8
 have cK:∀(w:World) (g:Nat),Bw W w->Wr c W.heap.size w g t0->Hid (Calls Tryz.prog 153 #[(g:Nat),.slice a.kA n.kids.length a.kc] w fun e w'=>e=.returned (.tuple #[])/\Wr c W.heap.size w' g t1/\Kw W.heap.size w w'):=fun w g hb h9=>by
  have h8:=EZ hs hb h9 (cc:=a.kc) h.kids.1 jr hkf (by omega);rw [<-ht1] at h8;exact h8
 have cPv:∀(w:World) (g:Nat),Bw W w->Wr c W.heap.size w g t1->Hid (Calls Tryz.prog 154 #[(g:Nat),.slice a.pA n.piv.length a.pc] w fun e w'=>e=.returned (.tuple #[])/\Wr c W.heap.size w' g t2/\Kw W.heap.size w w'):=fun w g hb h9=>by
  have h8:=xX hs hb h9 (cc:=a.pc) h.piv.1 hpk hpf (by omega);rw [<-ht2] at h8;exact h8
 have cMs:∀(w:World) (g:Nat),Bw W w->Wr c W.heap.size w g t2->Hid (Calls Tryz.prog 155 #[(g:Nat),.slice a.bA n.buf.length a.bc] w fun e w'=>e=.returned (.tuple #[])/\Wr c W.heap.size w' g body/\Kw W.heap.size w w'):=fun w g hb h9=>by
  have h8:=E5 hs hb h9 (cc:=a.bc) h.buf.1 hpm (by omega);rw [hbd] at h8;exact h8
 have hsub:IntKind.i64.wrap ((Y:Int)-(body.length:Int))=(d:Int):=by
  rw [IntKind.wrap_i64];omega
 have hz:body.length+d<=1048576:=by omega
 have hY9:Y<=65536:=by omega
 obtain ⟨bl,NA⟩:∃b,b=aJ c n:=⟨_,rfl⟩
 rw [<-NA] at Ny ⊢;have hmk:=fun w=>iN (P:=Tryz.prog) Tryz.underlying72 gH rfl (by decide) Y (by omega) w;clear NA hbl hfit hd hr hs h0 hP hkl hpl hml hlen hbq hin hm hkf hpf hF hBf hinl ht0 ht1 ht2 hbody hbd hl0 hl1 hl2 hl3 hpk hpm KQ QG RJ hYs;obtain ⟨cB,cY,cF,cN,cU,cL,cKy,cV⟩:=c;obtain ⟨lv,Ks,P,B,Q⟩:=n;obtain ⟨kA,kc,pA,pc,bA,bc,qA,qc⟩:=a;unfold aZ bL;simp only at*;subst hY;subst QF;generalize Ks.length=kn at*;generalize P.length=pn at*;generalize B.length=bn at*;generalize Q.length=qn at*;clear h jr;go_enter Tryz.func111,Tryz.ntmps111
 go_upto_region 1 with fail
 have HB:=hid (Bx2.new W (.cells #[cB,(Y:Int),cF,cN,cU,cL,cKy,cV] 23) (.cells #[(lv':Int),.slice kA kn kc,.slice pA pn pc,.slice bA bn bc,.slice qA qn qc] 43));generalize (W.alloc (.cells #[cB,(Y:Int),cF,cN,cU,cL,cKy,cV] 23)).alloc (.cells #[(lv':Int),.slice kA kn kc,.slice pA pn pc,.slice bA bn bc,.slice qA qn qc] 43)=w1 at*;obtain ⟨g,hg⟩:∃g,g=W.heap.size:=⟨_,rfl⟩
 rw [<-hg] at HB;have hgW:W.heap.size<=g:=by omega
 simp only [<-hg];clear hg;obtain ⟨g0,g1,g2,g3,g4,g5,g6,g7⟩:=aT HB.out.x;have t0:=tc g0;have t1:=tc g1;have t2:=tc g2;have t3:=tc g3;have t4:=tc g4;have t5:=tc g5;have t6:=tc g6;have t7:=tc g7;clear g0 g1 g2 g3 g4 g5 g6 g7;refine ah.aj [] [(0,[]),(1,[]),(2,[]),(3,[]),(4,[]),(5,[])] [] [3,5] (by kernel_rfl) (by kernel_rfl) (by simp) ?_;simp only [ah.pick,ah.aO,dL]
 repeat (refine ah.ak (fun K hK=>?_);go_simp;(refine hK _ ?_;clear hK K))
 refine ah.dF rfl ah.aF (fun b=> .slice (some ⟨b,0,none⟩) 0 Y) (.cells (replicate Y (.int .u8 0)).toArray 5) (fun W=>by go_simp) (fun b1 hb1 hT1=>?_);clear t0 t1 t2 t3 t4 t5 t6 t7 hmk
 repeat (refine ah.ak (fun K hK=>?_);go_simp;first|(refine hK _ ?_;clear hK K)|(refine ⟨_,fun _=>rfl,hK _ ?_⟩;clear hK K))
 refine ah.dF rfl ah.aF (fun b=> .pointer (some ⟨b,0,none⟩)) (.cells #[cB,(Y:Int),cF,cN,cU,cL,cKy,cV,.slice (some ⟨b1,0,none⟩) 0 Y] 196) (fun W=>by go_simp) (fun b2 hb2 hT2=>?_);refine ah.walk_nil ?_;intro w2 hk2 hl2;have HW:Hid (Wr ⟨cB,Y,cF,cN,cU,cL,cKy,cV⟩ W.heap.size w2 b2 []):=⟨Nat.le_trans HB.out.below.size hb2,_,hl2 (b2,.cells #[cB,(Y:Int),cF,cN,cU,cL,cKy,cV,.slice (some ⟨b1,0,none⟩) 0 Y] 196) (by simp),Own.empty (Nat.le_trans HB.out.below.size hb1) hY9 (hl2 (b1,.cells (replicate Y (.int .u8 0)).toArray 5) (by simp))⟩;replace HB:=hid (HB.out.kept hk2);clear hk2 hl2 hT1 hT2 hb1 hb2;simp only [lC,drop_zero,Nat.zero_add,Nat.reduceAdd];obtain ⟨d0,d1,d2,d3,d4⟩:=aG HB.out.y;have hne:((lv':Int)==0)=false:=by simpa using h0'
 go_upto_region 5 with fail
 go_upto_region 6 with (go_at_call 151;refine (Nz _ _ HW.out).out.mono ?_;rintro e w3 ⟨rfl,hw,hk⟩;replace HW:=hid hw;replace HB:=hid (HB.out.kw hk (by decide) (by decide));clear hw hk d0 d1 d2 d3 d4;obtain ⟨d0,d1,d2,d3,d4⟩:=aG HB.out.y)
 clear Nz;go_upto_region 7 with (go_at_call 153;refine (cK _ _ HB.out.below HW.out).out.mono ?_;rintro e w4 ⟨rfl,hw,hk⟩;replace HW:=hid hw;replace HB:=hid (HB.out.kw hk (by decide) (by decide));clear hw hk d0 d1 d2 d3 d4;obtain ⟨d0,d1,d2,d3,d4⟩:=aG HB.out.y)
 clear cK;go_upto_region 8 with (go_at_call 154;refine (cPv _ _ HB.out.below HW.out).out.mono ?_;rintro e w5 ⟨rfl,hw,hk⟩;replace HW:=hid hw;replace HB:=hid (HB.out.kw hk (by decide) (by decide));clear hw hk d0 d1 d2 d3 d4;obtain ⟨d0,d1,d2,d3,d4⟩:=aG HB.out.y)
 clear cPv;go_upto_region 9 with (go_at_call 155;refine (cMs _ _ HB.out.below HW.out).out.mono ?_;rintro e w6 ⟨rfl,hw,hk⟩;replace HW:=hid hw;replace HB:=hid (HB.out.kw hk (by decide) (by decide));clear hw hk d0 d1 d2 d3 d4;obtain ⟨d0,d1,d2,d3,d4⟩:=aG HB.out.y)
 clear cMs d0 d1 d2 d3 d4;have hbd:Below w6.heap.size w6 { w6 with drawn:=w6.drawn+1 }:=⟨rfl,rfl,rfl,Nat.le_refl _,fun _ _=>rfl⟩;refine wp_region_still_tail 9 (by kernel_rfl) (by kernel_rfl) ?_;simp only [List.take_succ_cons,List.take_zero,List.drop_succ_cons,drop_zero];generalize { w6 with drawn:=w6.drawn+1 }=w7 at*;replace HW:=hid (HW.out.kept hbd);replace HB:=hid (HB.out.kept hbd);clear hbd;obtain ⟨g0,g1,g2,g3,g4,g5,g6,g7⟩:=aT HB.out.x;obtain ⟨A,cap,c8,-,-⟩:=HW.out.fr;clear g0 g2 g3 g4 g5 g6 g7
 repeat (refine wpStill_step (fun K hK=>?_);go_simp;(refine hK _ ?_;clear hK K))
 refine wpStill_nil ?_;clear c8 g1;go_upto_region 10 with (go_at_call 156;refine (gP _ HW.out d hz).mono ?_;rintro e w8 ⟨rfl,hw,hk⟩;rw [Ny.out] at hw;replace HW:=hid hw;replace HB:=hid (HB.out.kw hk (by decide) (by decide));clear hw hk)
 obtain ⟨A9,KW,c9,hfr,hcap⟩:=HW.out.fr;have HFR:=hid hfr;have HCP:=hid hcap;clear hfr hcap;go_wp2_with fail
 go_ret
 exact ⟨⟨A9,KW,rfl,HFR.out,HCP.out⟩,HB.out.below⟩
theorem E8 (c:Cfg) {n:Nd} {a:At} {W:World} (h:gK W n a) (jr:∀k,k∈n.kids->k<4294967296) (hr:bQ c n):Calls Tryz.prog 111 #[.agg (aZ c),.agg (bL n a)] W fun e w'=>(∃A cap,e=.returned (.slice A (aJ c n).length cap)/\FrB w' W.heap.size A (aJ c n)/\(aJ c n).length<=cap)/\Bw W w':=by
 by_cases h0:n.lv=0
 . exact Bc c h jr hr h0
 . exact xW c h jr hr h0
end No
end Go.Proofs.YtjpjjnalpdpljaaGreatDoor
