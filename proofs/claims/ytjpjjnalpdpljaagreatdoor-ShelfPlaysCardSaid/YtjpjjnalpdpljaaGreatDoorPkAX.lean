import Derived.Test.YtjpjjnalpdpljaaGreatDoorPkAD
import Derived.Test.YtjpjjnalpdpljaaGreatDoorPkAW
import Derived.Test.YtjpjjnalpdpljaaGreatDoorPkAE
import Derived.Test.YtjpjjnalpdpljaaGreatDoorPqDrift
import Derived.Test.YtjpjjnalpdpljaaGreatDoorPkAL
import Derived.Test.YtjpjjnalpdpljaaGreatDoorPkAU
import Derived.Test.YtjpjjnalpdpljaaGreatDoorPkAC
import Derived.Test.YtjpjjnalpdpljaaGreatDoorPkAM
set_option maxHeartbeats 4000000
set_option maxRecDepth 100000
namespace Go.Proofs.YtjpjjnalpdpljaaGreatDoor
open Go.RowKit
open Go.Lib (hid)
namespace No
open Mem Lx Bu Lf Fa
open Wd (be val aD dY isW St bF bC bD bW Only Rd)
def ji (c:Cfg) (q:Nat):Array Value:= #[.int .i64 c.blocks,.int .i64 c.bytes,.int .i64 c.frames,.int .i64 c.fan,.int .i64 c.buffer,.int .i64 c.leaf,.int .i64 c.key,.int .i64 c.val,.pointer (some ⟨q,0,none⟩)]
theorem j4 {w:World} {b:Nat} {v0 v1 v2 v3 v4 v5 v6 v7 v8:Value} {U:TypeId} (h:w.heap[b]? =some (.cells #[v0,v1,v2,v3,v4,v5,v6,v7,v8] U (0,0))):w.cell? ⟨b,0,none⟩=some v0/\w.cell? ⟨b,1,none⟩=some v1/\w.cell? ⟨b,2,none⟩=some v2/\w.cell? ⟨b,3,none⟩=some v3/\w.cell? ⟨b,4,none⟩=some v4/\w.cell? ⟨b,5,none⟩=some v5/\w.cell? ⟨b,6,none⟩=some v6/\w.cell? ⟨b,7,none⟩=some v7/\w.cell? ⟨b,8,none⟩=some v8:=by
 simp [World.cell?,h]
structure Lb {α:Type} (K:Kind α) (c:Cfg) (W:World) (g q:Nat) (A:Option Addr) (cc:Nat) (L:List α) (w:World):Prop where
 box:w.heap[g]? =some (.cells (ji c q) 148 (0,0))
 vk:VK K w (g+1) A cc L
 only:Only q W w
 size:g+1<=w.heap.size
 lt:q<W.heap.size
 ge:W.heap.size<=g
section
variable {α:Type} {K:Kind α} {c:Cfg} {W w w':World} {g q cc c':Nat} {A A':Option Addr} {L L':List α} {s:St}
theorem Lb.fI (h:Lb K c W g q A cc L w) (ho:Only q w w'):Lb K c W g q A cc L w':=by
 have h1:=h.lt;have h2:=h.size;have h0:=h.ge;refine ⟨(ho.block _ (by omega) ?_).trans h.box,h.vk.into ho fun a ha hm=>?_,h.only.trans ho,Nat.le_trans h2 ho.size,h1,h0⟩
 . simp only [List.mem_singleton]
   omega
 . have h3:=(h.vk.at_ a ha).1
   simp only [List.mem_singleton] at hm;omega
theorem Lb.kept (h:Lb K c W g q A cc L w) (hb:Bw w w'):Lb K c W g q A cc L w':=h.fI (Wd.Only.of_below hb)
theorem Lb.app (h:Lb K c W g q A cc L w) (hd:BI K (g+1) w w' A A' c' L'):Lb K c W g q A' c' L' w':=
 ⟨(hd.below.block _ (Nat.lt_succ_self _)).trans h.box,hd.vo,⟨hd.below.os.trans h.only.os,hd.below.tape.trans h.only.tape,hd.below.output.trans h.only.output,Nat.le_trans h.only.size hd.below.size,fun k hk hn=>(hd.below.block k (Nat.lt_of_lt_of_le hk (Nat.le_trans h.ge (Nat.le_succ g)))).trans (h.only.block k hk hn)⟩,Nat.le_trans h.size hd.below.size,h.lt,h.ge⟩
theorem zD (hr:Rd 175 w q s) (h:Lb K c W g q A cc L w) (hd:BI K (g+1) w w' A A' c' L') (hT:K.T≠5):Rd 175 w' q s:=by
 obtain ⟨A1,c1,h1,h2,h3,h4,h5⟩:=hr;have hq:=h.lt;have hg:=h.ge;refine ⟨A1,c1,(hd.below.block q (by omega)).trans h1,?_,h3,h4,h5⟩
 have hk:∀a,A1=some a->0<s.b.length->w'.heap[a.block]? =w.heap[a.block]? :=fun a ha hl=>by
  obtain ⟨C,hC⟩:=h2.2 hl a ha;refine hd.block _ (Array.getElem?_eq_some_iff.1 hC).1 fun a' ha' e=>?_;rcases h.vk.2 with ⟨h6,-⟩|⟨g',cap,cur,he,-,hh,-⟩
  . rw [ha'] at h6
    cases h6
  . rw [ha'] at he
    (cases he);simp only at e;rw [e] at hh;rw [hC] at hh;simp only [Option.some.injEq,Obj.cells.injEq] at hh;exact hT hh.2.1.symm
 refine ⟨⟨h2.1.1.keep fun hl a ha=>hk a ha hl,h2.1.2⟩,fun hl a ha=>?_⟩;obtain ⟨C,hC⟩:=h2.2 hl a ha;exact ⟨C,(hk a ha hl).trans hC⟩
end
theorem BI.of {α:Type} {K:Kind α} {B c':Nat} {w w':World} {A A':Option Addr} {L:List α} (hd:Gg K B w w' A A' c' L):BI K B w w' A A' c' L:=⟨hd.vo,hd.below,hd.block,fun a' ha'=>by
 rcases hd.row a' ha' with h1|h1
 . exact .inl h1
 . exact .inr (Nat.le_of_eq h1.symm)⟩
def EvI (w0:World) (q:Nat) (x:Nat) (s:St) (v:Value) (w:World):Prop:=v= .int .i64 (x:Int)/\Rd 175 w q s/\Only q w0 w
def EvT (w0:World) (q:Nat) (x:ByteArray) (s:St) (v:Value) (w:World):Prop:=v= .string x/\Rd 175 w q s/\Only q w0 w
theorem eD (c:Cfg) {w:World} {q:Nat} {s:St} (h:Rd 175 w q s) (wd:Nat) (hw:isW (wd:Int)=true) (h4:wd<=4):Calls Tryz.prog 137 #[.agg (ji c q),(wd:Int)] w fun e w'=>e=.returned ((bC s wd).2:Int)/\Rd 175 w' q (bC s wd).1/\Only q w w':=by
 have hlt:=uH s hw h4;have cN:=fun w h=>hid (Wd.CK q s (wd:Int) w h);generalize (bC s (wd:Int)).2=x at*;generalize (bC s (wd:Int)).1=s1 at*;have hc:IntKind.i64.wrap (x:Int)=(x:Int):=by rw [IntKind.wrap_i64];omega
 have HR:=hid h;obtain ⟨cB,cY,cF,cN',cU,cL,cKy,cV⟩:=c;unfold ji;clear h hlt hw h4;go_enter Tryz.func137,Tryz.ntmps137
 go_upto_region 1 with fail
 have hx:=heap_alloc_new w (.cells #[cB,cY,cF,cN',cU,cL,cKy,cV,q] 148);have hb:Bw w (w.alloc (.cells #[cB,cY,cF,cN',cU,cL,cKy,cV,q] 148)):=bAx;generalize w.alloc (.cells #[cB,cY,cF,cN',cU,cL,cKy,cV,q] 148)=w1 at*;obtain ⟨g,hg⟩:∃g,g=w.heap.size:=⟨_,rfl⟩
 rw [<-hg] at hx;simp only [<-hg];obtain ⟨-,-,-,-,-,-,-,-,g8⟩:=j4 hx;have HR1:=hid (HR.out.keep hb);have HB:=hid hb;clear hx hb hg;go_wp2_with (go_at_call 169;refine (cN _ HR1.out).out.mono ?_;rintro e w2 ⟨rfl,hr,ho⟩;have HR2:=hid hr;have HO:=hid ho;clear hr ho)
 go_ret
 exact ⟨rfl,HR2.out,(Wd.Only.of_below HB.out).trans HO.out⟩
theorem xQ (c:Cfg) (q lv np nm:Nat) (w:World) (t:Bool) (ht:t=true↔Room c lv np nm):CB 139 #[.agg (ji c q),(lv:Int),(np:Int),(nm:Int)] w (.bool t):=by
 obtain ⟨cB,cY,cF,cN,cU,cL,cKy,cV⟩:=c;unfold ji;simp only;by_cases h0:lv=0
 . subst h0
   by_cases h1:(np:Int)<=cL
   . by_cases h2:nm=0
     . subst h2
       obtain rfl:t=true:=by
        cases t
        . exact absurd (ht.2 (by unfold Room;first|exact .inl ⟨rfl,h1,rfl⟩|(simp only;omega))) (by simp)
        . rfl
       clear ht;go_enter Tryz.func139,Tryz.ntmps139
       go_upto_region 1 with fail
       have hx:=heap_alloc_new w (.cells #[cB,cY,cF,cN,cU,cL,cKy,cV,q] 148);have hb:Bw w (w.alloc (.cells #[cB,cY,cF,cN,cU,cL,cKy,cV,q] 148)):=bAx;generalize w.alloc (.cells #[cB,cY,cF,cN,cU,cL,cKy,cV,q] 148)=w1 at*;obtain ⟨g,hg⟩:∃g,g=w.heap.size:=⟨_,rfl⟩
       rw [<-hg] at hx;simp only [<-hg];obtain ⟨-,-,-,g3,g4,g5,-,-,-⟩:=j4 hx;have HB:=hid hb;clear hx hb hg;go_wp2_with fail
       go_ret
       exact ⟨rfl,HB.out⟩
     . have h3:((nm:Int)==0)=false:=by simpa using h2
       obtain rfl:t=false:=by
        cases t
        . rfl
        . exact absurd (ht.1 rfl) (by unfold Room;simp only;omega)
       clear ht;go_enter Tryz.func139,Tryz.ntmps139
       go_upto_region 1 with fail
       have hx:=heap_alloc_new w (.cells #[cB,cY,cF,cN,cU,cL,cKy,cV,q] 148);have hb:Bw w (w.alloc (.cells #[cB,cY,cF,cN,cU,cL,cKy,cV,q] 148)):=bAx;generalize w.alloc (.cells #[cB,cY,cF,cN,cU,cL,cKy,cV,q] 148)=w1 at*;obtain ⟨g,hg⟩:∃g,g=w.heap.size:=⟨_,rfl⟩
       rw [<-hg] at hx;simp only [<-hg];obtain ⟨-,-,-,g3,g4,g5,-,-,-⟩:=j4 hx;have HB:=hid hb;clear hx hb hg;go_wp2_with fail
       go_ret
       exact ⟨rfl,HB.out⟩
   . have h3:decide ((np:Int)<=cL)=false:=by simpa using h1
     obtain rfl:t=false:=by
      cases t
      . rfl
      . exact absurd (ht.1 rfl) (by unfold Room;simp only;omega)
     clear ht;go_enter Tryz.func139,Tryz.ntmps139
     go_upto_region 1 with fail
     have hx:=heap_alloc_new w (.cells #[cB,cY,cF,cN,cU,cL,cKy,cV,q] 148);have hb:Bw w (w.alloc (.cells #[cB,cY,cF,cN,cU,cL,cKy,cV,q] 148)):=bAx;generalize w.alloc (.cells #[cB,cY,cF,cN,cU,cL,cKy,cV,q] 148)=w1 at*;obtain ⟨g,hg⟩:∃g,g=w.heap.size:=⟨_,rfl⟩
     rw [<-hg] at hx;simp only [<-hg];obtain ⟨-,-,-,g3,g4,g5,-,-,-⟩:=j4 hx;have HB:=hid hb;clear hx hb hg;go_wp2_with fail
     go_ret
     exact ⟨rfl,HB.out⟩
 . have h9:((lv:Int)==0)=false:=by simpa using h0
   by_cases h1:1<=np
   . have h1':(1:Int)<=(np:Int):=by omega
     by_cases h2:(np:Int)<=cN
     . by_cases h3:(nm:Int)<=cU
       . have h4:(nm:Int)<=cU:=h3
         obtain rfl:t=true:=by
          cases t
          . exact absurd (ht.2 (by unfold Room;first|exact .inl ⟨rfl,h1,rfl⟩|(simp only;omega))) (by simp)
          . rfl
         clear ht;go_enter Tryz.func139,Tryz.ntmps139
         go_upto_region 1 with fail
         have hx:=heap_alloc_new w (.cells #[cB,cY,cF,cN,cU,cL,cKy,cV,q] 148);have hb:Bw w (w.alloc (.cells #[cB,cY,cF,cN,cU,cL,cKy,cV,q] 148)):=bAx;generalize w.alloc (.cells #[cB,cY,cF,cN,cU,cL,cKy,cV,q] 148)=w1 at*;obtain ⟨g,hg⟩:∃g,g=w.heap.size:=⟨_,rfl⟩
         rw [<-hg] at hx;simp only [<-hg];obtain ⟨-,-,-,g3,g4,g5,-,-,-⟩:=j4 hx;have HB:=hid hb;clear hx hb hg;go_wp2_with fail
         go_ret
         exact ⟨rfl,HB.out⟩
       . have h4:decide ((nm:Int)<=cU)=false:=by simpa using h3
         obtain rfl:t=false:=by
          cases t
          . rfl
          . exact absurd (ht.1 rfl) (by unfold Room;simp only;omega)
         clear ht;go_enter Tryz.func139,Tryz.ntmps139
         go_upto_region 1 with fail
         have hx:=heap_alloc_new w (.cells #[cB,cY,cF,cN,cU,cL,cKy,cV,q] 148);have hb:Bw w (w.alloc (.cells #[cB,cY,cF,cN,cU,cL,cKy,cV,q] 148)):=bAx;generalize w.alloc (.cells #[cB,cY,cF,cN,cU,cL,cKy,cV,q] 148)=w1 at*;obtain ⟨g,hg⟩:∃g,g=w.heap.size:=⟨_,rfl⟩
         rw [<-hg] at hx;simp only [<-hg];obtain ⟨-,-,-,g3,g4,g5,-,-,-⟩:=j4 hx;have HB:=hid hb;clear hx hb hg;go_wp2_with fail
         go_ret
         exact ⟨rfl,HB.out⟩
     . have h4:decide ((np:Int)<=cN)=false:=by simpa using h2
       obtain rfl:t=false:=by
        cases t
        . rfl
        . exact absurd (ht.1 rfl) (by unfold Room;simp only;omega)
       clear ht;go_enter Tryz.func139,Tryz.ntmps139
       go_upto_region 1 with fail
       have hx:=heap_alloc_new w (.cells #[cB,cY,cF,cN,cU,cL,cKy,cV,q] 148);have hb:Bw w (w.alloc (.cells #[cB,cY,cF,cN,cU,cL,cKy,cV,q] 148)):=bAx;generalize w.alloc (.cells #[cB,cY,cF,cN,cU,cL,cKy,cV,q] 148)=w1 at*;obtain ⟨g,hg⟩:∃g,g=w.heap.size:=⟨_,rfl⟩
       rw [<-hg] at hx;simp only [<-hg];obtain ⟨-,-,-,g3,g4,g5,-,-,-⟩:=j4 hx;have HB:=hid hb;clear hx hb hg;go_wp2_with fail
       go_ret
       exact ⟨rfl,HB.out⟩
   . have h4:decide ((1:Int)<=(np:Int))=false:=by simp;omega
     obtain rfl:t=false:=by
      cases t
      . rfl
      . exact absurd (ht.1 rfl) (by unfold Room;simp only;omega)
     clear ht;go_enter Tryz.func139,Tryz.ntmps139
     go_upto_region 1 with fail
     have hx:=heap_alloc_new w (.cells #[cB,cY,cF,cN,cU,cL,cKy,cV,q] 148);have hb:Bw w (w.alloc (.cells #[cB,cY,cF,cN,cU,cL,cKy,cV,q] 148)):=bAx;generalize w.alloc (.cells #[cB,cY,cF,cN,cU,cL,cKy,cV,q] 148)=w1 at*;obtain ⟨g,hg⟩:∃g,g=w.heap.size:=⟨_,rfl⟩
     rw [<-hg] at hx;simp only [<-hg];obtain ⟨-,-,-,g3,g4,g5,-,-,-⟩:=j4 hx;have HB:=hid hb;clear hx hb hg;go_wp2_with fail
     go_ret
     exact ⟨rfl,HB.out⟩
end No
end Go.Proofs.YtjpjjnalpdpljaaGreatDoor
namespace Go.Proofs.YtjpjjnalpdpljaaGreatDoor
open Go.RowKit
namespace Sh
open Mem No Bt
structure Sl where
 kd:Int
 n:Nd
 a:At
def jY (x:Sl):List Value:= .int .i64 x.kd::(bL x.n x.a).toList
def SlK:Kind Sl:=⟨71,6,jY,fun _=>rfl,fun m u hu=>by
 simp only [jY,bL,List.mem_cons,List.not_mem_nil,or_false] at hu
 rcases hu with rfl|rfl|rfl|rfl|rfl|rfl<;>rfl⟩
def nd0:Nd:=⟨0,[],[],[],[]⟩
def at0:At:=⟨none,0,none,0,none,0,none,0⟩
def sl0:Sl:=⟨0,nd0,at0⟩
structure Ds where
 c:Cfg
 l:List Sl
 held:List Bool
 kept:Nat
def there (s:Ds) (i:Nat):Prop:=0<i/\(i:Int)<s.c.blocks
instance (s:Ds) (i:Nat):Decidable (there s i):=inferInstanceAs (Decidable (_/\_))
def bY (s:Ds) (A:Option Addr) (cl h ch:Nat):Array Value:= #[.int .i64 s.c.blocks,.int .i64 s.c.bytes,.int .i64 s.c.frames,.int .i64 s.c.fan,.int .i64 s.c.buffer,.int .i64 s.c.leaf,.int .i64 s.c.key,.int .i64 s.c.val,.slice A s.l.length cl,.slice (some ⟨h,0,none⟩) s.held.length ch,.int .u32 (s.kept:Int)]
structure DsW (w:World) (B:Nat) (s:Ds) (A:Option Addr) (cl h ch:Nat):Prop where
 rd:RC SlK w A cl s.l
 bl:Bt.bE w h ch s.held.length s.held
 len:(s.l.length:Int)=s.c.blocks
 hlen:s.held.length=s.l.length
 lo:∀a,A=some a->B<=a.block
 hlo:B<=h
 few:s.l.length<=65536
theorem EN {s:Ds} {i:Nat} (hl:(s.l.length:Int)=s.c.blocks) (h:there s i):i<s.l.length:=by
 have:=h.2;omega
def vH (s:Ds) (i:Nat) (x:Sl):Ds:={ s with l:=s.l.set i x }
end Sh
end Go.Proofs.YtjpjjnalpdpljaaGreatDoor
set_option maxHeartbeats 2000000
set_option maxRecDepth 100000
namespace Go.Proofs.YtjpjjnalpdpljaaGreatDoor
open Go.RowKit
namespace Sh
open Mem No Bt Bu
theorem aW {w:World} {b:Nat} {v0 v1 v2 v3 v4 v5 v6 v7 v8 v9 v10:Value} {U:TypeId} (h:w.heap[b]? =some (.cells #[v0,v1,v2,v3,v4,v5,v6,v7,v8,v9,v10] U (0,0))):w.cell? ⟨b,0,none⟩=some v0/\w.cell? ⟨b,1,none⟩=some v1/\w.cell? ⟨b,2,none⟩=some v2/\w.cell? ⟨b,3,none⟩=some v3/\w.cell? ⟨b,4,none⟩=some v4/\w.cell? ⟨b,5,none⟩=some v5/\w.cell? ⟨b,6,none⟩=some v6/\w.cell? ⟨b,7,none⟩=some v7/\w.cell? ⟨b,8,none⟩=some v8/\w.cell? ⟨b,9,none⟩=some v9/\w.cell? ⟨b,10,none⟩=some v10:=by
 simp [World.cell?,h]
theorem iY (s:Ds) (A:Option Addr) (cl h ch i:Nat) (hi:i<4294967296) (w:World) (x:Bool) (hx:x=true↔there s i):CB 50 #[.agg (bY s A cl h ch),.int .u32 (i:Int)] w (.bool x):=by
 obtain ⟨⟨cB,cY,cF,cN,cU,cL,cKy,cV⟩,l,held,kept⟩:=s;unfold bY;unfold there at hx;simp only at hx ⊢;have hcv:IntKind.i64.wrap (i:Int)=(i:Int):=by rw [IntKind.wrap_i64];omega
 by_cases h1:0<i
 . have h1':(0:Int)<(i:Int):=by omega
   have H2:Hid (x=true↔(i:Int)<cB):=hx.trans ⟨fun h=>h.2,fun h=>⟨h1,h⟩⟩;clear hx;go_enter Tryz.func50,Tryz.ntmps50
   go_upto_region 1 with fail
   have hx:=heap_alloc_new w (.cells #[cB,cY,cF,cN,cU,cL,cKy,cV,.slice A l.length cl,.slice (some ⟨h,0,none⟩) held.length ch,.int .u32 (kept:Int)] 35);have hb:Bw w (w.alloc (.cells #[cB,cY,cF,cN,cU,cL,cKy,cV,.slice A l.length cl,.slice (some ⟨h,0,none⟩) held.length ch,.int .u32 (kept:Int)] 35)):=bAx;generalize w.alloc (.cells #[cB,cY,cF,cN,cU,cL,cKy,cV,.slice A l.length cl,.slice (some ⟨h,0,none⟩) held.length ch,.int .u32 (kept:Int)] 35)=w1 at*;obtain ⟨g,hg⟩:∃g,g=w.heap.size:=⟨_,rfl⟩
   rw [<-hg] at hx;simp only [<-hg];clear hg;obtain ⟨g0,-⟩:=aW hx;have HB:=Lib.hid hb;clear hx hb;by_cases h2:(i:Int)<cB
   . obtain rfl:x=true:=H2.out.2 h2
     clear H2;go_wp2_with fail
     go_ret
     exact ⟨rfl,HB.out⟩
   . have h2n:decide ((i:Int)<cB)=false:=by simpa using h2
     obtain rfl:x=false:=by
      cases x
      . rfl
      . exact absurd (H2.out.1 rfl) h2
     clear H2;go_wp2_with fail
     go_ret
     exact ⟨rfl,HB.out⟩
 . obtain rfl:i=0:=by omega
   obtain rfl:x=false:=by
    cases x
    . rfl
    . exact absurd (hx.1 rfl).1 (by omega)
   clear hx;go_enter Tryz.func50,Tryz.ntmps50
   go_upto_region 1 with fail
   generalize hw1:w.alloc _=w1
   have HB:Hid (Bw w w1):=by
    rw [<-hw1];exact bAx
   clear hw1;go_wp2_with fail
   go_ret
   exact ⟨rfl,HB.out⟩
end Sh
end Go.Proofs.YtjpjjnalpdpljaaGreatDoor
set_option maxHeartbeats 2000000
set_option maxRecDepth 100000
namespace Go.Proofs.YtjpjjnalpdpljaaGreatDoor
open Go.RowKit
open Go.Lib (hid)
namespace Sh
open Mem No Bt Bu
theorem EO:(Tryz.prog.info? 71).map (fun i=>(i.zero,i.size,i.bytes))=some (some (.agg (jY sl0).toArray),6,112):=by kernel_rfl
def st6 (w:World) (g p:Nat) (v0 v1 v2 v3 v4 v5:Value):World:=(((((w.setCell ⟨g,p,none⟩ v0).setCell ⟨g,p+1,none⟩ v1).setCell ⟨g,p+2,none⟩ v2).setCell ⟨g,p+3,none⟩ v3).setCell ⟨g,p+4,none⟩ v4).setCell ⟨g,p+5,none⟩ v5
theorem KR {L:List Sl} {p:Nat} (x:Sl) (hp:p<L.length) {v0 v1 v2 v3 v4 v5:Value} (hx:jY x=[v0,v1,v2,v3,v4,v5]):((((((L.flatMap jY).set (p*6) v0).set (p*6+1) v1).set (p*6+2) v2).set (p*6+3) v3).set (p*6+4) v4).set (p*6+5) v5=(L.set p x).flatMap jY:=by
 induction L generalizing p with
 |nil=>simp at hp
 |cons y l ih=>
  cases p with
  |zero=>
   simp only [List.set_cons_zero,List.flatMap_cons,hx];simp [jY,bL]
  |succ p=>
   have h:=ih (p:=p) (by simpa using hp)
   have e:∀(q:Nat) (v:Value) (T:List Value),(jY y++T).set (p*6+6+q) v=jY y++T.set (p*6+q) v:=fun q v T=>by
    have hl:(jY y).length=6:=rfl;rw [List.set_append_right _ _ (by omega),hl];(congr 2);omega
   rw [List.flatMap_cons,List.set_cons_succ,List.flatMap_cons,<-h,show (p+1)*6=p*6+6+0 by omega,e 0,show p*6+6+0+1=p*6+6+1 by omega,e 1,show p*6+6+0+2=p*6+6+2 by omega,e 2,show p*6+6+0+3=p*6+6+3 by omega,e 3,show p*6+6+0+4=p*6+6+4 by omega,e 4,show p*6+6+0+5=p*6+6+5 by omega,e 5,Nat.add_zero]
theorem Nr {w:World} {B g c p:Nat} {L:List Sl} (h:VK SlK w B (some ⟨g,0,none⟩) c L) (x:Sl) (hp:p<L.length) {v0 v1 v2 v3 v4 v5:Value} (hx:jY x=[v0,v1,v2,v3,v4,v5]):VK SlK (st6 w g (p*6) v0 v1 v2 v3 v4 v5) B (some ⟨g,0,none⟩) c (L.set p x):=by
 have h1:=(World.ownsRow.stored h (p*6) v0).1;have h2:=(World.ownsRow.stored h1 (p*6+1) v1).1;have h3:=(World.ownsRow.stored h2 (p*6+2) v2).1;have h4:=(World.ownsRow.stored h3 (p*6+3) v3).1;have h5:=(World.ownsRow.stored h4 (p*6+4) v4).1;have h6:=(World.ownsRow.stored h5 (p*6+5) v5).1;rw [show SlK.cs=jY from rfl,KR x hp hx] at h6;unfold VK;rw [List.length_set];exact h6
theorem mU {α:Type} {K:Kind α} {w:World} {B g c:Nat} {L:List α} (h:VK K w B (some ⟨g,0,none⟩) c L) (j:Nat):w.frozen? ⟨g,j,none⟩=false:=by
 rcases h.2 with ⟨h',_⟩|⟨g',cap,cur,h',_,hg,_⟩
 . cases h'
 . obtain ⟨rfl,-⟩:g=g'/\c=cap:=by simpa using h'
   exact au hg j
theorem EP {B g p:Nat} {a w:World} (h:Below B a w) (hb:B<=g) (v0 v1 v2 v3 v4 v5:Value):Below B a (st6 w g p v0 v1 v2 v3 v4 v5):=(((((h.setCell hb v0).setCell hb v1).setCell hb v2).setCell hb v3).setCell hb v4).setCell hb v5
theorem vI {w:World} {g p k:Nat} (hk:k≠g) (v0 v1 v2 v3 v4 v5:Value):(st6 w g p v0 v1 v2 v3 v4 v5).heap[k]? =w.heap[k]? :=by
 unfold st6;rw [aQ _ hk,aQ _ hk,aQ _ hk,aQ _ hk,aQ _ hk,aQ _ hk]
theorem aM (W:World) (X Y Z:Obj):(((W.alloc X).alloc Y).alloc Z).heap[W.heap.size]? =some X/\(((W.alloc X).alloc Y).alloc Z).heap[W.heap.size+1]? =some Y/\(((W.alloc X).alloc Y).alloc Z).heap[W.heap.size+1+1]? =some Z/\Bw W (((W.alloc X).alloc Y).alloc Z):=by
 obtain ⟨h1,h2,h3⟩:=aR W X Y;have hb:Below ((W.alloc X).alloc Y).heap.size ((W.alloc X).alloc Y) (((W.alloc X).alloc Y).alloc Z):=bAx;refine ⟨aC h1 hb,aC h2 hb,?_,h3.trans (hb.mono h3.size)⟩;have:=heap_alloc_new ((W.alloc X).alloc Y) Z;simpa using this
theorem RI {w:World} {b:Nat} {v0 v1 v2 v3 v4 v5:Value} {U:TypeId} (h:w.heap[b]? =some (.cells #[v0,v1,v2,v3,v4,v5] U (0,0))):w.cell? ⟨b,0,none⟩=some v0/\w.cell? ⟨b,1,none⟩=some v1/\w.cell? ⟨b,2,none⟩=some v2/\w.cell? ⟨b,3,none⟩=some v3/\w.cell? ⟨b,4,none⟩=some v4/\w.cell? ⟨b,5,none⟩=some v5:=by
 simp [World.cell?,h]
theorem Ig {w:World} {b:Nat} {u0 u1 u2 u3 u4 u5 u6 u7 u8 u9 u10:Value} {U:TypeId} (h:w.heap[b]? =some (.cells #[u0,u1,u2,u3,u4,u5,u6,u7,u8,u9,u10] U (0,0))) (v:Value):(w.setCell ⟨b,8,none⟩ v).heap[b]? =some (.cells #[u0,u1,u2,u3,u4,u5,u6,u7,v,u9,u10] U (0,0)):=by
 simp [World.setCell,Array.getElem?_modify,h]
theorem jm {α:Type} {K:Kind α} {w:World} {B b c i:Nat} {A:Option Addr} {L:List α} (h:VK K w B A c L) (v:Value) (hb:b<B):VK K (w.setCell ⟨b,i,none⟩ v) B A c L:=h.keep fun a ha=>aQ v (by have:=(h.at_ a ha).1;omega)
def eF (w:World) (b:Nat) (v0 v1 v2 v3 v4 v5 v6 v7 v8 v9 v10:Value):World:=((((((((((w.setCell ⟨b,0,none⟩ v0).setCell ⟨b,1,none⟩ v1).setCell ⟨b,2,none⟩ v2).setCell ⟨b,3,none⟩ v3).setCell ⟨b,4,none⟩ v4).setCell ⟨b,5,none⟩ v5).setCell ⟨b,6,none⟩ v6).setCell ⟨b,7,none⟩ v7).setCell ⟨b,8,none⟩ v8).setCell ⟨b,9,none⟩ v9).setCell ⟨b,10,none⟩ v10
theorem bT {w:World} {b:Nat} {u0 u1 u2 u3 u4 u5 u6 u7 u8 u9 u10:Value} {U:TypeId} (h:w.heap[b]? =some (.cells #[u0,u1,u2,u3,u4,u5,u6,u7,u8,u9,u10] U (0,0))) (v0 v1 v2 v3 v4 v5 v6 v7 v8 v9 v10:Value):(eF w b v0 v1 v2 v3 v4 v5 v6 v7 v8 v9 v10).heap[b]? =some (.cells #[v0,v1,v2,v3,v4,v5,v6,v7,v8,v9,v10] U (0,0)):=by
 unfold eF;simp [World.setCell,Array.getElem?_modify,h]
theorem bB {B b:Nat} {a w:World} (h:Below B a w) (hb:B<=b) (v0 v1 v2 v3 v4 v5 v6 v7 v8 v9 v10:Value):Below B a (eF w b v0 v1 v2 v3 v4 v5 v6 v7 v8 v9 v10):=((((((((((h.setCell hb v0).setCell hb v1).setCell hb v2).setCell hb v3).setCell hb v4).setCell hb v5).setCell hb v6).setCell hb v7).setCell hb v8).setCell hb v9).setCell hb v10
theorem Ih {α:Type} {K:Kind α} {w:World} {B b c:Nat} {A:Option Addr} {L:List α} (h:VK K w B A c L) (hb:b<B) (v0 v1 v2 v3 v4 v5 v6 v7 v8 v9 v10:Value):VK K (eF w b v0 v1 v2 v3 v4 v5 v6 v7 v8 v9 v10) B A c L:=jm (jm (jm (jm (jm (jm (jm (jm (jm (jm (jm h v0 hb) v1 hb) v2 hb) v3 hb) v4 hb) v5 hb) v6 hb) v7 hb) v8 hb) v9 hb) v10 hb
theorem pR (s:Ds) (A:Option Addr) (cl h ch i:Nat) (x:Sl) (hi:i<s.l.length) (_:i<4294967296) (w:World) (hr:RC SlK w A cl s.l) (hlen:s.l.length<=65536):Calls Tryz.prog 78 #[.agg (bY s A cl h ch),.int .u32 (i:Int),.agg (jY x).toArray] w fun e w'=>(∃A' c',e=.returned (.agg (bY (vH s i x) A' c' h ch))/\RC SlK w' A' c' (s.l.set i x)/\∀a,A'=some a->w.heap.size<=a.block)/\Bw w w':=by
 obtain ⟨⟨cB,cY,cF,cN,cU,cL,cKy,cV⟩,l,held,kept⟩:=s;obtain ⟨kd,lv,kA,kn,kc,pA,pn,pc,bA,bn,bc,rA,rn,rc,hx⟩:∃kd lv kA kn kc pA pn pc bA bn bc rA rn rc,jY x=[.int .i64 kd,.int .i64 lv,.slice kA kn kc,.slice pA pn pc,.slice bA bn bc,.slice rA rn rc]:=⟨_,_,_,_,_,_,_,_,_,_,_,_,_,_,rfl⟩
 obtain ⟨n,hn⟩:∃n,n=l.length:=⟨_,rfl⟩
 obtain ⟨m,hm⟩:∃m,m=held.length:=⟨_,rfl⟩
 rw [hx];unfold bY vH;simp only [<-hn,<-hm,List.length_set] at hi hr hlen ⊢;have HN:Hid (l.length=n):=hn.symm;have HX:Hid (jY x=[.int .i64 kd,.int .i64 lv,.slice kA kn kc,.slice pA pn pc,.slice bA bn bc,.slice rA rn rc]):=hx;have HR:=hid hr;clear hn hm hx hr;go_enter Tryz.func78,Tryz.ntmps78
 go_upto_region 1 with fail
 generalize hw1:((w.alloc _).alloc _).alloc _=w1
 have HA:Hid (w1.heap[w.heap.size]? =some (.cells #[cB,cY,cF,cN,cU,cL,cKy,cV,.slice A n cl,.slice (some ⟨h,0,none⟩) m ch,.int .u32 (kept:Int)] 35 (0,0))):=by
  rw [<-hw1];exact (aM w _ _ _).1
 have HS:Hid (w1.heap[w.heap.size+1]? =some (.cells #[kd,lv,.slice kA kn kc,.slice pA pn pc,.slice bA bn bc,.slice rA rn rc] 71 (0,0))):=by
  rw [<-hw1];exact (aM w _ _ _).2.1
 have HZ:Hid (w1.heap[w.heap.size+1+1]? =some (.cells #[(0:Int),(0:Int),(0:Int),(0:Int),(0:Int),(0:Int),(0:Int),(0:Int),(),(),.int .u32 0] 35 (0,0))):=by
  rw [<-hw1];exact (aM w _ _ _).2.2.1
 have HB:Hid (Bw w w1):=by
  rw [<-hw1];exact (aM w _ _ _).2.2.2
 clear hw1;obtain ⟨g,hg⟩:∃g,g=w.heap.size:=⟨_,rfl⟩
 rw [<-hg] at HA HS HZ;simp only [<-hg];have HG:Hid (w.heap.size<=g):=by unfold Hid;omega
 have HG1:Hid (g+1+1<w1.heap.size):=(Array.getElem?_eq_some_iff.1 HZ.out).1;clear hg;have hb3:Bw w1 (w1.alloc (.cells #[] 71)):=bAx;have HAL:Hid (RdK SlK (w1.alloc (.cells #[] 71)) A l):=(HR.out.kept (HB.out.trans (hb3.mono HB.out.size))).1;have HV0:Hid (VK SlK (w1.alloc (.cells #[] 71)) w1.heap.size (some ⟨w1.heap.size,0,none⟩) 0 []):=VK.lit (K:=SlK) w1 w1.heap.size (Nat.le_refl _);have hn2:0+n<=1048576:=by omega
 have hs3:=hb3.size;have HB3:=hid hb3;obtain ⟨-,-,-,-,-,-,-,-,a8,-⟩:=aW (aC HA.out hb3);clear hb3;go_upto_region 2 with (with_reducible refine kQ (K:=SlK) Tryz.underlying32 EO rfl (by decide) (by decide) rfl (.tmp 8) (.tmp 10) rfl w1.heap.size (some ⟨w1.heap.size,0,none⟩) 0 0 [] rfl rfl HV0.out A n cl l rfl HN.out HAL.out hn2 hs3 ?_;intro Aw cw w4 hv4 hb4)
 have hb:=HB3.out.trans hb4.out;have HV:Hid (VK SlK w4 w1.heap.size Aw cw l):=hv4.out;replace HA:=hid (aC HA.out hb);replace HS:=hid (aC HS.out hb);replace HZ:=hid (aC HZ.out hb);have HW:Hid (Bw w w4):=HB.out.trans (hb.mono HB.out.size);clear hv4 hb4 HV0 HAL HB3 hs3 hn2 a8 hb;obtain ⟨x0,hx0⟩:∃x0,l[i]? =some x0:=⟨l[i]'(by have:=HN.out;omega),List.getElem?_eq_getElem _⟩
 obtain ⟨q,rfl,hc⟩:=HV.out.cell hx0;obtain ⟨u0,u1,u2,u3,u4,u5,hu⟩:∃u0 u1 u2 u3 u4 u5,jY x0=[u0,u1,u2,u3,u4,u5]:=⟨_,_,_,_,_,_,rfl⟩
 rw [show SlK.cs=jY from rfl,show SlK.k=6 from rfl,hu] at hc;have e0:=hc 0 u0 rfl;have e1:=hc 1 u1 rfl;have e2:=hc 2 u2 rfl;have e3:=hc 3 u3 rfl;have e4:=hc 4 u4 rfl;have e5:=hc 5 u5 rfl;rw [Nat.add_zero] at e0;clear hx0 hc hu;obtain ⟨s0,s1,s2,s3,s4,s5⟩:=RI HS.out;have hi':(i:Int)<(n:Int):=by omega
 have f0:=mU HV.out (i*6);have f1:=mU HV.out (i*6+1);have f2:=mU HV.out (i*6+2);have f3:=mU HV.out (i*6+3);have f4:=mU HV.out (i*6+4);have f5:=mU HV.out (i*6+5);go_upto_region 3 with fail
 clear s0 s1 s2 s3 s4 s5 e0 e1 e2 e3 e4 e5 f0 f1 f2 f3 f4 f5;have hq:w1.heap.size<=q:=(HV.out.at_ _ rfl).1;have hL:i<l.length:=by have:=HN.out;omega
 have HV5:=hid (Nr HV.out x hL HX.out);have hg1:=HG1.out;have hg0:=HG.out;replace HA:=hid ((vI (w:=w4) (g:=q) (p:=i*6) (k:=g) (by omega) (.int .i64 kd) (.int .i64 lv) (.slice kA kn kc) (.slice pA pn pc) (.slice bA bn bc) (.slice rA rn rc)).trans HA.out);replace HZ:=hid ((vI (w:=w4) (g:=q) (p:=i*6) (k:=g+1+1) (by omega) (.int .i64 kd) (.int .i64 lv) (.slice kA kn kc) (.slice pA pn pc) (.slice bA bn bc) (.slice rA rn rc)).trans HZ.out);replace HW:=hid (EP HW.out (g:=q) (p:=i*6) (by omega) (.int .i64 kd) (.int .i64 lv) (.slice kA kn kc) (.slice pA pn pc) (.slice bA bn bc) (.slice rA rn rc));clear HS HV;rw [show (((((w4.setCell ⟨q,i*6,none⟩ kd).setCell ⟨q,i*6+1,none⟩ lv).setCell ⟨q,i*6+2,none⟩ (.slice kA kn kc)).setCell ⟨q,i*6+3,none⟩ (.slice pA pn pc)).setCell ⟨q,i*6+4,none⟩ (.slice bA bn bc)).setCell ⟨q,i*6+5,none⟩ (.slice rA rn rc)=st6 w4 q (i*6) (.int .i64 kd) (.int .i64 lv) (.slice kA kn kc) (.slice pA pn pc) (.slice bA bn bc) (.slice rA rn rc) from rfl];generalize st6 w4 q (i*6) (.int .i64 kd) (.int .i64 lv) (.slice kA kn kc) (.slice pA pn pc) (.slice bA bn bc) (.slice rA rn rc)=w5 at*;obtain ⟨a0,a1,a2,a3,a4,a5,a6,a7,a8,a9,a10⟩:=aW HA.out;have fr:=au HA.out 8;go_upto_region 4 with fail
 clear a0 a1 a2 a3 a4 a5 a6 a7 a8 a9 a10 fr;replace HA:=hid (Ig HA.out (.slice (some ⟨q,0,none⟩) n cw));replace HZ:=hid ((aQ (i:=8) (.slice (some ⟨q,0,none⟩) n cw) (show g+1+1≠g by omega)).trans HZ.out);replace HW:Hid (Bw w (w5.setCell ⟨g,8,none⟩ (.slice (some ⟨q,0,none⟩) n cw))):=HW.out.setCell hg0 _;replace HV5:=hid (jm (i:=8) HV5.out (.slice (some ⟨q,0,none⟩) n cw) (show g<w1.heap.size by omega));generalize w5.setCell ⟨g,8,none⟩ (.slice (some ⟨q,0,none⟩) n cw)=w6 at*;obtain ⟨a0,a1,a2,a3,a4,a5,a6,a7,a8,a9,a10⟩:=aW HA.out;obtain ⟨z0,z1,z2,z3,z4,z5,z6,z7,z8,z9,z10⟩:=aW HZ.out;have f0:=au HZ.out 0;have f1:=au HZ.out 1;have f2:=au HZ.out 2;have f3:=au HZ.out 3;have f4:=au HZ.out 4;have f5:=au HZ.out 5;have f6:=au HZ.out 6;have f7:=au HZ.out 7;have f8:=au HZ.out 8;have f9:=au HZ.out 9;have f10:=au HZ.out 10;have HU:=hid (bT HZ.out cB cY cF cN cU cL cKy cV (.slice (some ⟨q,0,none⟩) n cw) (.slice (some ⟨h,0,none⟩) m ch) (.int .u32 (kept:Int)));have HBW:=hid (bB HW.out (show w.heap.size<=g+1+1 by omega) cB cY cF cN cU cL cKy cV (.slice (some ⟨q,0,none⟩) n cw) (.slice (some ⟨h,0,none⟩) m ch) (.int .u32 (kept:Int)));have HVW:=hid (Ih HV5.out hg1 cB cY cF cN cU cL cKy cV (.slice (some ⟨q,0,none⟩) n cw) (.slice (some ⟨h,0,none⟩) m ch) (.int .u32 (kept:Int)));unfold eF at HU HBW HVW;go_wp2_with fail
 clear a0 a1 a2 a3 a4 a5 a6 a7 a8 a9 a10 z0 z1 z2 z3 z4 z5 z6 z7 z8 z9 z10 f0 f1 f2 f3 f4 f5 f6 f7 f8 f9 f10;obtain ⟨y0,y1,y2,y3,y4,y5,y6,y7,y8,y9,y10⟩:=aW HU.out;refine bodyPost_ret (v:= .agg #[cB,cY,cF,cN,cU,cL,cKy,cV,.slice (some ⟨q,0,none⟩) n cw,.slice (some ⟨h,0,none⟩) m ch,.int .u32 (kept:Int)]) (by simp [results,Tryz.results78,go_sem,y0,y1,y2,y3,y4,y5,y6,y7,y8,y9,y10]) rfl ⟨⟨some ⟨q,0,none⟩,cw,rfl,?_,fun a ha=>?_⟩,HBW.out⟩
 . have:=HVW.out.rc
   have e:(l.set i x).length=n:=(by rw [List.length_set];exact HN.out);exact this
 . cases ha
   exact Nat.le_trans HG.out (Nat.le_trans (show g<=w1.heap.size by omega) hq)
end Sh
end Go.Proofs.YtjpjjnalpdpljaaGreatDoor
set_option maxHeartbeats 4000000
set_option maxRecDepth 100000
namespace Go.Proofs.YtjpjjnalpdpljaaGreatDoor
open Go.RowKit
open Go.Lib (hid)
namespace Sh
open Mem No Bt Bu
def kpE (s:Ds) (i:Nat):Int:=if 0<i/\¬there s i then 4 else 0
def kpS (s:Ds) (i:Nat):Ds:=if 0<i/\¬there s i then s else { s with kept:=i }
theorem vJ {w:World} {b:Nat} {u0 u1 u2 u3 u4 u5 u6 u7 u8 u9 u10:Value} {U:TypeId} (h:w.heap[b]? =some (.cells #[u0,u1,u2,u3,u4,u5,u6,u7,u8,u9,u10] U (0,0))) (v:Value):(w.setCell ⟨b,10,none⟩ v).heap[b]? =some (.cells #[u0,u1,u2,u3,u4,u5,u6,u7,u8,u9,v] U (0,0)):=by
 simp [World.setCell,Array.getElem?_modify,h]
theorem ES (s:Ds) (A:Option Addr) (cl h ch i:Nat) (h32:i<4294967296) (w:World):
 CB 45 #[.agg (bY s A cl h ch),.int .u32 (i:Int)] w (.tuple #[.agg (bY (kpS s i) A cl h ch),(kpE s i:Int)]):=by
 have cT:∀x:Bool,(x=true↔there s i)->∀w,Hid (CB 50 #[.agg (bY s A cl h ch),.int .u32 (i:Int)] w (.bool x)):=fun x hx w=>iY s A cl h ch i h32 w x hx
 unfold kpE kpS;by_cases ht:there s i
 case pos=>
  rw [if_neg (fun h=>h.2 ht),if_neg (fun h=>h.2 ht)];replace cT:=cT true ⟨fun _=>ht,fun _=>rfl⟩;have h0:(0:Int)<(i:Int):=by have:=ht.1;omega
  clear ht h32;obtain ⟨⟨cB,cY,cF,cN,cU,cL,cKy,cV⟩,l,held,kept⟩:=s;unfold bY at*;simp only at cT ⊢;generalize l.length=n at*;generalize held.length=m at*;go_enter Tryz.func45,Tryz.ntmps45
  go_upto_region 1 with fail
  generalize hw1:(w.alloc _).alloc _=w1
  have HA:Hid (w1.heap[w.heap.size]? =some (.cells #[cB,cY,cF,cN,cU,cL,cKy,cV,.slice A n cl,.slice (some ⟨h,0,none⟩) m ch,.int .u32 (kept:Int)] 35 (0,0))):=by
   rw [<-hw1];exact (aR w _ _).1
  have HZ:Hid (w1.heap[w.heap.size+1]? =some (.cells #[(0:Int),(0:Int),(0:Int),(0:Int),(0:Int),(0:Int),(0:Int),(0:Int),(),(),.int .u32 0] 35 (0,0))):=by
   rw [<-hw1];exact (aR w _ _).2.1
  have HB:Hid (Bw w w1):=by
   rw [<-hw1];exact (aR w _ _).2.2
  clear hw1;obtain ⟨g,hg⟩:∃g,g=w.heap.size:=⟨_,rfl⟩
  rw [<-hg] at HA HZ;simp only [<-hg];have HG:Hid (w.heap.size<=g):=by unfold Hid;omega
  clear hg;obtain ⟨a0,a1,a2,a3,a4,a5,a6,a7,a8,a9,a10⟩:=aW HA.out;go_upto_region 3 with (go_at_call 50;refine (cT _).out.mono ?_;rintro e w2 ⟨rfl,hb⟩)
  clear a0 a1 a2 a3 a4 a5 a6 a7 a8 a9 a10 cT;replace HZ:=hid (aC HZ.out hb);replace HA:=hid (aC HA.out hb);replace HB:=hid (HB.out.trans (hb.mono HB.out.size));clear hb;obtain ⟨a0,a1,a2,a3,a4,a5,a6,a7,a8,a9,a10⟩:=aW HA.out;have fr:=au HA.out 10;go_upto_region 4 with fail
  clear a0 a1 a2 a3 a4 a5 a6 a7 a8 a9 a10 fr;replace HA:=hid (vJ HA.out (.int .u32 (i:Int)));replace HZ:=hid ((aQ (i:=10) (.int .u32 (i:Int)) (show g+1≠g by omega)).trans HZ.out);replace HB:Hid (Bw w (w2.setCell ⟨g,10,none⟩ (.int .u32 (i:Int)))):=HB.out.setCell HG.out _;generalize w2.setCell ⟨g,10,none⟩ (.int .u32 (i:Int))=w6 at*;obtain ⟨a0,a1,a2,a3,a4,a5,a6,a7,a8,a9,a10⟩:=aW HA.out;obtain ⟨z0,z1,z2,z3,z4,z5,z6,z7,z8,z9,z10⟩:=aW HZ.out;have f0:=au HZ.out 0;have f1:=au HZ.out 1;have f2:=au HZ.out 2;have f3:=au HZ.out 3;have f4:=au HZ.out 4;have f5:=au HZ.out 5;have f6:=au HZ.out 6;have f7:=au HZ.out 7;have f8:=au HZ.out 8;have f9:=au HZ.out 9;have f10:=au HZ.out 10;have HU:=hid (bT HZ.out cB cY cF cN cU cL cKy cV (.slice A n cl) (.slice (some ⟨h,0,none⟩) m ch) (.int .u32 (i:Int)));have HBW:=hid (bB HB.out (show w.heap.size<=g+1 by have:=HG.out;omega) cB cY cF cN cU cL cKy cV (.slice A n cl) (.slice (some ⟨h,0,none⟩) m ch) (.int .u32 (i:Int)));unfold eF at HU HBW;go_wp2_with fail
  obtain ⟨y0,y1,y2,y3,y4,y5,y6,y7,y8,y9,y10⟩:=aW HU.out;exact bodyPost_ret (v:= .tuple #[.agg #[cB,cY,cF,cN,cU,cL,cKy,cV,.slice A n cl,.slice (some ⟨h,0,none⟩) m ch,.int .u32 (i:Int)],(0:Int)]) (by simp [results,Tryz.results45,go_sem,y0,y1,y2,y3,y4,y5,y6,y7,y8,y9,y10]) rfl ⟨rfl,HBW.out⟩
 case neg=>
 by_cases h0:0<i
 case pos=>
  rw [if_pos ⟨h0,ht⟩,if_pos ⟨h0,ht⟩];replace cT:=cT false ⟨fun h=>(by cases h),fun h=>absurd h ht⟩;have h0':(0:Int)<(i:Int):=by omega
  clear ht h32 h0;obtain ⟨⟨cB,cY,cF,cN,cU,cL,cKy,cV⟩,l,held,kept⟩:=s;unfold bY at*;simp only at cT ⊢;generalize l.length=n at*;generalize held.length=m at*;go_enter Tryz.func45,Tryz.ntmps45
  go_upto_region 1 with fail
  generalize hw1:(w.alloc _).alloc _=w1
  have HA:Hid (w1.heap[w.heap.size]? =some (.cells #[cB,cY,cF,cN,cU,cL,cKy,cV,.slice A n cl,.slice (some ⟨h,0,none⟩) m ch,.int .u32 (kept:Int)] 35 (0,0))):=by
   rw [<-hw1];exact (aR w _ _).1
  have HZ:Hid (w1.heap[w.heap.size+1]? =some (.cells #[(0:Int),(0:Int),(0:Int),(0:Int),(0:Int),(0:Int),(0:Int),(0:Int),(),(),.int .u32 0] 35 (0,0))):=by
   rw [<-hw1];exact (aR w _ _).2.1
  have HB:Hid (Bw w w1):=by
   rw [<-hw1];exact (aR w _ _).2.2
  clear hw1;obtain ⟨g,hg⟩:∃g,g=w.heap.size:=⟨_,rfl⟩
  rw [<-hg] at HA HZ;simp only [<-hg];have HG:Hid (w.heap.size<=g):=by unfold Hid;omega
  clear hg;obtain ⟨a0,a1,a2,a3,a4,a5,a6,a7,a8,a9,a10⟩:=aW HA.out;go_upto_region 2 with (go_at_call 50;refine (cT _).out.mono ?_;rintro e w2 ⟨rfl,hb⟩)
  clear a0 a1 a2 a3 a4 a5 a6 a7 a8 a9 a10 cT;replace HZ:=hid (aC HZ.out hb);replace HA:=hid (aC HA.out hb);replace HB:=hid (HB.out.trans (hb.mono HB.out.size));clear hb;obtain ⟨a0,a1,a2,a3,a4,a5,a6,a7,a8,a9,a10⟩:=aW HA.out;obtain ⟨z0,z1,z2,z3,z4,z5,z6,z7,z8,z9,z10⟩:=aW HZ.out;have f0:=au HZ.out 0;have f1:=au HZ.out 1;have f2:=au HZ.out 2;have f3:=au HZ.out 3;have f4:=au HZ.out 4;have f5:=au HZ.out 5;have f6:=au HZ.out 6;have f7:=au HZ.out 7;have f8:=au HZ.out 8;have f9:=au HZ.out 9;have f10:=au HZ.out 10;have HU:=hid (bT HZ.out cB cY cF cN cU cL cKy cV (.slice A n cl) (.slice (some ⟨h,0,none⟩) m ch) (.int .u32 (kept:Int)));have HBW:=hid (bB HB.out (show w.heap.size<=g+1 by have:=HG.out;omega) cB cY cF cN cU cL cKy cV (.slice A n cl) (.slice (some ⟨h,0,none⟩) m ch) (.int .u32 (kept:Int)));unfold eF at HU HBW;go_wp2_with fail
  obtain ⟨y0,y1,y2,y3,y4,y5,y6,y7,y8,y9,y10⟩:=aW HU.out;exact bodyPost_ret (v:= .tuple #[.agg #[cB,cY,cF,cN,cU,cL,cKy,cV,.slice A n cl,.slice (some ⟨h,0,none⟩) m ch,.int .u32 (kept:Int)],(4:Int)]) (by simp [results,Tryz.results45,go_sem,y0,y1,y2,y3,y4,y5,y6,y7,y8,y9,y10]) rfl ⟨rfl,HBW.out⟩
 case neg=>
  rw [if_neg (fun h=>h0 h.1),if_neg (fun h=>h0 h.1)];obtain rfl:i=0:=by omega
  replace cT:=cT false;clear ht h32 h0;obtain ⟨⟨cB,cY,cF,cN,cU,cL,cKy,cV⟩,l,held,kept⟩:=s;unfold bY at*;simp only at cT ⊢;generalize l.length=n at*;generalize held.length=m at*;go_enter Tryz.func45,Tryz.ntmps45
  go_upto_region 1 with fail
  generalize hw1:(w.alloc _).alloc _=w1
  have HA:Hid (w1.heap[w.heap.size]? =some (.cells #[cB,cY,cF,cN,cU,cL,cKy,cV,.slice A n cl,.slice (some ⟨h,0,none⟩) m ch,.int .u32 (kept:Int)] 35 (0,0))):=by
   rw [<-hw1];exact (aR w _ _).1
  have HZ:Hid (w1.heap[w.heap.size+1]? =some (.cells #[(0:Int),(0:Int),(0:Int),(0:Int),(0:Int),(0:Int),(0:Int),(0:Int),(),(),.int .u32 0] 35 (0,0))):=by
   rw [<-hw1];exact (aR w _ _).2.1
  have HB:Hid (Bw w w1):=by
   rw [<-hw1];exact (aR w _ _).2.2
  clear hw1;obtain ⟨g,hg⟩:∃g,g=w.heap.size:=⟨_,rfl⟩
  rw [<-hg] at HA HZ;simp only [<-hg];have HG:Hid (w.heap.size<=g):=by unfold Hid;omega
  clear hg;obtain ⟨a0,a1,a2,a3,a4,a5,a6,a7,a8,a9,a10⟩:=aW HA.out;go_upto_region 3 with fail
  have fr:=au HA.out 10;go_upto_region 4 with fail
  clear a0 a1 a2 a3 a4 a5 a6 a7 a8 a9 a10 fr;replace HA:=hid (vJ HA.out (.int .u32 0));replace HZ:=hid ((aQ (i:=10) (.int .u32 0) (show g+1≠g by omega)).trans HZ.out);replace HB:Hid (Bw w (w1.setCell ⟨g,10,none⟩ (.int .u32 0))):=HB.out.setCell HG.out _;generalize w1.setCell ⟨g,10,none⟩ (.int .u32 0)=w6 at*;obtain ⟨a0,a1,a2,a3,a4,a5,a6,a7,a8,a9,a10⟩:=aW HA.out;obtain ⟨z0,z1,z2,z3,z4,z5,z6,z7,z8,z9,z10⟩:=aW HZ.out;have f0:=au HZ.out 0;have f1:=au HZ.out 1;have f2:=au HZ.out 2;have f3:=au HZ.out 3;have f4:=au HZ.out 4;have f5:=au HZ.out 5;have f6:=au HZ.out 6;have f7:=au HZ.out 7;have f8:=au HZ.out 8;have f9:=au HZ.out 9;have f10:=au HZ.out 10;have HU:=hid (bT HZ.out cB cY cF cN cU cL cKy cV (.slice A n cl) (.slice (some ⟨h,0,none⟩) m ch) (.int .u32 0));have HBW:=hid (bB HB.out (show w.heap.size<=g+1 by have:=HG.out;omega) cB cY cF cN cU cL cKy cV (.slice A n cl) (.slice (some ⟨h,0,none⟩) m ch) (.int .u32 0));unfold eF at HU HBW;go_wp2_with fail
  obtain ⟨y0,y1,y2,y3,y4,y5,y6,y7,y8,y9,y10⟩:=aW HU.out;exact bodyPost_ret (v:= .tuple #[.agg #[cB,cY,cF,cN,cU,cL,cKy,cV,.slice A n cl,.slice (some ⟨h,0,none⟩) m ch,.int .u32 0],(0:Int)]) (by simp [results,Tryz.results45,go_sem,y0,y1,y2,y3,y4,y5,y6,y7,y8,y9,y10]) rfl ⟨rfl,HBW.out⟩
end Sh
end Go.Proofs.YtjpjjnalpdpljaaGreatDoor
namespace Go.Proofs.YtjpjjnalpdpljaaGreatDoor
open Go.RowKit
namespace Sh
open Mem No Bt Bu
def z11:Array Value:= #[.int .i64 0,.int .i64 0,.int .i64 0,.int .i64 0,.int .i64 0,.int .i64 0,.int .i64 0,.int .i64 0,.slice none 0 0,.slice none 0 0,.int .u32 0]
theorem nT:z11.size=11:=rfl
theorem shU:Tryz.prog.underlying 35=some (.struct (Tryz.prog.fieldsOf 35)):=by kernel_rfl
theorem shS {C:Array Value} (h:C.size=11):(Tryz.prog.info? 35).map (·.size)=some C.size:=by
 rw [h]
 kernel_rfl
theorem mV (s:Ds) (A:Option Addr) (cl h ch:Nat):(bY s A cl h ch).size=11:=rfl
theorem nJ (s:Ds) (A:Option Addr) (cl h ch:Nat):∀v∈(bY s A cl h ch).toList,v.oneCell'=true:=by
 simp [bY,Value.oneCell']
structure Sb (W:World) (g:Nat) (C Z:Array Value) (w:World):Prop where
 x:bf 35 w g C
 y:bf 35 w (g+1) Z
 below:Bw W w
 ge:W.heap.size<=g
section
variable {W w w':World} {g:Nat} {C C' Z:Array Value}
theorem Sb.kept (h:Sb W g C Z w) (hb:Bw w w'):Sb W g C Z w':=⟨h.x.kept hb,h.y.kept hb,h.below.trans (hb.mono h.below.size),h.ge⟩
theorem Sb.fill (h:Sb W g C Z w) (hi:Flow.Into [g+1] w w'):Bw W w':=by
 have h1:=h.below;have h2:=h.ge;exact h1.trans ⟨hi.os,hi.tape,hi.output,hi.size,fun k hk=>hi.block k (Nat.lt_of_lt_of_le hk h1.size) (by simp only [List.mem_singleton];omega)⟩
theorem Sb.put (h:Sb W g C Z w) (i:Nat) (v:Value):Sb W g (C.setIfInBounds i v) Z (w.setCell ⟨g,i,none⟩ v):=⟨h.x.set i v,(Below.heap_setCell _ _ _ _ (by simp)).trans h.y,h.below.setCell h.ge _,h.ge⟩
theorem Sb.eq (h:Sb W g C Z w) (e:C=C'):Sb W g C' Z w:=e▸h
theorem ET (W:World) (C:Array Value):∃w g,((W.alloc (.cells C 35)).alloc (.cells #[(0:Int),(0:Int),(0:Int),(0:Int),(0:Int),(0:Int),(0:Int),(0:Int),(),(),.int .u32 0] 35)=w/\W.heap.size=g)/\Hid (Sb W g C z11 w):=by
 obtain ⟨h1,h2,h3⟩:=aR W (.cells C 35) (.cells z11 35);exact ⟨_,_,⟨rfl,rfl⟩,⟨h1,h2,h3,Nat.le_refl _⟩⟩
end
end Sh
end Go.Proofs.YtjpjjnalpdpljaaGreatDoor
set_option maxHeartbeats 4000000
set_option maxRecDepth 100000
namespace Go.Proofs.YtjpjjnalpdpljaaGreatDoor
open Go.RowKit
open Go.Lib (hid)
open ah.aS (cell)
namespace Sh
open Mem No Bt Bu
def ldS (s:Ds) (i:Nat):Sl × Int × Bool:=if there s i then (if (s.l.getD i sl0).kd=0 then (sl0,12,true) else (s.l.getD i sl0,0,decide ((s.l.getD i sl0).kd=1))) else (sl0,4,true)
def Ns (b:Nat) (C:Array Value) (v:Value) (w:World):Prop:=v=undef/\w.heap[b]? =some (.cells C 43 (0,0))
theorem Ii {S:List Nat} {B:Nat} {w w':World} (h:Flow.Into S w w') (hS:∀k,k∈S->B<=k) (hB:B<=w.heap.size):Below B w w':=
 ⟨h.os,h.tape,h.output,h.size,fun k hk=>h.block k (by omega) fun hh=>by have:=hS k hh;omega⟩
theorem KS (a b:Int):(a==b)=decide (a=b):=by by_cases h:a=b<;>simp [h]
theorem EU (s:Ds) (A:Option Addr) (cl h ch i:Nat) (h32:i<4294967296) (w:World) (hr:RC SlK w A cl s.l) (hlen:(s.l.length:Int)=s.c.blocks):CB 15 #[.agg (bY s A cl h ch),.int .u32 (i:Int)] w (.tuple #[.agg (bL (ldS s i).1.n (ldS s i).1.a),.int .i64 (ldS s i).2.1,.bool (ldS s i).2.2]):=by
 have cT:∀x:Bool,(x=true↔there s i)->∀w,Hid (CB 50 #[.agg (bY s A cl h ch),.int .u32 (i:Int)] w (.bool x)):=fun x hx w=>iY s A cl h ch i h32 w x hx
 have hin:=fun ht:there s i=>EN hlen ht;generalize hX:ldS s i=X;obtain ⟨x,z,k⟩:=X;unfold ldS at hX;unfold bY at cT ⊢;by_cases ht:there s i
 case neg=>
  rw [if_neg ht] at hX;cases hX
  have cT0:=cT false ⟨fun h=>(by cases h),fun h=>absurd h ht⟩;obtain ⟨⟨cB,cY,cF,cN,cU,cL,cKy,cV⟩,l,held,kept⟩:=s;simp only at cT0 ⊢;obtain ⟨n,hn⟩:∃n,n=l.length:=⟨_,rfl⟩
  obtain ⟨m,hm⟩:∃m,m=held.length:=⟨_,rfl⟩
  simp only [<-hn,<-hm] at cT0 ⊢;clear cT hr hin ht hlen hn hm;have HV:Hid (bL nd0 at0= #[.int .i64 0,.slice none 0 0,.slice none 0 0,.slice none 0 0,.slice none 0 0]):=rfl;rw [show sl0.n=nd0 from rfl,show sl0.a=at0 from rfl,HV.out];go_enter Tryz.func15,Tryz.ntmps15
  go_upto_region 1 with fail
  generalize hw1:(w.alloc _).alloc _=w1
  have HA:Hid (w1.heap[w.heap.size]? =some (.cells #[cB,cY,cF,cN,cU,cL,cKy,cV,.slice A n cl,.slice (some ⟨h,0,none⟩) m ch,.int .u32 (kept:Int)] 35 (0,0))):=by
   rw [<-hw1];exact (aR w _ _).1
  have HZ:Hid (w1.heap[w.heap.size+1]? =some (.cells #[(0:Int),(),(),(),()] 43 (0,0))):=by
   rw [<-hw1];exact (aR w _ _).2.1
  have HB:Hid (Bw w w1):=by
   rw [<-hw1];exact (aR w _ _).2.2
  clear hw1;obtain ⟨g,hg⟩:∃g,g=w.heap.size:=⟨_,rfl⟩
  rw [<-hg] at HA HZ;simp only [<-hg];have HG:Hid (w.heap.size<=g):=by unfold Hid;omega
  clear hg;obtain ⟨a0,a1,a2,a3,a4,a5,a6,a7,a8,a9,a10⟩:=aW HA.out;go_upto_region 2 with (go_at_call 50;refine (cT0 _).out.mono ?_;rintro e w2 ⟨rfl,hb⟩)
  clear a0 a1 a2 a3 a4 a5 a6 a7 a8 a9 a10 cT0;replace HZ:=hid (aC HZ.out hb);replace HB:=hid (HB.out.trans (hb.mono HB.out.size));clear hb HA;obtain ⟨z0,z1,z2,z3,z4⟩:=aG HZ.out;have f0:=au HZ.out 0;have f1:=au HZ.out 1;have f2:=au HZ.out 2;have f3:=au HZ.out 3;have f4:=au HZ.out 4;have HU:=hid (eP HZ.out (.int .i64 0) (.slice none 0 0) (.slice none 0 0) (.slice none 0 0) (.slice none 0 0));have HBW:=hid (fM HB.out (show w.heap.size<=g+1 by have:=HG.out;omega) (.int .i64 0) (.slice none 0 0) (.slice none 0 0) (.slice none 0 0) (.slice none 0 0));unfold sN at HU HBW;go_wp2_with fail
  clear z0 z1 z2 z3 z4 f0 f1 f2 f3 f4;obtain ⟨y0,y1,y2,y3,y4⟩:=aG HU.out;exact bodyPost_ret (v:= .tuple #[.agg #[(0:Int),(),(),(),()],(4:Int),.bool true]) (by simp [results,Tryz.results15,go_sem,y0,y1,y2,y3,y4]) rfl ⟨rfl,HBW.out⟩
 case pos=>
  rw [if_pos ht] at hX;have hlt:=hin ht;have cT1:=cT true ⟨fun _=>ht,fun _=>rfl⟩;obtain ⟨y,hy⟩:∃y,s.l[i]? =some y:=⟨_,List.getElem?_eq_getElem hlt⟩
  rw [show s.l.getD i sl0=y by simp [List.getD,hy]] at hX;obtain ⟨q,o,rfl,hql,hcs⟩:=hr.1 (Nat.lt_of_le_of_lt (Nat.zero_le _) hlt);have hc:=hcs i y hy;rw [show SlK.cs y=jY y from rfl,show SlK.k=6 from rfl] at hc;obtain ⟨kd,nd,at_⟩:=y;obtain ⟨lv,kA,kn,kc,pA,pn,pc,bA,bn,bc,rA,rn,rc,hN⟩:∃lv kA kn kc pA pn pc bA bn bc rA rn rc,bL nd at_= #[.int .i64 lv,.slice kA kn kc,.slice pA pn pc,.slice bA bn bc,.slice rA rn rc]:=⟨_,_,_,_,_,_,_,_,_,_,_,_,_,rfl⟩
  rw [show jY ⟨kd,nd,at_⟩= .int .i64 kd::(bL nd at_).toList from rfl,hN] at hc;have d0:=hc 0 _ rfl;have d1:=hc 1 _ rfl;have d2:=hc 2 _ rfl;have d3:=hc 3 _ rfl;have d4:=hc 4 _ rfl;have d5:=hc 5 _ rfl;simp only [<-Nat.add_assoc,Nat.add_zero] at d0 d1 d2 d3 d4 d5;obtain ⟨⟨cB,cY,cF,cN,cU,cL,cKy,cV⟩,l,held,kept⟩:=s;simp only at cT1 hlt ⊢;obtain ⟨n,hn⟩:∃n,n=l.length:=⟨_,rfl⟩
  obtain ⟨m,hm⟩:∃m,m=held.length:=⟨_,rfl⟩
  simp only [<-hn,<-hm] at cT1 hlt ⊢;have hlt':(i:Int)<(n:Int):=by omega
  have HN:=hid hN;have HQL:=hid hql;clear cT hr hin ht hlen hn hm hc hcs hy hN hql;by_cases hk:kd=0
  case pos=>
   subst hk;rw [if_pos (show (⟨0,nd,at_⟩:Sl).kd=0 from rfl)] at hX;(cases hX);have HV:Hid (bL nd0 at0= #[.int .i64 0,.slice none 0 0,.slice none 0 0,.slice none 0 0,.slice none 0 0]):=rfl;rw [show sl0.n=nd0 from rfl,show sl0.a=at0 from rfl,HV.out];go_enter Tryz.func15,Tryz.ntmps15
   go_upto_region 1 with fail
   generalize hw1:(w.alloc _).alloc _=w1
   have HA:Hid (w1.heap[w.heap.size]? =some (.cells #[cB,cY,cF,cN,cU,cL,cKy,cV,.slice (some ⟨q,o,none⟩) n cl,.slice (some ⟨h,0,none⟩) m ch,.int .u32 (kept:Int)] 35 (0,0))):=by
    rw [<-hw1];exact (aR w _ _).1
   have HZ:Hid (w1.heap[w.heap.size+1]? =some (.cells #[(0:Int),(),(),(),()] 43 (0,0))):=by
    rw [<-hw1];exact (aR w _ _).2.1
   have HB:Hid (Bw w w1):=by
    rw [<-hw1];exact (aR w _ _).2.2
   clear hw1;obtain ⟨g,hg⟩:∃g,g=w.heap.size:=⟨_,rfl⟩
   rw [<-hg] at HA HZ;simp only [<-hg];have HG:Hid (w.heap.size<=g):=(by unfold Hid;omega);clear hg;obtain ⟨a0,a1,a2,a3,a4,a5,a6,a7,a8,a9,a10⟩:=aW HA.out;go_upto_region 3 with (go_at_call 50;refine (cT1 _).out.mono ?_;rintro e w2 ⟨rfl,hb⟩)
   clear a0 a1 a2 a3 a4 a5 a6 a7 a8 a9 a10 cT1;replace HZ:=hid (aC HZ.out hb);replace HA:=hid (aC HA.out hb);replace HB:=hid (HB.out.trans (hb.mono HB.out.size));clear hb;replace d0:=(HB.out.cell HQL.out).trans d0;replace d1:=(HB.out.cell HQL.out).trans d1;replace d2:=(HB.out.cell HQL.out).trans d2;replace d3:=(HB.out.cell HQL.out).trans d3;replace d4:=(HB.out.cell HQL.out).trans d4;replace d5:=(HB.out.cell HQL.out).trans d5;obtain ⟨-,-,-,-,-,-,-,-,a8,-⟩:=aW HA.out;obtain ⟨z0,z1,z2,z3,z4⟩:=aG HZ.out;have f0:=au HZ.out 0;have f1:=au HZ.out 1;have f2:=au HZ.out 2;have f3:=au HZ.out 3;have f4:=au HZ.out 4;have HU:=hid (eP HZ.out (.int .i64 0) (.slice none 0 0) (.slice none 0 0) (.slice none 0 0) (.slice none 0 0));have HBW:=hid (fM HB.out (show w.heap.size<=g+1 by have:=HG.out;omega) (.int .i64 0) (.slice none 0 0) (.slice none 0 0) (.slice none 0 0) (.slice none 0 0));unfold sN at HU HBW;clear d1 d2 d3 d4 d5;go_wp2_with fail
   clear z0 z1 z2 z3 z4 f0 f1 f2 f3 f4;obtain ⟨y0,y1,y2,y3,y4⟩:=aG HU.out;exact bodyPost_ret (v:= .tuple #[.agg #[(0:Int),(),(),(),()],(12:Int),.bool true]) (by simp [results,Tryz.results15,go_sem,y0,y1,y2,y3,y4]) rfl ⟨rfl,HBW.out⟩
  case neg=>
   rw [if_neg (show ¬(⟨kd,nd,at_⟩:Sl).kd=0 from hk)] at hX;(cases hX);simp only [HN.out];have hk':decide (kd=0)=false:=decide_eq_false hk;go_enter Tryz.func15,Tryz.ntmps15
   go_upto_region 1 with fail
   generalize hw1:(w.alloc _).alloc _=w1
   have HA:Hid (w1.heap[w.heap.size]? =some (.cells #[cB,cY,cF,cN,cU,cL,cKy,cV,.slice (some ⟨q,o,none⟩) n cl,.slice (some ⟨h,0,none⟩) m ch,.int .u32 (kept:Int)] 35 (0,0))):=by
    rw [<-hw1];exact (aR w _ _).1
   have HZ:Hid (w1.heap[w.heap.size+1]? =some (.cells #[(0:Int),(),(),(),()] 43 (0,0))):=by
    rw [<-hw1];exact (aR w _ _).2.1
   have HB:Hid (Bw w w1):=by
    rw [<-hw1];exact (aR w _ _).2.2
   clear hw1;obtain ⟨g,hg⟩:∃g,g=w.heap.size:=⟨_,rfl⟩
   rw [<-hg] at HA HZ;simp only [<-hg];have HG:Hid (w.heap.size<=g):=(by unfold Hid;omega);clear hg;obtain ⟨a0,a1,a2,a3,a4,a5,a6,a7,a8,a9,a10⟩:=aW HA.out;go_upto_region 3 with (go_at_call 50;refine (cT1 _).out.mono ?_;rintro e w2 ⟨rfl,hb⟩)
   clear a0 a1 a2 a3 a4 a5 a6 a7 a8 a9 a10 cT1;replace HZ:=hid (aC HZ.out hb);replace HA:=hid (aC HA.out hb);replace HB:=hid (HB.out.trans (hb.mono HB.out.size));clear hb;replace d0:=(HB.out.cell HQL.out).trans d0;replace d1:=(HB.out.cell HQL.out).trans d1;replace d2:=(HB.out.cell HQL.out).trans d2;replace d3:=(HB.out.cell HQL.out).trans d3;replace d4:=(HB.out.cell HQL.out).trans d4;replace d5:=(HB.out.cell HQL.out).trans d5;obtain ⟨-,-,-,-,-,-,-,-,a8,-⟩:=aW HA.out;go_upto_region 5 with fail
   have hS:∀k,k∈[g+1]->k<w2.heap.size:=fun k hk=>by
    obtain rfl:k=g+1:=(by simpa using hk);exact (Array.getElem?_eq_some_iff.1 HZ.out).1
   have hqn:q∉[g+1]:=by
    have:=HQL.out;have:=HG.out;simp;omega
   have x8:=fun q:ah.aS [g+1] w2 []=>cell a8 (by simp) q;have x0:=fun q:ah.aS [g+1] w2 []=>cell d0 hqn q;have x1:=fun q:ah.aS [g+1] w2 []=>cell d1 hqn q;have x2:=fun q:ah.aS [g+1] w2 []=>cell d2 hqn q;have x3:=fun q:ah.aS [g+1] w2 []=>cell d3 hqn q;have x4:=fun q:ah.aS [g+1] w2 []=>cell d4 hqn q;have x5:=fun q:ah.aS [g+1] w2 []=>cell d5 hqn q;clear a8 d0 d1 d2 d3 d4 d5 hqn;refine ah.aj [g+1] [(0,[]),(1,[]),(2,[]),(3,[]),(4,[]),(5,[]),(6,[]),(7,[]),(8,[]),(9,[]),(10,[]),(11,[]),(12,[]),(13,[]),(14,[])] [13] [] (by kernel_rfl) (by kernel_rfl) hS ?_;simp only [ah.pick,ah.aO,ah.dL]
   repeat (refine ah.ak (fun K hK=>?_);go_simp;(refine hK _ ?_;clear hK K))
   refine ah.aN rfl ah.aF (Ns (g+1) #[lv,.slice kA kn kc,.slice pA pn pc,.slice bA bn bc,.slice rA rn rc]) (fun W hk _=>?_) (fun v w4 hv hI _ hTd=>?_)
   . have hz:=aC HZ.out hk
     obtain ⟨z0,z1,z2,z3,z4⟩:=aG hz;have f0:=au hz 0;have f1:=au hz 1;have f2:=au hz 2;have f3:=au hz 3;have f4:=au hz 4;go_simp
     exact ⟨⟨rfl,eP hz (.int .i64 lv) (.slice kA kn kc) (.slice pA pn pc) (.slice bA bn bc) (.slice rA rn rc)⟩,fH _ _ (.int .i64 lv) (.slice kA kn kc) (.slice pA pn pc) (.slice bA bn bc) (.slice rA rn rc)⟩
   . obtain ⟨rfl,hv⟩:=hv
     repeat (refine ah.ak (fun K hK=>?_);go_simp;(refine hK _ ?_;clear hK K))
     refine ah.walk_nil ?_;intro w5 hb5 _;have HV5:=hid (aC hv hb5)
     have HB5:Hid (Bw w w5):=(HB.out.trans (Ii hI (fun y hy=>by
      obtain rfl:y=g+1:=(by simpa using hy);have:=HG.out
      omega) HB.out.size)).trans (hb5.mono (by have:=hI.size;have:=HB.out.size;omega))
     clear x0 x1 x2 x3 x4 x5 x8 hv hI hb5 hS hTd;simp only [lC,Nat.zero_add,Nat.reduceAdd];go_wp2_with fail
     obtain ⟨y0,y1,y2,y3,y4⟩:=aG HV5.out;exact bodyPost_ret (v:= .tuple #[.agg #[lv,.slice kA kn kc,.slice pA pn pc,.slice bA bn bc,.slice rA rn rc],(0:Int),.bool (decide (kd=1))]) (by simp [results,Tryz.results15,go_sem,y0,y1,y2,y3,y4,KS]) rfl ⟨rfl,HB5.out⟩
end Sh
end Go.Proofs.YtjpjjnalpdpljaaGreatDoor
