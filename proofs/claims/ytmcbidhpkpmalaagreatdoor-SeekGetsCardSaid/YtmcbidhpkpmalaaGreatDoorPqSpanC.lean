import Derived.Test.YtmcbidhpkpmalaaGreatDoorPkAF
import Derived.Test.YtmcbidhpkpmalaaGreatDoorPkAD
import Derived.Lib.MinMaxS
import Derived.Deep.RegionHeld3
set_option maxHeartbeats 2000000
namespace Go.Proofs.YtmcbidhpkpmalaaGreatDoor
open Go.RowKit
open Go.Lib (hid maxS minS run_max_strs)
open List (drop_succ_cons drop_zero take_succ_cons take_zero)
namespace Lx
theorem mY(lo hi:ByteArray)(top:Bool)(w:World):
 CB 99 #[bG lo hi top] w (.bool (bZ lo hi top)):=by
 cases top
 . have HR:Hid (bZ lo hi false=decide (aG hi lo<=0)):=hid (by simp[bZ])
   go_enter Tryz.func99,Tryz.ntmps99
   go_wp2_with (go_at_call 65;refine(dS _ _ _).mono ?_;rintro e w' ⟨rfl,rfl⟩)
   go_ret
   exact⟨eP (by rw[HR.out]),bAx⟩
 . have HR:Hid (bZ lo hi true=false):=hid (by simp[bZ])
   go_enter Tryz.func99,Tryz.ntmps99
   go_wp2
   go_ret
   exact⟨eP (by rw[HR.out]),bAx⟩
theorem Fg(w:World):
 CB 62 #[] w (bG ⟨#[]⟩ ⟨#[]⟩ true):=by
 go_enter Tryz.func62,Tryz.ntmps62
 go_wp2
 exact bodyPost_ret (v:=bG ⟨#[]⟩ ⟨#[]⟩ true) (by simp[results,Tryz.results62,go_sem]) rfl ⟨rfl,bAx⟩
theorem lI:∀(a b:List UInt8),a<b↔Lib.compareBytes a b<0
 |[],[]=>by simp[Lib.compareBytes]
 |[],_::_=>by simp[Lib.compareBytes]
 |_::_,[]=>by simp[Lib.compareBytes]
 |a::xs,b::ys=>by rw[List.cons_lt_cons_iff];rcases oG a b with h|rfl|h;(. rw[dG _ _ h];simp[h]);(. rw[bK,<-lI xs ys];simp);. rw[dH _ _ h];have h1:=q8 h;have h2:a≠b:=(by intro e;subst e;exact oH _ h);simp[h1,h2]
def J3(a b:ByteArray):ByteArray:=if aG a b<0 then b else a
def OA(a b:ByteArray):ByteArray:=if aG a b<=0 then a else b
theorem jX(a b:ByteArray):maxS a b=J3 a b:=by unfold maxS J3;have:=lI a.data.toList b.data.toList;by_cases h:aG a b<0;(. rw[if_pos h,if_pos (this.2 h)]);. rw[if_neg h,if_neg (fun k=>h (this.1 k))]
theorem MI(a b:ByteArray):minS a b=OA a b:=by unfold minS OA;have:=lI a.data.toList b.data.toList;by_cases h:aG a b<=0;(. rw[if_pos h,if_pos];by_cases h0:aG a b=0;(. exact .inr (lZ h0));. exact .inl (this.2 (by unfold aG at*;omega)));. rw[if_neg h,if_neg];rintro(k|k);(. have:=this.1 k;unfold aG at h;omega);. unfold aG at h;rw[k,tV]at h;omega
def lowerB(ha:ByteArray)(ta:Bool)(hb:ByteArray)(tb:Bool):ByteArray:=
 if ta&&tb then⟨#[]⟩else if ta then hb else if tb then ha else OA ha hb
theorem kG{a b:ByteArray}(h:a=b):Ending.returned (.string a)=.returned (.string b):=by rw[h]
theorem mZ(la ha:ByteArray)(ta:Bool)(lb hb:ByteArray)(tb:Bool)(w:World):
 CB 98 #[bG la ha ta,bG lb hb tb] w (.string (lowerB ha ta hb tb)):=by
 cases ta<;>cases tb
 . have HR:Hid (lowerB ha false hb false=minS ha hb):=hid (by simp[lowerB,MI])
   have hmin:=fun(w:World) (ts:Array TypeId) (t:TypeId)=>Lib.run_min_strs (P:=Tryz.prog) w ts t ha hb;go_enter Tryz.func98,Tryz.ntmps98
   go_wp2
   go_ret
   exact⟨kG (by rw[HR.out]),(bAx).alloc (by simp) _⟩
 . have HR:Hid (lowerB ha false hb true=ha):=hid (by simp[lowerB])
   go_enter Tryz.func98,Tryz.ntmps98
   go_wp2
   go_ret
   exact⟨kG (by rw[HR.out]),(bAx).alloc (by simp) _⟩
 . have HR:Hid (lowerB ha true hb false=hb):=hid (by simp[lowerB])
   go_enter Tryz.func98,Tryz.ntmps98
   go_wp2
   go_ret
   exact⟨kG (by rw[HR.out]),(bAx).alloc (by simp) _⟩
 . have HR:Hid (lowerB ha true hb true=⟨#[]⟩):=hid (by simp[lowerB])
   go_enter Tryz.func98,Tryz.ntmps98
   go_wp2
   go_ret
   exact⟨kG (by rw[HR.out]),(bAx).alloc (by simp) _⟩
def lu(la ha:ByteArray)(ta:Bool)(lb hb:ByteArray)(tb:Bool):(ByteArray × ByteArray × Bool) × Bool:=
 if bZ (J3 la lb) (lowerB ha ta hb tb) (ta&&tb)then((⟨#[]⟩,⟨#[]⟩,false),false)else((J3 la lb,lowerB ha ta hb tb,ta&&tb),true)
def iy(la ha:ByteArray)(ta:Bool)(lb hb:ByteArray)(tb:Bool):Value:=
 .tuple #[bG (lu la ha ta lb hb tb).1.1 (lu la ha ta lb hb tb).1.2.1 (lu la ha ta lb hb tb).1.2.2,.bool (lu la ha ta lb hb tb).2]
theorem oM(la ha:ByteArray)(lb hb:ByteArray)(w:World):
 CB 63 #[bG la ha false,bG lb hb false] w (iy la ha false lb hb false):=by
 have hmax:=fun(w:World) (ts:Array TypeId) (t:TypeId)=>run_max_strs (P:=Tryz.prog) w ts t la lb
 have hyes:bZ (maxS la lb) (lowerB ha false hb false) false=true->iy la ha false lb hb false= .tuple #[bG ⟨#[]⟩ ⟨#[]⟩ false,.bool false]:=fun h=>by
  rw[jX]at h;unfold iy lu;simp[h]
 have hno:bZ (maxS la lb) (lowerB ha false hb false) false=false->iy la ha false lb hb false= .tuple #[bG (maxS la lb) (lowerB ha false hb false) false,.bool true]:=fun h=>by
  rw[jX]at*;unfold iy lu;simp[h]
 have MJ:=hid hyes;have Hno:=hid hno;clear hyes hno;go_enter Tryz.func63,Tryz.ntmps63
 go_wp2
 generalize hX:((w.alloc _).alloc _).alloc _=X;have hb0:Bw w X:=by rw[<-hX];exact((bAx).alloc (by simp) _).alloc (by simp;omega) _
 have hs0:w.heap.size+2<X.heap.size:=by rw[<-hX];simp
 have a0:X.cell? ⟨w.heap.size,0,none⟩=some (.string la):=by rw[<-hX];simp[go_sem]
 have a1:X.cell? ⟨w.heap.size,1,none⟩=some (.string ha):=by rw[<-hX];simp[go_sem]
 have a2:X.cell? ⟨w.heap.size,2,none⟩=some (.bool false):=by rw[<-hX];simp[go_sem]
 have b0:X.cell? ⟨w.heap.size+1,0,none⟩=some (.string lb):=by rw[<-hX];simp[go_sem]
 have b1:X.cell? ⟨w.heap.size+1,1,none⟩=some (.string hb):=by rw[<-hX];simp[go_sem]
 have b2:X.cell? ⟨w.heap.size+1,2,none⟩=some (.bool false):=by rw[<-hX];simp[go_sem]
 have r0:X.heap[w.heap.size+2]? =some (.cells #[.string ⟨#[]⟩,.string ⟨#[]⟩,.bool false] 41):=by
  rw[<-hX];show(((w.heap.push _).push _).push _)[w.heap.size+2]? =_
  rw[Array.getElem?_push,if_pos (by simp)]
 clear hX;have a0':=cell_regrown a0;have a1':=cell_regrown a1;have a2':=cell_regrown a2;have b0':=cell_regrown b0;have b1':=cell_regrown b1;have b2':=cell_regrown b2;clear a0 a1 a2 b0 b1 b2;refine Calm.fV 15 41 6 (.cells #[.string ⟨#[]⟩,.string ⟨#[]⟩,.bool false] 41) (by kernel_rfl) (by kernel_rfl) rfl (fun w=>by kernel_rfl) ?_;simp only[take_succ_cons,take_zero,drop_succ_cons,drop_zero]
 repeat (refine Calm.jf (fun K hK=>?_);go_simp;first|(refine hK _ ?_;clear hK K)|(apply Exists.intro;refine⟨fun _=>?_,hK _ ?_⟩;(go_at_call 98;exact mZ _ _ _ _ _ _ _);clear hK K))
 refine Calm.j4 ?_;intro b w1 hb1 hlt hle hblk;clear a0' a1' a2' b0' b1' b2' hmax;have hblk':=hb1.block (w.heap.size+2) hs0;rw[r0]at hblk';have f0:=Calm.cell_of_block hblk 0;have f1:=Calm.cell_of_block hblk 1;have f2:=Calm.cell_of_block hblk 2;have g0:=Calm.aF hblk 0;have g1:=Calm.aF hblk 1;have g2:=Calm.aF hblk 2;have p0:=Calm.cell_of_block hblk' 0;have p1:=Calm.cell_of_block hblk' 1;have p2:=Calm.cell_of_block hblk' 2;have q0:=Calm.aF hblk' 0;have q1:=Calm.aF hblk' 1;have q2:=Calm.aF hblk' 2;clear hblk hblk' r0;have hbr:b≠w.heap.size+2:=by omega
 go_wp2_with fail
 generalize hW:((w1.setCell _ _).setCell _ _).setCell _ _=w2;have hs2:w1.heap.size=w2.heap.size:=by rw[<-hW];simp
 have hb2:Bw w w2:=by
  rw[<-hW];exact(((hb0.trans (hb1.mono (by omega))).setCell (by simp;omega) _).setCell (by simp;omega) _).setCell (by simp;omega) _
 have f0':w2.cell? ⟨b,0,none⟩=some (.string (maxS la lb)):=by rw[<-hW];simp[go_sem,f0]
 have f1':w2.cell? ⟨b,1,none⟩=some (.string (lowerB ha false hb false)):=by rw[<-hW];simp[go_sem,f1]
 have f2':w2.cell? ⟨b,2,none⟩=some (.bool false):=by rw[<-hW];simp[go_sem,f2]
 have p0':w2.cell? ⟨w.heap.size+2,0,none⟩=some (.string ⟨#[]⟩):=by rw[<-hW];simp[go_sem,p0]
 have p1':w2.cell? ⟨w.heap.size+2,1,none⟩=some (.string ⟨#[]⟩):=by rw[<-hW];simp[go_sem,p1]
 have p2':w2.cell? ⟨w.heap.size+2,2,none⟩=some (.bool false):=by rw[<-hW];simp[go_sem,p2]
 have q0':w2.frozen? ⟨w.heap.size+2,0,none⟩=false:=by rw[<-hW];simp[go_sem,q0]
 have q1':w2.frozen? ⟨w.heap.size+2,1,none⟩=false:=by rw[<-hW];simp[go_sem,q1]
 have q2':w2.frozen? ⟨w.heap.size+2,2,none⟩=false:=by rw[<-hW];simp[go_sem,q2]
 clear hW f0 f1 f2 g0 g1 g2 p0 p1 p2 q0 q1 q2;have hle2:b<w2.heap.size:=by omega
 have hrs:w.heap.size+2<w2.heap.size:=by have:=hb1.size;omega
 refine(mY _ _ _ _).mono ?_;rintro e w3 ⟨rfl,hb3⟩;have f0:w3.cell? ⟨b,0,none⟩=_:=(hb3.cell hle2).trans f0';have f1:w3.cell? ⟨b,1,none⟩=_:=(hb3.cell hle2).trans f1';have f2:w3.cell? ⟨b,2,none⟩=_:=(hb3.cell hle2).trans f2';have p0:w3.cell? ⟨w.heap.size+2,0,none⟩=_:=(hb3.cell hrs).trans p0';have p1:w3.cell? ⟨w.heap.size+2,1,none⟩=_:=(hb3.cell hrs).trans p1';have p2:w3.cell? ⟨w.heap.size+2,2,none⟩=_:=(hb3.cell hrs).trans p2';have q0:w3.frozen? ⟨w.heap.size+2,0,none⟩=_:=(hb3.frozen hrs).trans q0';have q1:w3.frozen? ⟨w.heap.size+2,1,none⟩=_:=(hb3.frozen hrs).trans q1';have q2:w3.frozen? ⟨w.heap.size+2,2,none⟩=_:=(hb3.frozen hrs).trans q2';have hb4:Bw w w3:=hb2.trans (hb3.mono (by omega));clear f0' f1' f2' p0' p1' p2' q0' q1' q2' hb2 hb3 hb1;cases he:bZ (maxS la lb) (lowerB ha false hb false) false
 . have HR:=hid (Hno.out he)
   go_wp2
   refine bodyPost_ret (v:= .tuple #[bG (maxS la lb) (lowerB ha false hb false) false,.bool true]) ?_ rfl ⟨by rw[HR.out],((hb4.setCell (by simp<;>omega) _).setCell (by simp<;>omega) _).setCell (by simp<;>omega) _⟩;simp[results,Tryz.results63,go_sem,p0,p1,p2]
 . have HR:=hid (MJ.out he)
   go_wp2
   refine bodyPost_ret (v:= .tuple #[bG ⟨#[]⟩ ⟨#[]⟩ false,.bool false]) ?_ rfl ⟨by rw[HR.out],((hb4.setCell (by simp<;>omega) _).setCell (by simp<;>omega) _).setCell (by simp<;>omega) _⟩;simp[results,Tryz.results63,go_sem,p0,p1,p2]
theorem q9(la ha:ByteArray)(lb hb:ByteArray)(w:World):
 CB 63 #[bG la ha false,bG lb hb true] w (iy la ha false lb hb true):=by
 have hmax:=fun(w:World) (ts:Array TypeId) (t:TypeId)=>run_max_strs (P:=Tryz.prog) w ts t la lb
 have hyes:bZ (maxS la lb) (lowerB ha false hb true) false=true->iy la ha false lb hb true= .tuple #[bG ⟨#[]⟩ ⟨#[]⟩ false,.bool false]:=fun h=>by
  rw[jX]at h;unfold iy lu;simp[h]
 have hno:bZ (maxS la lb) (lowerB ha false hb true) false=false->iy la ha false lb hb true= .tuple #[bG (maxS la lb) (lowerB ha false hb true) false,.bool true]:=fun h=>by
  rw[jX]at*;unfold iy lu;simp[h]
 have MJ:=hid hyes;have Hno:=hid hno;clear hyes hno;go_enter Tryz.func63,Tryz.ntmps63
 go_wp2
 generalize hX:((w.alloc _).alloc _).alloc _=X;have hb0:Bw w X:=by rw[<-hX];exact((bAx).alloc (by simp) _).alloc (by simp;omega) _
 have hs0:w.heap.size+2<X.heap.size:=by rw[<-hX];simp
 have a0:X.cell? ⟨w.heap.size,0,none⟩=some (.string la):=by rw[<-hX];simp[go_sem]
 have a1:X.cell? ⟨w.heap.size,1,none⟩=some (.string ha):=by rw[<-hX];simp[go_sem]
 have a2:X.cell? ⟨w.heap.size,2,none⟩=some (.bool false):=by rw[<-hX];simp[go_sem]
 have b0:X.cell? ⟨w.heap.size+1,0,none⟩=some (.string lb):=by rw[<-hX];simp[go_sem]
 have b1:X.cell? ⟨w.heap.size+1,1,none⟩=some (.string hb):=by rw[<-hX];simp[go_sem]
 have b2:X.cell? ⟨w.heap.size+1,2,none⟩=some (.bool true):=by rw[<-hX];simp[go_sem]
 have r0:X.heap[w.heap.size+2]? =some (.cells #[.string ⟨#[]⟩,.string ⟨#[]⟩,.bool false] 41):=by
  rw[<-hX];show(((w.heap.push _).push _).push _)[w.heap.size+2]? =_
  rw[Array.getElem?_push,if_pos (by simp)]
 clear hX;have a0':=cell_regrown a0;have a1':=cell_regrown a1;have a2':=cell_regrown a2;have b0':=cell_regrown b0;have b1':=cell_regrown b1;have b2':=cell_regrown b2;clear a0 a1 a2 b0 b1 b2;refine Calm.fV 15 41 6 (.cells #[.string ⟨#[]⟩,.string ⟨#[]⟩,.bool false] 41) (by kernel_rfl) (by kernel_rfl) rfl (fun w=>by kernel_rfl) ?_;simp only[take_succ_cons,take_zero,drop_succ_cons,drop_zero]
 repeat (refine Calm.jf (fun K hK=>?_);go_simp;first|(refine hK _ ?_;clear hK K)|(apply Exists.intro;refine⟨fun _=>?_,hK _ ?_⟩;(go_at_call 98;exact mZ _ _ _ _ _ _ _);clear hK K))
 refine Calm.j4 ?_;intro b w1 hb1 hlt hle hblk;clear a0' a1' a2' b0' b1' b2' hmax;have hblk':=hb1.block (w.heap.size+2) hs0;rw[r0]at hblk';have f0:=Calm.cell_of_block hblk 0;have f1:=Calm.cell_of_block hblk 1;have f2:=Calm.cell_of_block hblk 2;have g0:=Calm.aF hblk 0;have g1:=Calm.aF hblk 1;have g2:=Calm.aF hblk 2;have p0:=Calm.cell_of_block hblk' 0;have p1:=Calm.cell_of_block hblk' 1;have p2:=Calm.cell_of_block hblk' 2;have q0:=Calm.aF hblk' 0;have q1:=Calm.aF hblk' 1;have q2:=Calm.aF hblk' 2;clear hblk hblk' r0;have hbr:b≠w.heap.size+2:=by omega
 go_wp2_with fail
 generalize hW:((w1.setCell _ _).setCell _ _).setCell _ _=w2;have hs2:w1.heap.size=w2.heap.size:=by rw[<-hW];simp
 have hb2:Bw w w2:=by
  rw[<-hW];exact(((hb0.trans (hb1.mono (by omega))).setCell (by simp;omega) _).setCell (by simp;omega) _).setCell (by simp;omega) _
 have f0':w2.cell? ⟨b,0,none⟩=some (.string (maxS la lb)):=by rw[<-hW];simp[go_sem,f0]
 have f1':w2.cell? ⟨b,1,none⟩=some (.string (lowerB ha false hb true)):=by rw[<-hW];simp[go_sem,f1]
 have f2':w2.cell? ⟨b,2,none⟩=some (.bool false):=by rw[<-hW];simp[go_sem,f2]
 have p0':w2.cell? ⟨w.heap.size+2,0,none⟩=some (.string ⟨#[]⟩):=by rw[<-hW];simp[go_sem,p0]
 have p1':w2.cell? ⟨w.heap.size+2,1,none⟩=some (.string ⟨#[]⟩):=by rw[<-hW];simp[go_sem,p1]
 have p2':w2.cell? ⟨w.heap.size+2,2,none⟩=some (.bool false):=by rw[<-hW];simp[go_sem,p2]
 have q0':w2.frozen? ⟨w.heap.size+2,0,none⟩=false:=by rw[<-hW];simp[go_sem,q0]
 have q1':w2.frozen? ⟨w.heap.size+2,1,none⟩=false:=by rw[<-hW];simp[go_sem,q1]
 have q2':w2.frozen? ⟨w.heap.size+2,2,none⟩=false:=by rw[<-hW];simp[go_sem,q2]
 clear hW f0 f1 f2 g0 g1 g2 p0 p1 p2 q0 q1 q2;have hle2:b<w2.heap.size:=by omega
 have hrs:w.heap.size+2<w2.heap.size:=by have:=hb1.size;omega
 refine(mY _ _ _ _).mono ?_;rintro e w3 ⟨rfl,hb3⟩;have f0:w3.cell? ⟨b,0,none⟩=_:=(hb3.cell hle2).trans f0';have f1:w3.cell? ⟨b,1,none⟩=_:=(hb3.cell hle2).trans f1';have f2:w3.cell? ⟨b,2,none⟩=_:=(hb3.cell hle2).trans f2';have p0:w3.cell? ⟨w.heap.size+2,0,none⟩=_:=(hb3.cell hrs).trans p0';have p1:w3.cell? ⟨w.heap.size+2,1,none⟩=_:=(hb3.cell hrs).trans p1';have p2:w3.cell? ⟨w.heap.size+2,2,none⟩=_:=(hb3.cell hrs).trans p2';have q0:w3.frozen? ⟨w.heap.size+2,0,none⟩=_:=(hb3.frozen hrs).trans q0';have q1:w3.frozen? ⟨w.heap.size+2,1,none⟩=_:=(hb3.frozen hrs).trans q1';have q2:w3.frozen? ⟨w.heap.size+2,2,none⟩=_:=(hb3.frozen hrs).trans q2';have hb4:Bw w w3:=hb2.trans (hb3.mono (by omega));clear f0' f1' f2' p0' p1' p2' q0' q1' q2' hb2 hb3 hb1;cases he:bZ (maxS la lb) (lowerB ha false hb true) false
 . have HR:=hid (Hno.out he)
   go_wp2
   refine bodyPost_ret (v:= .tuple #[bG (maxS la lb) (lowerB ha false hb true) false,.bool true]) ?_ rfl ⟨by rw[HR.out],((hb4.setCell (by simp<;>omega) _).setCell (by simp<;>omega) _).setCell (by simp<;>omega) _⟩;simp[results,Tryz.results63,go_sem,p0,p1,p2]
 . have HR:=hid (MJ.out he)
   go_wp2
   refine bodyPost_ret (v:= .tuple #[bG ⟨#[]⟩ ⟨#[]⟩ false,.bool false]) ?_ rfl ⟨by rw[HR.out],((hb4.setCell (by simp<;>omega) _).setCell (by simp<;>omega) _).setCell (by simp<;>omega) _⟩;simp[results,Tryz.results63,go_sem,p0,p1,p2]
theorem ru(la ha:ByteArray)(lb hb:ByteArray)(w:World):
 CB 63 #[bG la ha true,bG lb hb false] w (iy la ha true lb hb false):=by
 have hmax:=fun(w:World) (ts:Array TypeId) (t:TypeId)=>run_max_strs (P:=Tryz.prog) w ts t la lb
 have hyes:bZ (maxS la lb) (lowerB ha true hb false) false=true->iy la ha true lb hb false= .tuple #[bG ⟨#[]⟩ ⟨#[]⟩ false,.bool false]:=fun h=>by
  rw[jX]at h;unfold iy lu;simp[h]
 have hno:bZ (maxS la lb) (lowerB ha true hb false) false=false->iy la ha true lb hb false= .tuple #[bG (maxS la lb) (lowerB ha true hb false) false,.bool true]:=fun h=>by
  rw[jX]at*;unfold iy lu;simp[h]
 have MJ:=hid hyes;have Hno:=hid hno;clear hyes hno;go_enter Tryz.func63,Tryz.ntmps63
 go_wp2
 generalize hX:((w.alloc _).alloc _).alloc _=X;have hb0:Bw w X:=by rw[<-hX];exact((bAx).alloc (by simp) _).alloc (by simp;omega) _
 have hs0:w.heap.size+2<X.heap.size:=by rw[<-hX];simp
 have a0:X.cell? ⟨w.heap.size,0,none⟩=some (.string la):=by rw[<-hX];simp[go_sem]
 have a1:X.cell? ⟨w.heap.size,1,none⟩=some (.string ha):=by rw[<-hX];simp[go_sem]
 have a2:X.cell? ⟨w.heap.size,2,none⟩=some (.bool true):=by rw[<-hX];simp[go_sem]
 have b0:X.cell? ⟨w.heap.size+1,0,none⟩=some (.string lb):=by rw[<-hX];simp[go_sem]
 have b1:X.cell? ⟨w.heap.size+1,1,none⟩=some (.string hb):=by rw[<-hX];simp[go_sem]
 have b2:X.cell? ⟨w.heap.size+1,2,none⟩=some (.bool false):=by rw[<-hX];simp[go_sem]
 have r0:X.heap[w.heap.size+2]? =some (.cells #[.string ⟨#[]⟩,.string ⟨#[]⟩,.bool false] 41):=by
  rw[<-hX];show(((w.heap.push _).push _).push _)[w.heap.size+2]? =_
  rw[Array.getElem?_push,if_pos (by simp)]
 clear hX;have a0':=cell_regrown a0;have a1':=cell_regrown a1;have a2':=cell_regrown a2;have b0':=cell_regrown b0;have b1':=cell_regrown b1;have b2':=cell_regrown b2;clear a0 a1 a2 b0 b1 b2;refine Calm.fV 15 41 6 (.cells #[.string ⟨#[]⟩,.string ⟨#[]⟩,.bool false] 41) (by kernel_rfl) (by kernel_rfl) rfl (fun w=>by kernel_rfl) ?_;simp only[take_succ_cons,take_zero,drop_succ_cons,drop_zero]
 repeat (refine Calm.jf (fun K hK=>?_);go_simp;first|(refine hK _ ?_;clear hK K)|(apply Exists.intro;refine⟨fun _=>?_,hK _ ?_⟩;(go_at_call 98;exact mZ _ _ _ _ _ _ _);clear hK K))
 refine Calm.j4 ?_;intro b w1 hb1 hlt hle hblk;clear a0' a1' a2' b0' b1' b2' hmax;have hblk':=hb1.block (w.heap.size+2) hs0;rw[r0]at hblk';have f0:=Calm.cell_of_block hblk 0;have f1:=Calm.cell_of_block hblk 1;have f2:=Calm.cell_of_block hblk 2;have g0:=Calm.aF hblk 0;have g1:=Calm.aF hblk 1;have g2:=Calm.aF hblk 2;have p0:=Calm.cell_of_block hblk' 0;have p1:=Calm.cell_of_block hblk' 1;have p2:=Calm.cell_of_block hblk' 2;have q0:=Calm.aF hblk' 0;have q1:=Calm.aF hblk' 1;have q2:=Calm.aF hblk' 2;clear hblk hblk' r0;have hbr:b≠w.heap.size+2:=by omega
 go_wp2_with fail
 generalize hW:((w1.setCell _ _).setCell _ _).setCell _ _=w2;have hs2:w1.heap.size=w2.heap.size:=by rw[<-hW];simp
 have hb2:Bw w w2:=by
  rw[<-hW];exact(((hb0.trans (hb1.mono (by omega))).setCell (by simp;omega) _).setCell (by simp;omega) _).setCell (by simp;omega) _
 have f0':w2.cell? ⟨b,0,none⟩=some (.string (maxS la lb)):=by rw[<-hW];simp[go_sem,f0]
 have f1':w2.cell? ⟨b,1,none⟩=some (.string (lowerB ha true hb false)):=by rw[<-hW];simp[go_sem,f1]
 have f2':w2.cell? ⟨b,2,none⟩=some (.bool false):=by rw[<-hW];simp[go_sem,f2]
 have p0':w2.cell? ⟨w.heap.size+2,0,none⟩=some (.string ⟨#[]⟩):=by rw[<-hW];simp[go_sem,p0]
 have p1':w2.cell? ⟨w.heap.size+2,1,none⟩=some (.string ⟨#[]⟩):=by rw[<-hW];simp[go_sem,p1]
 have p2':w2.cell? ⟨w.heap.size+2,2,none⟩=some (.bool false):=by rw[<-hW];simp[go_sem,p2]
 have q0':w2.frozen? ⟨w.heap.size+2,0,none⟩=false:=by rw[<-hW];simp[go_sem,q0]
 have q1':w2.frozen? ⟨w.heap.size+2,1,none⟩=false:=by rw[<-hW];simp[go_sem,q1]
 have q2':w2.frozen? ⟨w.heap.size+2,2,none⟩=false:=by rw[<-hW];simp[go_sem,q2]
 clear hW f0 f1 f2 g0 g1 g2 p0 p1 p2 q0 q1 q2;have hle2:b<w2.heap.size:=by omega
 have hrs:w.heap.size+2<w2.heap.size:=by have:=hb1.size;omega
 refine(mY _ _ _ _).mono ?_;rintro e w3 ⟨rfl,hb3⟩;have f0:w3.cell? ⟨b,0,none⟩=_:=(hb3.cell hle2).trans f0';have f1:w3.cell? ⟨b,1,none⟩=_:=(hb3.cell hle2).trans f1';have f2:w3.cell? ⟨b,2,none⟩=_:=(hb3.cell hle2).trans f2';have p0:w3.cell? ⟨w.heap.size+2,0,none⟩=_:=(hb3.cell hrs).trans p0';have p1:w3.cell? ⟨w.heap.size+2,1,none⟩=_:=(hb3.cell hrs).trans p1';have p2:w3.cell? ⟨w.heap.size+2,2,none⟩=_:=(hb3.cell hrs).trans p2';have q0:w3.frozen? ⟨w.heap.size+2,0,none⟩=_:=(hb3.frozen hrs).trans q0';have q1:w3.frozen? ⟨w.heap.size+2,1,none⟩=_:=(hb3.frozen hrs).trans q1';have q2:w3.frozen? ⟨w.heap.size+2,2,none⟩=_:=(hb3.frozen hrs).trans q2';have hb4:Bw w w3:=hb2.trans (hb3.mono (by omega));clear f0' f1' f2' p0' p1' p2' q0' q1' q2' hb2 hb3 hb1;cases he:bZ (maxS la lb) (lowerB ha true hb false) false
 . have HR:=hid (Hno.out he)
   go_wp2
   refine bodyPost_ret (v:= .tuple #[bG (maxS la lb) (lowerB ha true hb false) false,.bool true]) ?_ rfl ⟨by rw[HR.out],((hb4.setCell (by simp<;>omega) _).setCell (by simp<;>omega) _).setCell (by simp<;>omega) _⟩;simp[results,Tryz.results63,go_sem,p0,p1,p2]
 . have HR:=hid (MJ.out he)
   go_wp2
   refine bodyPost_ret (v:= .tuple #[bG ⟨#[]⟩ ⟨#[]⟩ false,.bool false]) ?_ rfl ⟨by rw[HR.out],((hb4.setCell (by simp<;>omega) _).setCell (by simp<;>omega) _).setCell (by simp<;>omega) _⟩;simp[results,Tryz.results63,go_sem,p0,p1,p2]
theorem rO(la ha:ByteArray)(lb hb:ByteArray)(w:World):
 CB 63 #[bG la ha true,bG lb hb true] w (iy la ha true lb hb true):=by
 have hmax:=fun(w:World) (ts:Array TypeId) (t:TypeId)=>run_max_strs (P:=Tryz.prog) w ts t la lb
 have hyes:bZ (maxS la lb) (lowerB ha true hb true) true=true->iy la ha true lb hb true= .tuple #[bG ⟨#[]⟩ ⟨#[]⟩ false,.bool false]:=fun h=>by
  rw[jX]at h;unfold iy lu;simp[h]
 have hno:bZ (maxS la lb) (lowerB ha true hb true) true=false->iy la ha true lb hb true= .tuple #[bG (maxS la lb) (lowerB ha true hb true) true,.bool true]:=fun h=>by
  rw[jX]at*;unfold iy lu;simp[h]
 have MJ:=hid hyes;have Hno:=hid hno;clear hyes hno;go_enter Tryz.func63,Tryz.ntmps63
 go_wp2
 generalize hX:((w.alloc _).alloc _).alloc _=X;have hb0:Bw w X:=by rw[<-hX];exact((bAx).alloc (by simp) _).alloc (by simp;omega) _
 have hs0:w.heap.size+2<X.heap.size:=by rw[<-hX];simp
 have a0:X.cell? ⟨w.heap.size,0,none⟩=some (.string la):=by rw[<-hX];simp[go_sem]
 have a1:X.cell? ⟨w.heap.size,1,none⟩=some (.string ha):=by rw[<-hX];simp[go_sem]
 have a2:X.cell? ⟨w.heap.size,2,none⟩=some (.bool true):=by rw[<-hX];simp[go_sem]
 have b0:X.cell? ⟨w.heap.size+1,0,none⟩=some (.string lb):=by rw[<-hX];simp[go_sem]
 have b1:X.cell? ⟨w.heap.size+1,1,none⟩=some (.string hb):=by rw[<-hX];simp[go_sem]
 have b2:X.cell? ⟨w.heap.size+1,2,none⟩=some (.bool true):=by rw[<-hX];simp[go_sem]
 have r0:X.heap[w.heap.size+2]? =some (.cells #[.string ⟨#[]⟩,.string ⟨#[]⟩,.bool false] 41):=by
  rw[<-hX];show(((w.heap.push _).push _).push _)[w.heap.size+2]? =_
  rw[Array.getElem?_push,if_pos (by simp)]
 clear hX;have a0':=cell_regrown a0;have a1':=cell_regrown a1;have a2':=cell_regrown a2;have b0':=cell_regrown b0;have b1':=cell_regrown b1;have b2':=cell_regrown b2;clear a0 a1 a2 b0 b1 b2;refine Calm.fV 15 41 6 (.cells #[.string ⟨#[]⟩,.string ⟨#[]⟩,.bool false] 41) (by kernel_rfl) (by kernel_rfl) rfl (fun w=>by kernel_rfl) ?_;simp only[take_succ_cons,take_zero,drop_succ_cons,drop_zero]
 repeat (refine Calm.jf (fun K hK=>?_);go_simp;first|(refine hK _ ?_;clear hK K)|(apply Exists.intro;refine⟨fun _=>?_,hK _ ?_⟩;(go_at_call 98;exact mZ _ _ _ _ _ _ _);clear hK K))
 refine Calm.j4 ?_;intro b w1 hb1 hlt hle hblk;clear a0' a1' a2' b0' b1' b2' hmax;have hblk':=hb1.block (w.heap.size+2) hs0;rw[r0]at hblk';have f0:=Calm.cell_of_block hblk 0;have f1:=Calm.cell_of_block hblk 1;have f2:=Calm.cell_of_block hblk 2;have g0:=Calm.aF hblk 0;have g1:=Calm.aF hblk 1;have g2:=Calm.aF hblk 2;have p0:=Calm.cell_of_block hblk' 0;have p1:=Calm.cell_of_block hblk' 1;have p2:=Calm.cell_of_block hblk' 2;have q0:=Calm.aF hblk' 0;have q1:=Calm.aF hblk' 1;have q2:=Calm.aF hblk' 2;clear hblk hblk' r0;have hbr:b≠w.heap.size+2:=by omega
 go_wp2_with fail
 generalize hW:((w1.setCell _ _).setCell _ _).setCell _ _=w2;have hs2:w1.heap.size=w2.heap.size:=by rw[<-hW];simp
 have hb2:Bw w w2:=by
  rw[<-hW];exact(((hb0.trans (hb1.mono (by omega))).setCell (by simp;omega) _).setCell (by simp;omega) _).setCell (by simp;omega) _
 have f0':w2.cell? ⟨b,0,none⟩=some (.string (maxS la lb)):=by rw[<-hW];simp[go_sem,f0]
 have f1':w2.cell? ⟨b,1,none⟩=some (.string (lowerB ha true hb true)):=by rw[<-hW];simp[go_sem,f1]
 have f2':w2.cell? ⟨b,2,none⟩=some (.bool true):=by rw[<-hW];simp[go_sem,f2]
 have p0':w2.cell? ⟨w.heap.size+2,0,none⟩=some (.string ⟨#[]⟩):=by rw[<-hW];simp[go_sem,p0]
 have p1':w2.cell? ⟨w.heap.size+2,1,none⟩=some (.string ⟨#[]⟩):=by rw[<-hW];simp[go_sem,p1]
 have p2':w2.cell? ⟨w.heap.size+2,2,none⟩=some (.bool false):=by rw[<-hW];simp[go_sem,p2]
 have q0':w2.frozen? ⟨w.heap.size+2,0,none⟩=false:=by rw[<-hW];simp[go_sem,q0]
 have q1':w2.frozen? ⟨w.heap.size+2,1,none⟩=false:=by rw[<-hW];simp[go_sem,q1]
 have q2':w2.frozen? ⟨w.heap.size+2,2,none⟩=false:=by rw[<-hW];simp[go_sem,q2]
 clear hW f0 f1 f2 g0 g1 g2 p0 p1 p2 q0 q1 q2;have hle2:b<w2.heap.size:=by omega
 have hrs:w.heap.size+2<w2.heap.size:=by have:=hb1.size;omega
 refine(mY _ _ _ _).mono ?_;rintro e w3 ⟨rfl,hb3⟩;have f0:w3.cell? ⟨b,0,none⟩=_:=(hb3.cell hle2).trans f0';have f1:w3.cell? ⟨b,1,none⟩=_:=(hb3.cell hle2).trans f1';have f2:w3.cell? ⟨b,2,none⟩=_:=(hb3.cell hle2).trans f2';have p0:w3.cell? ⟨w.heap.size+2,0,none⟩=_:=(hb3.cell hrs).trans p0';have p1:w3.cell? ⟨w.heap.size+2,1,none⟩=_:=(hb3.cell hrs).trans p1';have p2:w3.cell? ⟨w.heap.size+2,2,none⟩=_:=(hb3.cell hrs).trans p2';have q0:w3.frozen? ⟨w.heap.size+2,0,none⟩=_:=(hb3.frozen hrs).trans q0';have q1:w3.frozen? ⟨w.heap.size+2,1,none⟩=_:=(hb3.frozen hrs).trans q1';have q2:w3.frozen? ⟨w.heap.size+2,2,none⟩=_:=(hb3.frozen hrs).trans q2';have hb4:Bw w w3:=hb2.trans (hb3.mono (by omega));clear f0' f1' f2' p0' p1' p2' q0' q1' q2' hb2 hb3 hb1;cases he:bZ (maxS la lb) (lowerB ha true hb true) true
 . have HR:=hid (Hno.out he)
   go_wp2
   refine bodyPost_ret (v:= .tuple #[bG (maxS la lb) (lowerB ha true hb true) true,.bool true]) ?_ rfl ⟨by rw[HR.out],((hb4.setCell (by simp<;>omega) _).setCell (by simp<;>omega) _).setCell (by simp<;>omega) _⟩;simp[results,Tryz.results63,go_sem,p0,p1,p2]
 . have HR:=hid (MJ.out he)
   go_wp2
   refine bodyPost_ret (v:= .tuple #[bG ⟨#[]⟩ ⟨#[]⟩ false,.bool false]) ?_ rfl ⟨by rw[HR.out],((hb4.setCell (by simp<;>omega) _).setCell (by simp<;>omega) _).setCell (by simp<;>omega) _⟩;simp[results,Tryz.results63,go_sem,p0,p1,p2]
theorem I4(la ha:ByteArray)(ta:Bool)(lb hb:ByteArray)(tb:Bool)(w:World):
 CB 63 #[bG la ha ta,bG lb hb tb] w (iy la ha ta lb hb tb):=by
 cases ta<;>cases tb
 . exact oM la ha lb hb w
 . exact q9 la ha lb hb w
 . exact ru la ha lb hb w
 . exact rO la ha lb hb w
end Lx
end Go.Proofs.YtmcbidhpkpmalaaGreatDoor
