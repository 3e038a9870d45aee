import Derived.Test.YtjpjjnalpdpljaaGreatDoorPkAG
import Derived.Test.YtjpjjnalpdpljaaGreatDoorPkAB
import Derived.Test.YtjpjjnalpdpljaaGreatDoorPqDrift
import Derived.StillTailTactics
import Derived.Deep.QuietTactic
import Derived.Deep.DeepCutAuto
import Derived.Deep.CutBlock
import Derived.Test.YtjpjjnalpdpljaaGreatDoorChecked
import Derived.Test.YtjpjjnalpdpljaaGreatDoorPkAC
import Derived.WalkKit
import Derived.WalkLawsBesides
import Derived.KernelRfl
import Derived.WalkSpells
import Derived.BigQuiet
set_option maxHeartbeats 2000000
namespace Go.Proofs.YtjpjjnalpdpljaaGreatDoor
open Go.RowKit
open Go.Lib (hid)
open List (replicate)
namespace Dv
open Mem
theorem bN {S S':List Nat} {a b c:World} (h:Flow.Into S a b) (k:Flow.Into S' b c) (hn:∀x,x∈S'->x∈S\/a.heap.size<=x):Flow.Into S a c:=
 ⟨k.os.trans h.os,k.tape.trans h.tape,k.output.trans h.output,Nat.le_trans h.size k.size,fun i hi hs=>(k.block i (Nat.lt_of_lt_of_le hi h.size) (fun hh=>by
   rcases hn i hh with h'|h'
   . exact hs h'
   . omega)).trans (h.block i hi hs)⟩
theorem nA {α:Type} {L l:List α} (h:l.length=L.length):splice L 0 l=l:=by
 simp [splice,h]
theorem iC.look {w:World} {g b c m:Nat} {bks:List Bk} {ls:List (List UInt8)} {r s:Nat} (h:iC w g b c m bks ls r s) {i:Nat} {x:List UInt8} (hy:ls[i]? =some x):
 ∃A n' k' l',w.cell? ⟨b,i,none⟩=some (.slice A n' k')/\BL w A l'/\l'.length=n'/\n'<=m/\Go.splice (aI (replicate m 0)) 0 (aI l')=aI x:=by
 obtain ⟨hi,-⟩:=List.getElem?_eq_some_iff.1 hy;have hib:i<bks.length:=by rw [h.len];exact hi
 have hx:bks[i]? =some bks[i]:=List.getElem?_eq_getElem hib;have hc:=h.Gw hx
 match e:bks[i] with
 |none=>
  rw [e] at hx hc;have h1:=h.no i hx;rw [hy] at h1;refine ⟨none,0,0,[],hc,BL.nil _ _,rfl,Nat.zero_le _,?_⟩;rw [Option.some.inj h1];simp [Go.splice,aI]
 |some (q,o,k)=>
  rw [e] at hx hc;obtain ⟨_,_,_,C,x',h4,h5,h6,h7⟩:=h.yes i q o k hx;rw [hy] at h6;obtain rfl:=Option.some.inj h6;obtain ⟨hl,hb⟩:=oW h4 h5 h7;refine ⟨some ⟨q,o,none⟩,m,k,x,hc,hb,hl,Nat.le_refl _,nA (by simp [hl])⟩
section
variable {w:World} {S:List Nat} {g m:Nat} {ls:List (List UInt8)} {r s:Nat}
theorem Dh (h:Dev w S g m ls r s) (i:Nat) (x:List UInt8) (hx:ls[i]? =some x) (hr:r<=1000000):Calls Tryz.prog 27 #[g,.int .u32 (i:Int)] w fun e w'=>(∃q k,e=.returned (.tuple #[.slice (some ⟨q,0,none⟩) m k,(0:Int)])/\Row 5 w' q x/\w.heap.size<=q)/\Dev w' S g m ls (r+1) s/\Flow.Into [g] w w':=by
 obtain ⟨hi,hx'⟩:=List.getElem?_eq_some_iff.1 hx;have cP:=hid (dI h i hi);have hmk:=fun w=>eH (P:=Tryz.prog) Tryz.underlying72 gH rfl (by omega) m (by have:=h.m2;omega) w;obtain ⟨⟨b,c,bks,h1,h2⟩,m1,m2,n1,n2,h7⟩:=h;have H7:=hid h7;clear h7;obtain ⟨d0,d1,d2,d3⟩:=h1.cells;have f2:=h1.free 2;have hwr:IntKind.u64.wrap ((r:Int)+1)=(r:Int)+1:=by rw [IntKind.wrap_u64];omega
 have HW:=hid h1;have HS:=hid h2;have hib:i<bks.length:=by rw [h1.len];exact hi
 obtain ⟨n,hn⟩:∃n,n=bks.length:=⟨_,rfl⟩
 rw [<-hn] at d1 hib;have HN:=hid hn;have HX:=hid hx;clear hx hx' h1 h2 hi hn d0 d1 d3;go_enter Tryz.func27,Tryz.ntmps27
 go_upto_region 5 with (go_at_call 60;refine cP.out.mono ?_;rintro e w' ⟨rfl,rfl⟩)
 have hr1:=HW.out.read;generalize w.setCell ⟨g,2,none⟩ (.int .u64 ((r:Int)+1))=w1 at*;obtain ⟨hw1,hi1⟩:=hr1;have HW1:=hid hw1;have HI1:=hid hi1;obtain ⟨d0,d1,-,-⟩:=hw1.cells;rw [<-HN.out] at d1;clear d2 f2 hw1 hi1;go_upto_region 6 with fail
 have hrow:Row 5 (w1.alloc (.cells (Array.replicate m (.int .u8 0)) 5)) w1.heap.size (replicate m 0):=by
  have:=Row.new 5 w1 (replicate m 0);simpa [aI,j6] using this
 have hb2:Bw w1 (w1.alloc (.cells (Array.replicate m (.int .u8 0)) 5)):=bAx;generalize w1.alloc (.cells (Array.replicate m (.int .u8 0)) 5)=w2 at*;have HW2:=hid (HW1.out.kept hb2);obtain ⟨q,hq⟩:∃q,q=w1.heap.size:=⟨_,rfl⟩
 have hqs:w.heap.size<=q:=by have:=HI1.out.size;omega
 rw [<-hq] at hrow ⊢;have Gp:Hid (Cells 5 w2 q (aI (replicate m 0))):=hid hrow;have HB2:=hid hb2;have HQ:=hid hq;obtain ⟨A,n',k',l',e1,e2,e3,e4,e5⟩:=HW2.out.look HX.out;have HE2:=hid e2;have HE3:=hid e3;have HE5:=hid e5;obtain ⟨d0,d1,-,-⟩:=HW2.out.cells;rw [<-HN.out] at d1;clear hrow hb2 hq e2 e3 e5;go_wp2_with (with_reducible refine eG rfl (.tmp 28) (.tmp 35) _ _ rfl 5 Tryz.underlying72 oL q 0 m m n' k' A rfl rfl (aI (replicate m 0)) l' Gp.out HE3.out HE2.out e4 (by simp) ?_;intro w3 hr3 hi3)
 refine bodyPost_ret (v:= .tuple #[.slice (some ⟨q,0,none⟩) m m,(0:Int)]) (by simp [results,Tryz.results27,go_sem]) rfl ⟨⟨q,m,rfl,?_,hqs⟩,⟨⟨b,c,bks,?_,HS.out⟩,m1,m2,n1,n2,fun k hk=>Nat.lt_of_lt_of_le (H7.out k hk) (Nat.le_trans HI1.out.size (Nat.le_trans HB2.out.size hi3.out.size))⟩,?_⟩
 . have:=hr3.out
   rw [HE5.out] at this;exact this
 . refine HW2.out.into hi3.out fun k hk=>?_
   have:=HW1.out.lt k hk;have:=HQ.out;simp;omega
 . refine bN (HI1.out.trans (Flow.Into.of_below HB2.out)) hi3.out fun y hy=> .inr ?_
   obtain rfl:y=q:=(by simpa using hy);exact hqs
end
end Dv
end Go.Proofs.YtjpjjnalpdpljaaGreatDoor
set_option maxHeartbeats 2000000
namespace Go.Proofs.YtjpjjnalpdpljaaGreatDoor
open Go.RowKit
open Go.Lib (hid)
open List (mem_cons replicate)
namespace Dv
open Mem
section
variable {w:World} {S:List Nat} {g m:Nat} {ls:List (List UInt8)} {r s:Nat}
theorem qC (h:Dev w S g m ls r s) (i:Nat) (A:Option Addr) (n c:Nat) (hi:i<ls.length) (hn:n≠m):CW 133 #[g,.int .u32 (i:Int),.slice A n c] w (.int .i64 3):=by
 have cP:=hid (dI h i hi);obtain ⟨b,c',d0,-,-,-⟩:=h.cells;have hne:(((n:Int) != (m:Int)))=true:=by simp;omega
 clear h hi hn;go_enter Tryz.func133,Tryz.ntmps133
 go_wp2_with (go_at_call 60;refine cP.out.mono ?_;rintro e w' ⟨rfl,rfl⟩)
 go_ret
 exact ⟨rfl,rfl⟩
theorem Di {b c:Nat} {bks:List Bk} (i:Nat) (h1:iC w g b c m bks ls r s) (cP0:CW 60 #[g,.int .u32 (i:Int)] w (.int .i64 0)) (hs:s<=1000000)
 (A:Option Addr) (k:Nat) (l:List UInt8) (hl:l.length=m) (hA:BL w A l) (hn:∀a,A=some a->a.block≠g) {q o k':Nat} (hx:bks[i]? =some (some (q,o,k'))):
 Calls Tryz.prog 133 #[g,.int .u32 (i:Int),.slice A m k] w fun e w'=>e=.returned (0:Int)/\iC w' g b c m bks (ls.set i l) r (s+1)/\Flow.Into [g,q] w w':=by
 have cP:=hid cP0;obtain ⟨d0,d1,d2,d3⟩:=h1.cells;have f3:=h1.free 3;have hwr:IntKind.u64.wrap ((s:Int)+1)=(s:Int)+1:=by rw [IntKind.wrap_u64];omega
 have HW:=hid h1;have HX:=hid hx;have HL:=hid hl;have HA:=hid hA;have HN:=hid hn;have hib:i<bks.length:=(List.getElem?_eq_some_iff.1 hx).1;have hnil:∀W,(binOp .eql 72 (.slice (some ⟨q,o,none⟩) m k') (.slice none 0 0)).run Tryz.prog W= .ok (.bool false) W:=fun W=>Lib.run_eql_slice_nil W _ _ _ _ _ _ _ Tryz.underlying72
 obtain ⟨n,hn'⟩:∃n,n=bks.length:=⟨_,rfl⟩
 rw [<-hn'] at d1 hib;have HNN:=hid hn';clear hx hl hA hn h1 cP0 hn' d1 d2;go_enter Tryz.func133,Tryz.ntmps133
 go_upto_region 7 with (go_at_call 60;refine cP.out.mono ?_;rintro e w' ⟨rfl,rfl⟩)
 have hr1:=HW.out.wrote;generalize w.setCell ⟨g,3,none⟩ (.int .u64 ((s:Int)+1))=w1 at*;obtain ⟨hw1,hi1⟩:=hr1;have HW1:=hid hw1;have HI1:=hid hi1;have HA1:=hid (HA.out.keep (w':=w1) fun hl a ha=>hi1.block _ (HA.out.lt hl a ha) (by simpa using HN.out a ha));obtain ⟨-,d1,-,-⟩:=hw1.cells;rw [<-HNN.out] at d1;have d4:w1.cell? ⟨b,i,none⟩=some (.slice (some ⟨q,o,none⟩) m k'):=hw1.Gw HX.out;obtain ⟨q1,q2,q3,L,x0,q4,q5,q6,q7⟩:=hw1.yes i q o k' HX.out;have HQ4:=hid q4;clear d3 f3 hw1 hi1 q4 q6 q7 d0;go_wp2_with (with_reducible refine eG rfl (.tmp 55) (.tmp 56) _ _ rfl 5 Tryz.underlying72 oL q o m k' m k A rfl rfl L l HQ4.out HL.out HA1.out (Nat.le_refl _) q5 ?_;intro w3 hr3 hi3)
 go_ret
 refine ⟨rfl,HW1.out.splice HX.out HQ4.out HL.out hi3.out hr3.out,?_⟩;exact (HI1.out.mono fun y hy=>by simp at hy ⊢;exact .inl hy).trans (hi3.out.mono fun y hy=>by simp at hy ⊢;exact .inr hy)
theorem Dj {b c:Nat} {bks:List Bk} (i:Nat) (h1:iC w g b c m bks ls r s) (m1:1<=m) (m2:m<=65536) (cP0:CW 60 #[g,.int .u32 (i:Int)] w (.int .i64 0)) (hs:s<=1000000)
 (A:Option Addr) (k:Nat) (l:List UInt8) (hl:l.length=m) (hA:BL w A l) (hn:∀a,A=some a->a.block≠g/\a.block≠b) (hx:bks[i]? =some none):
 Calls Tryz.prog 133 #[g,.int .u32 (i:Int),.slice A m k] w fun e w'=>e=.returned (0:Int)/\(∃q,iC w' g b c m (bks.set i (some (q,0,m))) (ls.set i l) r (s+1)/\w.heap.size<=q)/\Flow.Into [g,b] w w':=by
 have cP:=hid cP0;obtain ⟨d0,d1,d2,d3⟩:=h1.cells;have f3:=h1.free 3;have hwr:IntKind.u64.wrap ((s:Int)+1)=(s:Int)+1:=by rw [IntKind.wrap_u64];omega
 have HW:=hid h1;have HX:=hid hx;have HL:=hid hl;have HA:=hid hA;have HN:=hid hn;have hib:i<bks.length:=(List.getElem?_eq_some_iff.1 hx).1;have HIB:=hid hib;obtain ⟨n,hn'⟩:∃n,n=bks.length:=⟨_,rfl⟩
 rw [<-hn'] at d1 hib;have HNN:=hid hn';have hnil:∀W,(binOp .eql 72 (.slice none 0 0) (.slice none 0 0)).run Tryz.prog W= .ok (.bool true) W:=fun W=>Lib.run_eql_slice_nil W _ _ _ _ _ _ _ Tryz.underlying72
 have hmk:=fun w=>eH (P:=Tryz.prog) Tryz.underlying72 gH rfl (by omega) m (by omega) w;clear hx hl hA hn h1 cP0 hn' d1 d2;go_enter Tryz.func133,Tryz.ntmps133
 go_upto_region 7 with (go_at_call 60;refine cP.out.mono ?_;rintro e w' ⟨rfl,rfl⟩)
 have hr1:=HW.out.wrote;generalize w.setCell ⟨g,3,none⟩ (.int .u64 ((s:Int)+1))=w1 at*;obtain ⟨hw1,hi1⟩:=hr1;have HW1:=hid hw1;have HI1:=hid hi1;have HA1:=hid (HA.out.keep (w':=w1) fun hl a ha=>hi1.block _ (HA.out.lt hl a ha) (by simpa using (HN.out a ha).1));obtain ⟨d0',d1,-,-⟩:=hw1.cells;rw [<-HNN.out] at d1;have d4:w1.cell? ⟨b,i,none⟩=some (.slice none 0 0):=hw1.Gw HX.out;clear d3 f3 hw1 hi1 d0;go_upto_region 8 with fail
 have D4:=hid d4;have e0:=ah.tc d0';have e1:=ah.tc d1;clear d0' d1 d4 cP;refine ah.aj [] [(0,[]),(1,[]),(2,[]),(3,[]),(4,[]),(5,[]),(6,[]),(7,[]),(8,[]),(9,[])] [] [9] (by kernel_rfl) (by kernel_rfl) (by simp) ?_;simp only [ah.pick,ah.aO,ah.dL]
 repeat (refine ah.ak (fun K hK=>?_);go_simp;(refine hK _ ?_;clear hK K))
 refine ah.dF rfl ah.aF (fun b=> .slice (some ⟨b,0,none⟩) m m) (.cells (replicate m (.int .u8 0)).toArray 5) (fun W=>by go_simp) (fun q hq hT=>?_);refine ah.walk_nil ?_;intro w2 hb2 hl2
 have hrow:Row 5 w2 q (replicate m 0):=by
  have:=hl2 (q,.cells (replicate m (.int .u8 0)).toArray 5) (by simp);unfold Row;simpa [aI,j6] using this
 have HW2:=hid (HW1.out.kept hb2)
 have hqn:q≠g/\q≠b:=by
  have h1:=HW1.out.lt g (by simp [foot]);have h2:=HW1.out.lt b (by simp [foot]);omega
 have hput:iC (w2.setCell ⟨b,i,none⟩ (.slice (some ⟨q,0,none⟩) m m)) g b c m (bks.set i (some (q,0,m))) (ls.set i (replicate m 0)) r (s+1)/\Flow.Into [b] w2 (w2.setCell ⟨b,i,none⟩ (.slice (some ⟨q,0,none⟩) m m)):=HW2.out.put (o:=0) HIB.out hrow hqn.1 hqn.2 (by simp) (by have:=J7 (aI (replicate m 0));rw [bM,List.length_replicate] at this;exact this) (Nat.le_refl m) (fun j o' k' _ hj=>by
  have:=HW1.out.lt q (mE hj)
  omega)
 have Gp:=hid hrow;have HQ:=hid hq;have HB2:=hid hb2;have f5:=HW2.out.OV i;have d4:=(Below.cell hb2 (p:=⟨b,i,none⟩) (HW1.out.lt b (by simp [foot]))).trans D4.out;clear hrow hq hb2 hl2 e0 e1 hT;simp only [lC,Nat.zero_add,Nat.reduceAdd];go_upto_region 9 with fail
 have hrow3:Cells 5 (w2.setCell ⟨b,i,none⟩ (.slice (some ⟨q,0,none⟩) m m)) q (aI (replicate m 0)):=(hput.2.block q Gp.out.lt (by simpa using hqn.2)).trans Gp.out;have hA3:BL (w2.setCell ⟨b,i,none⟩ (.slice (some ⟨q,0,none⟩) m m)) A l:=(HA1.out.below HB2.out).keep fun hl a ha=>hput.2.block _ ((HA1.out.below HB2.out).lt hl a ha) (by simpa using (HN.out a ha).2);generalize w2.setCell ⟨b,i,none⟩ (.slice (some ⟨q,0,none⟩) m m)=w3 at*;obtain ⟨hw3,hi3⟩:=hput;have HW3:=hid hw3;have HI3:=hid hi3;have HR3:=hid hrow3;have HA3:=hid hA3;obtain ⟨-,d1,-,-⟩:=hw3.cells;rw [List.length_set,<-HNN.out] at d1;have hxs:(bks.set i (some (q,0,m)))[i]? =some (some (q,0,m)):=by rw [List.getElem?_set];simp [HIB.out]
 have HXS:=hid hxs;have d4':w3.cell? ⟨b,i,none⟩=some (.slice (some ⟨q,0,none⟩) m m):=hw3.Gw hxs;clear hw3 hi3 hrow3 hA3 f5 d4 hxs;go_wp2_with (with_reducible refine eG rfl (.tmp 55) (.tmp 56) _ _ rfl 5 Tryz.underlying72 oL q 0 m m m k A rfl rfl (aI (replicate m 0)) l HR3.out HL.out HA3.out (Nat.le_refl _) (by simp) ?_;intro w4 hr4 hi4)
 go_ret
 refine ⟨rfl,⟨q,?_,?_⟩,?_⟩
 . have:=HW3.out.splice HXS.out HR3.out HL.out hi4.out hr4.out
   rw [List.set_set] at this;exact this
 . have:=HI1.out.size
   have:=HQ.out;omega
 . refine bN ((HI1.out.mono fun y hy=>by simp at hy ⊢;exact .inl hy).trans ((Flow.Into.of_below HB2.out).trans (HI3.out.mono fun y hy=>by simp at hy ⊢;exact .inr hy))) hi4.out fun y hy=> .inr ?_
   obtain rfl:y=q:=(by simpa using hy);have:=HI1.out.size;have:=HQ.out;omega
theorem Gx (h:Dev w S g m ls r s) (i:Nat) (hi:i<ls.length) (hs:s<=1000000) (A:Option Addr) (k:Nat) (l:List UInt8) (hl:l.length=m) (hA:BL w A l) (hn:∀a,A=some a->a.block∉S):
 Calls Tryz.prog 133 #[g,.int .u32 (i:Int),.slice A m k] w fun e w'=>e=.returned (0:Int)/\(∃S',Dev w' S' g m (ls.set i l) r (s+1)/\Df w S S')/\Flow.Into S w w':=by
 have cP:=dI h i hi;obtain ⟨⟨b,c,bks,h1,h2⟩,m1,m2,n1,n2,h7⟩:=h;have hib:i<bks.length:=by rw [h1.len];exact hi
 have hx:bks[i]? =some bks[i]:=List.getElem?_eq_getElem hib;have hg:g∈S:=h2 g (by simp [foot]);have hb:b∈S:=h2 b (by simp [foot])
 match e:bks[i] with
 |none=>
  rw [e] at hx;refine (Dj i h1 m1 m2 cP hs A k l hl hA (fun a ha=>⟨fun h'=>hn a ha (h'▸hg),fun h'=>hn a ha (h'▸hb)⟩) hx).mono fun e w' ⟨he,⟨q,hd,hq⟩,hi'⟩=>?_;refine ⟨he,⟨q::S,⟨⟨b,c,_,hd,fun k' hk'=>?_⟩,m1,m2,by simpa using n1,by simpa using n2,fun k' hk'=>?_⟩,fun k' hk'=>?_⟩,hi'.mono fun y hy=>?_⟩
  . rcases Gv hk' with rfl|h'
    . exact List.mem_cons_self
    . exact List.mem_cons_of_mem _ (h2 _ h')
  . rcases mem_cons.1 hk' with rfl|h'
    . exact hd.lt _ (mE (i:=i) (o:=0) (k:=m) (by rw [List.getElem?_set];simp [hib]))
    . exact Nat.lt_of_lt_of_le (h7 _ h') hi'.size
  . rcases mem_cons.1 hk' with rfl|h'
    . exact .inr hq
    . exact .inl h'
  . simp at hy
    rcases hy with rfl|rfl
    . exact hg
    . exact hb
 |some (q,o,k')=>
  rw [e] at hx;refine (Di i h1 cP hs A k l hl hA (fun a ha h'=>hn a ha (h'▸hg)) hx).mono fun e w' ⟨he,hd,hi'⟩=>?_;refine ⟨he,⟨S,⟨⟨b,c,_,hd,h2⟩,m1,m2,by simpa using n1,by simpa using n2,fun k' hk'=>Nat.lt_of_lt_of_le (h7 _ hk') hi'.size⟩,fun k' hk'=> .inl hk'⟩,hi'.mono fun y hy=>?_⟩;simp at hy;rcases hy with rfl|rfl
  . exact hg
  . exact h2 _ (mE hx)
end
end Dv
end Go.Proofs.YtjpjjnalpdpljaaGreatDoor
set_option maxHeartbeats 1000000
set_option maxRecDepth 100000
namespace Go.Proofs.YtjpjjnalpdpljaaGreatDoor
open Go.RowKit
open Go.Lib (hid)
namespace Dv
open Mem
theorem Dk {U:TypeId} {w:World} {B:Nat} {v:Value} {l:List UInt8} (h:Own U w B v l) (h0:0<l.length):∃q c C,v= .slice (some ⟨q,0,none⟩) l.length c/\B<=q/\Cells U w q C/\l.length<=c/\l.length<=C.length/\win C 0 l.length=aI l:=by
 obtain ⟨_,h2⟩:=h;rcases h2 with ⟨_,h'⟩|⟨g,cap,cur,rfl,hB,hh,hle,_,hsz,htake⟩
 . omega
 . exact ⟨g,cap,cur.toList,rfl,hB,by unfold Cells;simpa using hh,hle,by simp;omega,by simpa [win] using htake⟩
def Mh (w w':World) (n:Nat) (l:List UInt8) (e:Ending):Prop:=∃q c' C,e=.returned (.slice (some ⟨q,0,none⟩) n c')/\Cells 5 w' q C/\n<=c'/\n<=C.length/\win C 0 n=aI l/\w.heap.size<=q
theorem wT (A:Option Addr) (c:Nat) (l:List UInt8) (w:World) (hA:BL w A l) (h0:0<l.length) (hm:l.length<=1048576):
 Calls Tryz.prog 87 #[.slice A l.length c] w fun e w'=>Mh w w' l.length l e/\Bw w w':=by
 obtain ⟨b,o,rfl,_⟩:=hA h0;obtain ⟨m,hm'⟩:∃m,m=l.length:=⟨_,rfl⟩
 have hnil:∀W,(binOp .eql 72 (.slice (some ⟨b,o,none⟩) m c) (.slice none 0 0)).run Tryz.prog W= .ok (.bool false) W:=fun W=>Lib.run_eql_slice_nil W _ _ _ _ _ _ _ Tryz.underlying72
 have HO:Hid (Own 5 (w.alloc (.cells #[] 5)) w.heap.size (.slice (some ⟨w.heap.size,0,none⟩) 0 0) []):=Own.lit 5 w w.heap.size [] (Nat.le_refl _) (by decide);have HA:=hid (hA.alloc (.cells #[] 5));have HL:=hid hm'.symm;have HP:=hid h0;have hs:w.heap.size<=(w.alloc (.cells #[] 5)).heap.size:=by simp
 have HB:Hid (Bw w (w.alloc (.cells #[] 5))):=bAx;rw [<-hm'] at hm ⊢;clear hA h0 hm';go_enter Tryz.func87,Tryz.ntmps87
 have hmm:([]:List UInt8).length+m<=140737488355328:=by simp;omega
 go_wp2_with (with_reducible refine gW rfl (.tmp 5) (.tmp 6) _ rfl w.heap.size 5 Tryz.underlying72 gH (.slice (some ⟨w.heap.size,0,none⟩) 0 0) [] rfl HO.out (some ⟨b,o,none⟩) m c l rfl HL.out HA.out hmm hs ?_;intro v' w1 hO hg _)
 have HOO:Hid (Own 5 w1 w.heap.size v' l):=by unfold Hid;simpa using hO.out
 obtain ⟨q,c',C,rfl,h1,h2,h3,h4,h5⟩:=Dk HOO.out HP.out
 have HB1:=hid (HB.out.grown hg hs (fun k hk=>by
  obtain rfl:w.heap.size=k:=by simpa [Value.ownBlock] using hk
  exact Nat.le_refl _))
 have H5:=hid h5;clear hO hg h5;rw [HL.out] at*;go_wp2_with fail
 go_ret
 exact ⟨⟨q,c',C,rfl,h2,h3,h4,H5.out,h1⟩,HB1.out⟩
def part (ls:List (List UInt8)) (m k:Nat):List UInt8:=(ls.take k).flatten++List.replicate ((ls.length-k)*m) 0
theorem yS {m:Nat}:∀{ls:List (List UInt8)},(∀l,l∈ls->l.length=m)->ls.flatten.length=ls.length*m
 |[],_=>by simp
 |x::r,h=>by
  rw [List.flatten_cons,List.length_append,h x List.mem_cons_self,yS fun l hl=>h l (List.mem_cons_of_mem _ hl),List.length_cons,Nat.succ_mul];omega
theorem sw {m k:Nat} {ls:List (List UInt8)} (h:∀l,l∈ls->l.length=m) (hk:k<=ls.length):(ls.take k).flatten.length=k*m:=by
 rw [yS fun l hl=>h l (List.mem_of_mem_take hl),List.length_take,Nat.min_eq_left hk]
theorem sD {m k:Nat} {ls:List (List UInt8)} (h:∀l,l∈ls->l.length=m) (hk:k<=ls.length):(part ls m k).length=ls.length*m:=by
 unfold part;rw [List.length_append,sw h hk,List.length_replicate,<-Nat.add_mul];congr 1;omega
end Dv
end Go.Proofs.YtjpjjnalpdpljaaGreatDoor
set_option maxRecDepth 100000
namespace Go.Proofs.YtjpjjnalpdpljaaGreatDoor
open Go.RowKit
namespace So
open Mem Po
def Srt (l:List Nat):Prop:=l.Pairwise (· <= ·)
def Ins (L l:List Nat) (i j:Nat):Prop:=∃A x B C,L=A++x::(B++C)/\A.length=j/\j+B.length=i/\Srt (A++B)/\(∀b,b∈B->x<b)/\L.Perm l
theorem Dm {L l:List Nat} {i:Nat} (hi:i<L.length) (hs:Srt (L.take i)) (hp:L.Perm l):Ins L l i i:=by
 refine ⟨L.take i,L[i],[],L.drop (i+1),?_,by simp;omega,by simp,by simpa using hs,by simp,hp⟩;simp
theorem oZ (x:Int) (w:World):CW 210 #[.int .u32 x] w (.bool false):=by
 go_enter Tryz.func210,Tryz.ntmps210
 go_wp2
 go_ret
 exact ⟨by simp,rfl⟩
theorem yT (x y:Int) (w:World):CW 192 #[.int .u32 x,.int .u32 y] w (.bool (decide (x<y))):=by
 have cN:=fun x=>Lib.hid (oZ x w);go_enter Tryz.func192,Tryz.ntmps192
 go_wp2_with (go_at_call 210;refine (cN _).out.mono ?_;rintro e w' ⟨rfl,rfl⟩)
 all_goals go_ret
 all_goals exact ⟨by simp_all,rfl⟩
theorem uK (w:World):Below w.heap.size w { w with drawn:=w.drawn+1 }:=⟨rfl,rfl,rfl,Nat.le_refl _,fun _ _=>rfl⟩
structure OS (w wr:World) (g c:Nat) (l L:List Nat) (n k:Nat):Prop where
 ow:Ow 25 wr g c (L.map jc)
 so:Srt (L.take k)
 pm:L.Perm l
 hi:Flow.Into [g] w wr
 le:L.length=n
structure IS (w wr:World) (g c:Nat) (l L:List Nat) (n i j:Nat):Prop where
 ow:Ow 25 wr g c (L.map jc)
 ins:Ins L l i j
 hi:Flow.Into [g] w wr
 le:L.length=n
section
variable {w wr w':World} {g c n i j k:Nat} {l L:List Nat}
theorem IS.drawn (h:IS w wr g c l L n i j):IS w { wr with drawn:=wr.drawn+1 } g c l L n i j:=⟨h.ow.kept (uK wr),h.ins,h.hi.trans (Flow.Into.of_below (uK wr)),h.le⟩
theorem fF (w:World) (m:Nat):Bw w (w.drewN m):=⟨rfl,rfl,rfl,Nat.le_refl _,fun _ _=>rfl⟩
theorem IS.drew (h:IS w wr g c l L n i j) (m:Nat):IS w (wr.drewN m) g c l L n i j:=⟨h.ow.kept (fF wr m),h.ins,h.hi.trans (Flow.Into.of_below (fF wr m)),h.le⟩
theorem OS.drew (h:OS w wr g c l L n i) (m:Nat):OS w (wr.drewN m) g c l L n i:=⟨h.ow.kept (fF wr m),h.so,h.pm,h.hi.trans (Flow.Into.of_below (fF wr m)),h.le⟩
theorem OS.is (h:OS w wr g c l L n i) (hi:i<n):IS w wr g c l L n i i:=⟨h.ow,Dm (by rw [h.le];exact hi) h.so h.pm,h.hi,h.le⟩
theorem IS.cell (h:IS w wr g c l L n i j) {a x:Nat} (hx:L[a]? =some x):wr.cell? ⟨g,a,none⟩=some (.int .u32 (x:Int)):=by
 obtain ⟨h1,h2⟩:=List.getElem?_eq_some_iff.1 hx;rw [h.ow.cell (by simpa using h1)];simp [jc,h2]
theorem IS.swap (h:IS w wr g c l L n i (k+1)) {x y:Nat} (hs:Ins ((L.set (k+1) y).set k x) l i k):IS w ((wr.setCell ⟨g,k+1,none⟩ (.int .u32 (y:Int))).setCell ⟨g,k,none⟩ (.int .u32 (x:Int))) g c l ((L.set (k+1) y).set k x) n i k:=by
 obtain ⟨o1,i1⟩:=h.ow.set (k+1) (.int .u32 (y:Int));obtain ⟨o2,i2⟩:=o1.set k (.int .u32 (x:Int));refine ⟨?_,hs,(h.hi.trans i1).trans i2,by simpa using h.le⟩
 have e:((L.map jc).set (k+1) (.int .u32 (y:Int))).set k (.int .u32 (x:Int))=((L.set (k+1) y).set k x).map jc:=by
  rw [List.map_set,List.map_set];rfl
 rw [<-e];exact o2
end
theorem insert_nil {w:World} (c:Nat):CW 186 #[.slice none 0 c,(0:Int),(0:Int)] w (.tuple #[]):=by
 go_enter Tryz.func186,Tryz.ntmps186
 go_wp2_with fail
 go_loopg [6] 0 (fun gk iv wr=>gk=0/\iv= .int .i64 1/\w=wr)
 case atStart=>exact ⟨rfl,rfl,rfl⟩
 case round=>
  obtain ⟨rfl,rfl,rfl⟩:=hrel;go_wp2_with fail
  go_end0
  exact ⟨rfl,rfl⟩
end So
end Go.Proofs.YtjpjjnalpdpljaaGreatDoor
set_option maxRecDepth 100000
namespace Go.Proofs.YtjpjjnalpdpljaaGreatDoor
open Go.RowKit
namespace So
open Mem Po
theorem lq (n:Nat) (hn:n<=12) (w:World):Calls Tryz.prog 165 #[.int .u64 (n:Int)] w fun e w'=>∃z,e=.returned (z:Int)/\w=w':=by
 have h:n=0\/n=1\/n=2\/n=3\/n=4\/n=5\/n=6\/n=7\/n=8\/n=9\/n=10\/n=11\/n=12:=by omega
 clear hn;rcases h with rfl|rfl|rfl|rfl|rfl|rfl|rfl|rfl|rfl|rfl|rfl|rfl|rfl
 all_goals
  go_enter Tryz.func165,Tryz.ntmps165
  go_wp2_with go_in
  go_ret
  exact ⟨_,rfl,rfl⟩
theorem Gy {w:World} (c:Nat) (z:Int):CW 164 #[.slice none 0 c,(0:Int),(0:Int),z] w (.tuple #[]):=by
 have cI:=Lib.hid (insert_nil (w:=w) c);go_enter Tryz.func164,Tryz.ntmps164
 go_wp2_with fail
 go_loopg [1,2] 0 (fun gk av bv wr=>gk=0/\av= .int .i64 0/\bv= .int .i64 0/\w=wr)
 case atStart=>exact ⟨rfl,rfl,rfl,rfl⟩
 case round=>
  obtain ⟨rfl,rfl,rfl,rfl⟩:=hrel;go_wp2_with (go_at_call 186;refine cI.out.mono ?_;rintro e w' ⟨rfl,rfl⟩)
  exact bodyPost_ret (results_none rfl _ _ _) rfl ⟨rfl,rfl⟩
def Sorted (w w':World) (A:Option Addr) (c:Nat) (l:List Nat) (B:Nat):Prop:=∃L,VO 25 w' B A c (L.map jc)/\L.Perm l/\Srt L/\∀T:List Nat,(∀a,A=some a->a.block∈T)->Flow.Into T w w'
theorem Gz {U:TypeId} {w:World} {B g c:Nat} {vs:List Value} (h:Ow U w g c vs) (hB:B<=g):VO U w B (some ⟨g,0,none⟩) c vs:=by
 obtain ⟨h1,h2⟩:=h;refine ⟨h1,?_⟩;rcases h2 with ⟨h,_⟩|⟨g',cap,cur,he,_,hh,hr⟩
 . cases h
 . obtain ⟨rfl,rfl⟩:g=g'/\c=cap:=by simpa using he
   exact .inr ⟨g,c,cur,rfl,hB,hh,hr⟩
end So
end Go.Proofs.YtjpjjnalpdpljaaGreatDoor
set_option maxRecDepth 100000
namespace Go.Proofs.YtjpjjnalpdpljaaGreatDoor
open Go.RowKit
namespace Pq
open Mem Hp
def nV (x:Nat):Value:= .int .u32 (x:Int)
theorem oZ (x:Int) (w:World):CW 210 #[.int .u32 x] w (.bool false):=by
 go_enter Tryz.func210,Tryz.ntmps210
 go_wp2
 go_ret
 exact ⟨by simp,rfl⟩
theorem yT (x y:Nat) (w:World):CW 192 #[.int .u32 (x:Int),.int .u32 (y:Int)] w (.bool (decide (x<y))):=by
 have cN:=fun x=>Lib.hid (oZ x w);go_enter Tryz.func192,Tryz.ntmps192
 go_wp2_with (go_at_call 210;refine (cN _).out.mono ?_;rintro e w' ⟨rfl,rfl⟩)
 all_goals go_ret
 all_goals exact ⟨by simp_all,rfl⟩
theorem bP {x y:Nat} {t:Bool} (h:t=true↔x<y) (w:World):CW 192 #[.int .u32 (x:Int),.int .u32 (y:Int)] w (.bool t):=by
 have e:decide (x<y)=t:=by
  cases t
  . simp only [Bool.false_eq_true,false_iff] at h
    exact decide_eq_false h
  . exact decide_eq_true (h.1 rfl)
 rw [<-e];exact yT x y w
theorem fF (w:World) (m:Nat):Bw w (w.drewN m):=⟨rfl,rfl,rfl,Nat.le_refl _,fun _ _=>rfl⟩
structure US (w wr:World) (g c n:Nat) (l L:List Nat) (a b:Nat):Prop where
 ow:Ow 25 wr g c (L.map nV)
 mv:Mvd l L a b
 hi:Flow.Into [g] w wr
 le:l.length=n
section
variable {w wr w':World} {g c n i j a b:Nat} {l L:List Nat}
theorem US.start (h:Ow 25 w g c (l.map nV)) (hl:l.length=n) (a b:Nat):US w w g c n l l a b:=⟨h,Mvd.refl _ _ _,Flow.Into.refl _ _,hl⟩
theorem US.len (h:US w wr g c n l L a b):L.length=n:=by rw [h.mv.len,h.le]
theorem US.kept (h:US w wr g c n l L a b) (hb:Bw wr w'):US w w' g c n l L a b:=⟨h.ow.kept hb,h.mv,h.hi.trans (Flow.Into.of_below hb),h.le⟩
theorem US.drew (h:US w wr g c n l L a b) (m:Nat):US w (wr.drewN m) g c n l L a b:=h.kept (fF wr m)
theorem US.cell (h:US w wr g c n l L a b) (hi:i<n):wr.cell? ⟨g,i,none⟩=some (.int .u32 ((gt L i:Nat):Int)):=by
 have hl:=h.len;rw [h.ow.cell (by rw [List.length_map,hl];exact hi)];simp [nV,gt,hl,hi]
theorem US.free (h:US w wr g c n l L a b) (i:Nat):wr.frozen? ⟨g,i,none⟩=false:=h.ow.free i
theorem US.swap (h:US w wr g c n l L a b) (hb:b<=n) (hi:a<=i) (hi2:i<b) (hj:a<=j) (hj2:j<b):US w ((wr.setCell ⟨g,i,none⟩ (.int .u32 ((gt L j:Nat):Int))).setCell ⟨g,j,none⟩ (.int .u32 ((gt L i:Nat):Int))) g c n l (swp L i j) a b:=by
 obtain ⟨o1,i1⟩:=h.ow.set i (.int .u32 ((gt L j:Nat):Int));obtain ⟨o2,i2⟩:=o1.set j (.int .u32 ((gt L i:Nat):Int));refine ⟨?_,h.mv.swap (by rw [h.le];exact hb) hi hi2 hj hj2,(h.hi.trans i1).trans i2,h.le⟩
 have e:((L.map nV).set i (.int .u32 ((gt L j:Nat):Int))).set j (.int .u32 ((gt L i:Nat):Int))=(swp L i j).map nV:=by
  unfold swp;rw [List.map_set,List.map_set];rfl
 rw [<-e];exact o2
theorem US.wide {a' b':Nat} (h:US w wr g c n l L a b) (ha:a'<=a) (hb:b<=b'):US w wr g c n l L a' b':=⟨h.ow,h.mv.mono ha hb,h.hi,h.le⟩
theorem US.then_ {M:List Nat} {w2:World} {m:Nat} (h:US w wr g c n l L a b) (k:US wr w2 g c m L M a b):US w w2 g c n l M a b:=⟨k.ow,h.mv.trans k.mv,h.hi.trans k.hi,h.le⟩
end
end Pq
end Go.Proofs.YtjpjjnalpdpljaaGreatDoor
set_option maxHeartbeats 4000000
set_option maxRecDepth 100000
namespace Go.Proofs.YtjpjjnalpdpljaaGreatDoor
open Go.RowKit
open Go.Lib (hid)
namespace Pq
open Mem Hp
theorem sF {w:World} {g c n a b:Nat} {l:List Nat} (h:Ow 25 w g c (l.map nV)) (hl:l.length=n) (hab:a<=b) (hbn:b<=n) (hn:n<=1000):Calls Tryz.prog 186 #[.slice (some ⟨g,0,none⟩) n c,(a:Int),(b:Int)] w fun e w'=>e=.returned (.tuple #[])/\∃L,US w w' g c n l L a b/\Adj L a b:=by
 have H0:=hid (US.start h hl a b);have hw0:IntKind.i64.wrap ((a:Int)+1)=((a+1:Nat):Int):=by rw [IntKind.wrap_i64];omega
 clear h hl;go_enter Tryz.func186,Tryz.ntmps186
 go_wp2_with fail
 go_loopg [6] (b-(a+1)) (fun gk iv wr=>∃(k:Nat) (L:List Nat),a+1<=k/\gk=b-k/\iv= .int .i64 (k:Int)/\Hid (k<=1001)/\Hid (US w wr g c n l L a b)/\Hid (Adj L a k))
 case atStart=>exact ⟨a+1,l,Nat.le_refl _,rfl,by go_num,hid (by omega),H0,fun i h1 h2=>by omega⟩
 case round=>
  obtain ⟨k,L,k0,rfl,rfl,K1,HO,HA⟩:=hrel;clear H0 hw0;by_cases hk:k<b
  . go_upto_block 1 with fail
    go_cut [6] (fun iv wx=>iv= .int .i64 (k:Int)/\Hid (∃L,US w wx g c n l L a b/\Adj L a (k+1)))
    case first=>
     obtain ⟨wo,rfl⟩:∃wo:World,wo=wr:=⟨_,rfl⟩
     have HI:=hid (Ins.start HA.out);clear HA;go_wp2_with fail
     go_loopg [7] k (fun gk jv wx=>∃(j:Nat) (L:List Nat),j<=k/\a<=j/\gk=j/\jv= .int .i64 (j:Int)/\Hid (US w wx g c n l L a b)/\Hid (Ins L a k j))
     case atStart=>exact ⟨k,L,Nat.le_refl _,by omega,rfl,rfl,HO,HI⟩
     case round=>
      obtain ⟨j,L,hj,haj,hgk,rfl,HS,HI⟩:=hrel;replace hgk:=hgk.symm;subst hgk;clear HO;obtain ⟨wx,rfl⟩:∃wx:World,wx=wr:=⟨_,rfl⟩
      by_cases hja:j=a
      . have HZ:Hid (∃L,US w wx g c n l L a b/\Adj L a (k+1)):=⟨L,HS.out,HI.out.stop (.inl (by omega))⟩
        subst hja;clear HS HI;go_upto_region 4 with fail
        go_quiet (fail)
        go_wp2_with fail
        go_meet
        obtain ⟨L,h1,h2⟩:=HZ.out;exact ⟨rfl,L,h1.drew _,h2⟩
      . obtain ⟨k1,hk1⟩:∃k1,j=k1+1:=⟨j-1,by omega⟩
        have hg0:a<j:=(by omega);have hjb:j<b:=(by omega);have hjn:j<n:=(by omega);have hkn:k1<n:=(by omega);have hak:a<=k1:=(by omega);have hkb:k1<b:=(by omega);have hw1:IntKind.i64.wrap ((j:Int)-1)=(k1:Int):=(by rw [IntKind.wrap_i64];omega);have hne:j≠k1:=(by omega);have hne':k1≠j:=(by omega);have HJ:=hid hk1;have d1:=HS.out.cell hjn;have d2:=HS.out.cell hkn;by_cases hxy:gt L j<gt L k1
        . have cL:=fun w=>hid (bP (t:=true) (x:=gt L j) (y:=gt L k1) (by simpa using hxy) w)
          have HI2:Hid (Ins (swp L j k1) a k k1):=by
           have:=HI.out;subst hk1;exact this.step hak hj (by rw [HS.out.len];omega) hxy
          clear hja hk1 hxy HI;go_upto_region 4 with fail
          go_quiet ((go_at_call 192;exact Calls.quiet_of_same ((cL _).out.mono fun e w' ⟨he,hw⟩=>⟨he,hw.symm⟩)))
          go_upto_region 6 with fail
          have HSq:=hid (HS.out.drew nq);clear HS d1 d2 cL;generalize wx.drewN nq=wx at*;have HS:=HSq;clear HSq;go_upto_region 6 with fail
          have x0:=fun t:ah.aS [] wx []=>ah.aS.cell (HS.out.cell hjn) (by simp) t;have x1:=fun t:ah.aS [] wx []=>ah.aS.cell (HS.out.cell hkn) (by simp) t;refine ah.aB [] [(0,[]),(1,[]),(2,[]),(3,[]),(4,[]),(5,[]),(6,[]),(7,[]),(8,[]),(9,[]),(10,[]),(11,[]),(12,[]),(13,[]),(14,[])] [] [] [2,3,4] (by kernel_rfl) (by kernel_rfl) (by simp) ?_;simp only [ah.pick,ah.aO,ah.dL]
          repeat (refine ah.ak (fun K hK=>?_);go_simp;(refine hK _ ?_;clear hK K))
          refine ah.ay rfl (.slice (some ⟨g,0,none⟩) n c) (fun W=>by go_simp) ?_;refine ah.ay rfl (.int .i64 (j:Int)) (fun W=>by go_simp) ?_;refine ah.ay rfl (.int .i64 (k1:Int)) (fun W=>by go_simp) ?_
          repeat (refine ah.ak (fun K hK=>?_);go_simp;(refine hK _ ?_;clear hK K))
          refine ah.walk_nil ?_;intro w6 hb6 _;clear x0 x1;have h6:=HS.out.kept hb6;have f:=h6.free;have e1:=h6.cell hjn;have e2:=h6.cell hkn;have H7:=hid (h6.swap hbn haj hjb hak hkb);clear h6 hb6 HS;simp only [lC,List.drop_zero,Nat.zero_add,Nat.reduceAdd];go_wp2_with fail
          rw [Flow.aP];clear e1 e2 f;generalize (w6.setCell ⟨g,j,none⟩ (.int .u32 ((gt L k1:Nat):Int))).setCell ⟨g,k1,none⟩ (.int .u32 ((gt L j:Nat):Int))=w7 at*;go_wp2_with fail
          go_roundg k1
          case measure=>have:=HJ.out;omega
          case rel=>exact ⟨k1,_,by have:=HJ.out;omega,by have:=HJ.out;omega,rfl,rfl,H7,HI2⟩
        . have cL:=fun w=>hid (bP (t:=false) (x:=gt L j) (y:=gt L k1) (by simpa using hxy) w)
          have HZ:Hid (∃L,US w (wx.drewN 0) g c n l L a b/\Adj L a (k+1)):=⟨L,HS.out.drew 0,HI.out.stop (.inr (by rw [show j-1=k1 by omega];omega))⟩;clear hja hk1 hxy HI;go_upto_region 4 with fail
          go_quiet ((go_at_call 192;exact Calls.quiet_of_same ((cL _).out.mono fun e w' ⟨he,hw⟩=>⟨he,hw.symm⟩)))
          go_wp2_with fail
          go_meet
          obtain ⟨L,h1,h2⟩:=HZ.out;exact ⟨rfl,L,(h1.drew _),h2⟩
    case rest=>
    obtain ⟨rfl,HC⟩:=hcut;obtain ⟨L',h1,h2⟩:=HC.out;have HO2:=hid h1;have HA2:=hid h2;clear HC h1 h2 HO HA;have hw1:IntKind.i64.wrap ((k:Int)+1)=((k+1:Nat):Int):=(by rw [IntKind.wrap_i64];omega);go_wp2_with fail
    go_roundg (b-(k+1))
    case measure=>omega
    case rel=>exact ⟨k+1,L',by omega,rfl,by go_num,hid (by omega),HO2,HA2⟩
  . have HE:Hid (Adj L a b):=fun i h1 h2=>HA.out i h1 (by omega)
    go_wp2_with fail
    go_end0
    exact ⟨rfl,L,HO.out,HE.out⟩
end Pq
end Go.Proofs.YtjpjjnalpdpljaaGreatDoor
set_option maxHeartbeats 4000000
set_option maxRecDepth 100000
namespace Go.Proofs.YtjpjjnalpdpljaaGreatDoor
open Go.RowKit
open Go.Lib (hid)
open IntKind (wrap_i64)
namespace Pq
open Mem Hp
def gD (x y:Nat):Bool:=decide (y<x)
theorem Dn:Hp.Ord gD:=⟨fun a b h=>by simp only [gD,decide_eq_true_eq,decide_eq_false_iff_not] at*;omega,fun a b c h1 h2=>by simp only [gD,decide_eq_false_iff_not] at*;omega⟩
theorem J9 (a:Nat):gD a a=false:=by simp [gD]
theorem yU {L:List Nat} {f i j:Nat}:(swp L (f+i) (f+j)).drop f=swp (L.drop f) i j:=by
 unfold swp;rw [iO,iO,List.drop_set,if_neg (by omega),List.drop_set,if_neg (by omega)];congr 2<;>omega
theorem jI {w:World} {g c n lo hi first:Nat} {l:List Nat} (h:Ow 25 w g c (l.map nV)) (hl:l.length=n) (hbn:first+hi<=n) (hn:n<=1000) (hlo:lo<=1000) (hp:HpF gD (l.drop first) hi (lo+1)):Calls Tryz.prog 205 #[.slice (some ⟨g,0,none⟩) n c,(lo:Int),(hi:Int),(first:Int)] w fun e w'=>e=.returned (.tuple #[])/\∃L,US w w' g c n l L first (first+hi)/\HpF gD (L.drop first) hi lo:=by
 have H0:=hid (US.start h hl first (first+hi));have HF:=hid hp.sf;clear h hl hp;go_enter Tryz.func205,Tryz.ntmps205
 go_wp2_with fail
 go_loopg [8] (1001-lo) (fun gk rv wr=>∃(root:Nat) (L:List Nat),root<=1000/\gk=1001-root/\rv= .int .i64 (root:Int)/\Hid (US w wr g c n l L first (first+hi))/\Hid (Sf gD (L.drop first) hi lo root))
 case atStart=>exact ⟨lo,l,hlo,rfl,rfl,H0,HF⟩
 case round=>
  obtain ⟨root,L,hr,rfl,rfl,HS,HI⟩:=hrel;clear H0 HF;obtain ⟨a2,ha2⟩:∃a,a=2*root:=⟨_,rfl⟩
  obtain ⟨c0,hc0⟩:∃a,a=a2+1:=⟨_,rfl⟩
  obtain ⟨c1,hc1⟩:∃a,a=c0+1:=⟨_,rfl⟩
  obtain ⟨f0,hf0⟩:∃a,a=first+c0:=⟨_,rfl⟩
  obtain ⟨f1,hf1⟩:∃a,a=f0+1:=⟨_,rfl⟩
  obtain ⟨fr,Qj⟩:∃a,a=first+root:=⟨_,rfl⟩
  have hw1:IntKind.i64.wrap (2*(root:Int))=(a2:Int):=by rw [wrap_i64];omega
  have hw2:IntKind.i64.wrap ((a2:Int)+1)=(c0:Int):=by rw [wrap_i64];omega
  by_cases hch:c0<hi
  case neg=>
   have hge:hi<=c0:=(by omega);(have HR:Hid (HpF gD (L.drop first) hi lo):=HI.out.stop fun j h1 h2 h3=>by omega);clear hch ha2 hc0 hc1 hf0 hf1 Qj;go_wp2_with fail
   go_end0
   exact ⟨rfl,L,HS.out,HR.out⟩
  have hcn:¬(hi<=c0):=by omega
  have hw3:IntKind.i64.wrap ((c0:Int)+1)=(c1:Int):=by rw [wrap_i64];omega
  have hw4:IntKind.i64.wrap ((first:Int)+(c0:Int))=(f0:Int):=by rw [wrap_i64];omega
  have hw5:IntKind.i64.wrap ((f0:Int)+1)=(f1:Int):=by rw [wrap_i64];omega
  have hw6:IntKind.i64.wrap ((first:Int)+(root:Int))=(fr:Int):=by rw [wrap_i64];omega
  have Qk:f0<n:=by omega
  have hfr:fr<n:=by omega
  have hr1:first<=fr:=by omega
  have hr2:fr<first+hi:=by omega
  have HA:=hid (show c0=2*root+1/\c1=2*root+2/\f0=first+c0/\f1=first+c1/\fr=first+root by omega);obtain ⟨wx,rfl⟩:∃wx:World,wx=wr:=⟨_,rfl⟩
  clear ha2 hc0 hc1 hf0 hf1 Qj;go_upto_region 3 with fail
  clear hcn
  go_cut [36] (fun tv wy=>∃t:Bool,tv= .bool t/\Hid (t=true↔c1<hi/\gt L f0<gt L f1)/\Hid (US w wy g c n l L first (first+hi)))
  case first=>
   by_cases h1:c1<hi
   . have Q9:f1<n:=by have:=HA.out;omega
     obtain ⟨t,ht⟩:∃t:Bool,t=true↔gt L f0<gt L f1:=⟨decide (gt L f0<gt L f1),by simp⟩
     have cL:=fun w=>hid (bP ht w);have HT:Hid (t=true↔c1<hi/\gt L f0<gt L f1):=ht.trans ⟨fun h=>⟨h1,h⟩,fun h=>h.2⟩;have d1:=HS.out.cell Qk;have d2:=HS.out.cell Q9;clear ht
     go_quiet ((go_at_call 192;exact Calls.quiet_of_same ((cL _).out.mono fun e w' ⟨he,hw⟩=>⟨he,hw.symm⟩)))
     go_wp2_with fail
     go_meet
     exact ⟨t,rfl,HT,HS.out.drew _⟩
   . have HT:Hid (false=true↔c1<hi/\gt L f0<gt L f1):=⟨(fun h=>by cases h),fun h=>absurd h.1 h1⟩
     have h1':decide (c1<hi)=false:=by simp;omega
     go_quiet (fail)
     go_wp2_with fail
     go_meet
     exact ⟨false,rfl,HT,HS.out.drew _⟩
  case rest=>
  obtain ⟨t,rfl,HT,HS2⟩:=hcut;clear HS;go_upto_if 36 with fail
  go_cut [9] (fun jv wy=>∃j:Nat,jv= .int .i64 (j:Int)/\Hid (0<j/\j<hi/\(j-1) / 2=root/\∀q,0<q->q<hi->(q-1) / 2=root->gt L (first+q)<=gt L (first+j))/\Hid (US w wy g c n l L first (first+hi)))
  case first=>
   cases t with
   |true=>
    have HJ:Hid (0<c1/\c1<hi/\(c1-1) / 2=root/\∀q,0<q->q<hi->(q-1) / 2=root->gt L (first+q)<=gt L (first+c1)):=by
     obtain ⟨h2,h3⟩:=HT.out.1 rfl;have:=HA.out;refine ⟨by omega,h2,by omega,fun q h4 h5 h6=>?_⟩;rcases (show q=c0\/q=c1 by omega) with e|e
     . rw [e,<-this.2.2.1,<-this.2.2.2.1]
       exact Nat.le_of_lt h3
     . rw [e]
       exact Nat.le_refl _
    clear HT;go_wp2_with fail
    go_meet
    exact ⟨c1,rfl,HJ,HS2⟩
   |false=>
    have HJ:Hid (0<c0/\c0<hi/\(c0-1) / 2=root/\∀q,0<q->q<hi->(q-1) / 2=root->gt L (first+q)<=gt L (first+c0)):=by
     have:=HA.out;refine ⟨by omega,hch,by omega,fun q h4 h5 h6=>?_⟩;rcases (show q=c0\/q=c1 by omega) with e|e
     . rw [e]
       exact Nat.le_refl _
     . have h7:¬(gt L f0<gt L f1):=fun h8=>by
        have:=HT.out.2 ⟨by omega,h8⟩;cases this
       rw [e,<-this.2.2.1,<-this.2.2.2.1];omega
    clear HT;go_wp2_with fail
    go_meet
    exact ⟨c0,rfl,HJ,HS2⟩
  case rest=>
  obtain ⟨j,rfl,HJ,HS⟩:=hcut;clear HS2 HT hw1 hw2 hw3 hw4 hw5;obtain ⟨fj,Ql⟩:∃a,a=first+j:=⟨_,rfl⟩
  have hjb:=HJ.out;have hw7:IntKind.i64.wrap ((first:Int)+(j:Int))=(fj:Int):=by rw [wrap_i64];omega
  have hfj:fj<n:=by omega
  have hj1:first<=fj:=by omega
  have hj2:fj<first+hi:=by omega
  have hj3:j<=1000:=by omega
  have hjr:root<j:=by omega
  have hne:fr≠fj:=by have:=HA.out;omega
  have hne':fj≠fr:=by omega
  have HE:=hid (show fr=first+root/\fj=first+j from ⟨HA.out.2.2.2.2,Ql⟩)
  have HC:Hid (∀q,0<q->q<hi->(q-1) / 2=root->gD (gt (L.drop first) q) (gt (L.drop first) j)=false):=fun q h1 h2 h3=>by
   have:=hjb.2.2.2 q h1 h2 h3;simp only [gD,iO,decide_eq_false_iff_not];omega
  have HB2:=hid (show 0<j/\j<hi/\(j-1) / 2=root from ⟨hjb.1,hjb.2.1,hjb.2.2.1⟩);clear hjb Ql HJ hch Qk HA;have d1:=HS.out.cell hfr;have d2:=HS.out.cell hfj;by_cases hxy:gt L fr<gt L fj
  . have cL:=fun w=>hid (bP (t:=true) (x:=gt L fr) (y:=gt L fj) (by simpa using hxy) w)
    have HI2:Hid (Sf gD ((swp L fr fj).drop first) hi lo j):=by
     have h1:=HE.out;rw [h1.1,h1.2,yU];refine HI.out.step Dn ?_ HB2.out.1 HB2.out.2.1 HB2.out.2.2 ?_ HC.out
     . rw [List.length_drop,HS.out.len]
       omega
     . simp only [gD,iO,decide_eq_true_eq]
       rw [<-h1.1,<-h1.2];exact hxy
    clear hxy HI HC HB2 HE;go_upto_region 5 with fail
    go_quiet ((go_at_call 192;exact Calls.quiet_of_same ((cL _).out.mono fun e w' ⟨he,hw⟩=>⟨he,hw.symm⟩)))
    go_upto_region 6 with fail
    have HSq:=hid (HS.out.drew nq);clear HS d1 d2 cL;generalize wc.drewN nq=wc at*;have HS:=HSq;clear HSq;go_upto_region 6 with fail
    have x0:=fun t:ah.aS [] wc []=>ah.aS.cell (HS.out.cell hfr) (by simp) t;have x1:=fun t:ah.aS [] wc []=>ah.aS.cell (HS.out.cell hfj) (by simp) t;refine ah.aB [] [(0,[]),(1,[]),(2,[]),(3,[]),(4,[]),(5,[]),(6,[]),(7,[]),(8,[]),(9,[]),(10,[]),(11,[]),(12,[]),(13,[]),(14,[]),(15,[]),(16,[]),(17,[]),(18,[]),(19,[]),(20,[])] [] [] [4,5,6,7] (by kernel_rfl) (by kernel_rfl) (by simp) ?_;simp only [ah.pick,ah.aO,ah.dL]
    repeat (refine ah.ak (fun K hK=>?_);go_simp;(refine hK _ ?_;clear hK K))
    refine ah.ay rfl (.slice (some ⟨g,0,none⟩) n c) (fun W=>by go_simp) ?_;refine ah.ay rfl (.int .i64 (first:Int)) (fun W=>by go_simp) ?_;refine ah.ay rfl (.int .i64 (j:Int)) (fun W=>by go_simp) ?_;refine ah.ay rfl (.int .i64 (fj:Int)) (fun W=>by go_simp) ?_
    repeat (refine ah.ak (fun K hK=>?_);go_simp;(refine hK _ ?_;clear hK K))
    refine ah.walk_nil ?_;intro w6 hb6 _;clear x0 x1;have h6:=HS.out.kept hb6;have f:=h6.free;have e1:=h6.cell hfr;have e2:=h6.cell hfj;have H7:=hid (h6.swap hbn hr1 hr2 hj1 hj2);clear h6 hb6 HS;simp only [lC,List.drop_zero,Nat.zero_add,Nat.reduceAdd];go_wp2_with fail
    rw [Flow.aP];clear e1 e2 f;generalize (w6.setCell ⟨g,fr,none⟩ (.int .u32 ((gt L fj:Nat):Int))).setCell ⟨g,fj,none⟩ (.int .u32 ((gt L fr:Nat):Int))=w7 at*;go_wp2_with fail
    go_roundg (1001-j)
    case measure=>omega
    case rel=>exact ⟨j,_,hj3,rfl,rfl,H7,HI2⟩
  . have cL:=fun w=>hid (bP (t:=false) (x:=gt L fr) (y:=gt L fj) (by simpa using hxy) w)
    have HR:Hid (HpF gD (L.drop first) hi lo):=HI.out.stop fun q h1 h2 h3=>by
     refine Dn.trans _ _ _ ?_ (HC.out q h1 h2 h3);simp only [gD,iO,decide_eq_false_iff_not];rw [<-HE.out.1,<-HE.out.2];omega
    clear hxy HI HC HB2 HE;go_upto_region 5 with fail
    go_quiet ((go_at_call 192;exact Calls.quiet_of_same ((cL _).out.mono fun e w' ⟨he,hw⟩=>⟨he,hw.symm⟩)))
    go_wp2_with fail
    exact bodyPost_ret (results_none rfl _ _ _) rfl ⟨rfl,L,HS.out.drew _,HR.out⟩
end Pq
end Go.Proofs.YtjpjjnalpdpljaaGreatDoor
set_option maxHeartbeats 4000000
set_option maxRecDepth 100000
namespace Go.Proofs.YtjpjjnalpdpljaaGreatDoor
open Go.RowKit
open Go.Lib (hid)
open ah.aS (cell)
open IntKind (wrap_i64)
namespace Pq
open Mem Hp
def uL (L:List Nat) (a j b:Nat):Prop:=∀p q,a<=p->p<q->a+j<=q->q<b->gt L p<=gt L q
theorem Dp {L L2:List Nat} {a i b:Nat} (hT:uL L a (i+1) b) (hH:HpF gD (L.drop a) (i+1) 0) (hib:a+i<b) (hb:b<=L.length) (hM:Mvd (swp L a (a+i)) L2 a (a+i)):uL L2 a i b:=by
 have G:=jA (l:=L) (i:=a) (j:=a+i) (by omega) (by omega)
 have hroot:∀q,q<i+1->gt L (a+q)<=gt L a:=fun q hq=>by
  have:=hH.root Dn J9 (i+1) q hq hq;simp only [gD,iO,decide_eq_false_iff_not,Nat.add_zero] at this;omega
 have hin:∀p,a<=p->p<a+i->∃p2,a<=p2/\p2<a+(i+1)/\gt L2 p=gt L p2:=fun p h1 h2=>by
  obtain ⟨p',h3,h4,e⟩:=hM.ex (by rw [JA];omega) h1 h2;rw [e,G];by_cases e1:p'=a+i
  . exact ⟨a,Nat.le_refl _,by omega,by rw [if_pos e1]⟩
  . rw [if_neg e1]
    by_cases e2:p'=a
    . exact ⟨a+i,by omega,by omega,by rw [if_pos e2]⟩
    . exact ⟨p',h3,by omega,by rw [if_neg e2]⟩
 have hout:∀q,a+i<=q->gt L2 q=if q=a+i then gt L a else if q=a then gt L (a+i) else gt L q:=fun q h1=>by
  rw [hM.out q (.inr h1),G]
 intro p q h1 h2 h3 h4;rw [hout q h3];by_cases eq:q=a+i
 . rw [if_pos eq]
   obtain ⟨p2,g1,g2,e⟩:=hin p h1 (by omega);rw [e];have:=hroot (p2-a) (by omega)
   rwa [show a+(p2-a)=p2 by omega] at this
 . rw [if_neg eq,if_neg (by omega)]
   by_cases hp:p<a+i
   . obtain ⟨p2,g1,g2,e⟩:=hin p h1 hp
     rw [e];exact hT p2 q g1 (by omega) (by omega) h4
   . rw [hout p (by omega)]
     by_cases ep:p=a+i
     . rw [if_pos ep]
       exact hT a q (Nat.le_refl _) (by omega) (by omega) h4
     . rw [if_neg ep,if_neg (by omega)]
       exact hT p q h1 h2 (by omega) h4
theorem uM {w:World} {g c n a b:Nat} {l:List Nat} (h:Ow 25 w g c (l.map nV)) (hl:l.length=n) (Qm:a<=b) (hbn:b<=n) (hn:n<=1000):Calls Tryz.prog 187 #[.slice (some ⟨g,0,none⟩) n c,(a:Int),(b:Int)] w fun e w'=>e=.returned (.tuple #[])/\∃L,US w w' g c n l L a b/\Adj L a b:=by
 obtain ⟨hi,hhi⟩:∃hi,hi=b-a:=⟨_,rfl⟩
 have Qo:a+hi=b:=by omega
 obtain ⟨q0,hq0⟩:∃q,q=(hi-1) / 2:=⟨_,rfl⟩
 obtain ⟨z1,hz1⟩:∃z:Int,z=(hi:Int)-1:=⟨_,rfl⟩
 have hw1:IntKind.i64.wrap ((b:Int)-(a:Int))=(hi:Int):=by rw [wrap_i64];omega
 have hw2:IntKind.i64.wrap ((hi:Int)-1)=z1:=by rw [wrap_i64];omega
 have hw3:z1.tdiv 2=(q0:Int):=by
  rcases Nat.eq_zero_or_pos hi with h0|h0
  . rw [hz1,h0,hq0,h0]
    rfl
  . rw [Int.tdiv_eq_ediv_of_nonneg (by omega)];omega
 have hw4:IntKind.i64.wrap (q0:Int)=(q0:Int):=by rw [wrap_i64];omega
 have hq1:q0+1<=1000:=by omega
 have HF:Hid (US w w g c n l l a b/\HpF gD (l.drop a) hi (q0+1)):=⟨US.start h hl a b,fun j h1 h2 h3=>by omega⟩;have HZ:=hid hz1;have HIB:=hid Qo;have Ra:a+hi<=n:=by omega
 clear h hl hq0 hz1 hhi Qo;go_enter Tryz.func187,Tryz.ntmps187
 go_upto_block 0 with fail
 clear hw1 hw2 hw3 hw4
 go_cut [9] (fun iv wx=>(∃z:Int,iv= .int .i64 z)/\Hid (∃L,US w wx g c n l L a b/\HpF gD (L.drop a) hi 0))
 case first=>
  go_wp2_with fail
  go_loopg [9] (q0+1) (fun gk zv wr=>∃(j:Nat) (z:Int),j<=1000/\gk=j/\zv= .int .i64 z/\Hid (z+1=(j:Int))/\Hid (∃L,US w wr g c n l L a b/\HpF gD (L.drop a) hi j))
  case atStart=>exact ⟨q0+1,(q0:Int),hq1,rfl,rfl,hid (by omega),l,HF.out⟩
  case round=>
   obtain ⟨j,z,hj,rfl,rfl,HZ2,HI⟩:=hrel;clear HF;rcases Nat.eq_zero_or_pos gk with rfl|h0
   . obtain rfl:z= -1:=by
      have:=HZ2.out;omega
     go_wp2_with fail
     go_meet
     exact ⟨⟨_,rfl⟩,HI⟩
   . obtain ⟨i,hi2⟩:∃i,gk=i+1:=⟨gk-1,by omega⟩
     obtain rfl:z=(i:Int):=by
      have:=HZ2.out;omega
     have hwi:IntKind.i64.wrap ((i:Int)-1)=(i:Int)-1:=(by rw [wrap_i64];omega);obtain ⟨L,h1,h2⟩:=HI.out;rw [hi2] at h2;have cD:=hid (jI (first:=a) (hi:=hi) (lo:=i) h1.ow h1.len Ra hn (by omega) h2);have H1:=hid h1;have hii:i<gk:=(by omega);clear h1 h2 HI HZ2 hi2;go_wp2_with (go_at_call 205;refine cD.out.mono ?_;rintro e w8 ⟨rfl,L2,h1,h2⟩)
     have HE:Hid (∃L,US w w8 g c n l L a b/\HpF gD (L.drop a) hi i):=⟨L2,H1.out.then_ (h1.wide (Nat.le_refl _) (by rw [HIB.out];exact Nat.le_refl _)),h2⟩;clear h1 h2 cD H1;go_wp2_with fail
     go_roundg i
     case measure=>omega
     case rel=>exact ⟨i,(i:Int)-1,by omega,rfl,rfl,hid (by omega),HE⟩
 case rest=>
 obtain ⟨⟨zz,rfl⟩,HC⟩:=hcut;clear HF;have hw2:IntKind.i64.wrap ((hi:Int)-1)=z1:=by rw [wrap_i64,HZ.out];have:=HIB.out;omega
 have HS0:Hid (∃L,US w wc g c n l L a b/\HpF gD (L.drop a) hi 0/\uL L a hi b):=by
  obtain ⟨L,h1,h2⟩:=HC.out;exact ⟨L,h1,h2,fun p q h3 h4 h5 h6=>by have:=HIB.out;omega⟩
 have hin:hi<=1000:=by omega
 clear HC hq1;go_upto_block 2 with fail
 clear hw2;go_wp2_with fail
 go_loopg [10] hi (fun gk zv wr=>∃(j:Nat) (z:Int),j<=hi/\gk=j/\zv= .int .i64 z/\Hid (z+1=(j:Int))/\Hid (∃L,US w wr g c n l L a b/\HpF gD (L.drop a) j 0/\uL L a j b))
 case atStart=>exact ⟨hi,z1,Nat.le_refl _,rfl,rfl,hid (by rw [HZ.out];omega),HS0⟩
 case round=>
  obtain ⟨j,z,hj,rfl,rfl,HZ2,HI⟩:=hrel;clear HS0;rcases Nat.eq_zero_or_pos gk with rfl|h0
  . obtain rfl:z= -1:=by
     have:=HZ2.out;omega
    have HE:Hid (∃L,US w wr g c n l L a b/\Adj L a b):=by
     obtain ⟨L,h1,h2,h3⟩:=HI.out;exact ⟨L,h1,fun i h4 h5=>h3 (i-1) i (by omega) (by omega) (by omega) h5⟩
    clear HI HZ2;go_wp2_with fail
    go_end0
    exact ⟨rfl,HE.out⟩
  . obtain ⟨i,hi2⟩:∃i,gk=i+1:=⟨gk-1,by omega⟩
    obtain rfl:z=(i:Int):=by
     have:=HZ2.out;omega
    obtain ⟨L,h1,h2,h3⟩:=HI.out;rw [hi2] at h2 h3;have HS:=hid h1;have hii:i<gk:=(by omega);have Rb:a+i<b:=(by have:=HIB.out;omega);have hab:a<b:=(by omega);have han:a<n:=(by omega);have hib:a+i<=n:=(by omega);have OY:a+i<=b:=(by omega);have HTS:Hid (∀L2,Mvd (swp L a (a+i)) L2 a (a+i)->uL L2 a i b):=fun L2 hM=>Dp h3 h2 Rb (by rw [h1.len];exact hbn) hM
    have HD:Hid (HpF gD ((swp L a (a+i)).drop a) i (0+1)):=by
     have:=HpF.F8 (lt:=gD) (l:=L.drop a) (n:=i) h2 (by rw [List.length_drop,h1.len];omega);rw [<-yU,Nat.add_zero] at this;exact this
    have hwi:IntKind.i64.wrap ((i:Int)-1)=(i:Int)-1:=(by rw [wrap_i64];omega);by_cases hi0:i=0
    . subst hi0
      rw [Nat.add_zero] at HD HTS hib OY;have hw5:IntKind.i64.wrap ((a:Int)+((0:Nat):Int))=(a:Int):=(by rw [wrap_i64];omega);have hw6:IntKind.i64.wrap (a:Int)=(a:Int):=(by rw [wrap_i64];omega);clear h1 h2 h3 HI HZ2 hi2;go_upto_region 10 with fail
      have x0:=fun t:ah.aS [] wr []=>cell (HS.out.cell han) (by simp) t;have x1:=fun t:ah.aS [] wr []=>cell (HS.out.cell han) (by simp) t;refine ah.aB [] [(0,[]),(1,[]),(2,[]),(3,[]),(4,[]),(5,[]),(6,[]),(7,[]),(8,[]),(9,[]),(10,[]),(11,[]),(12,[]),(13,[]),(14,[]),(15,[]),(16,[])] [] [] [2,3,4,5] (by kernel_rfl) (by kernel_rfl) (by simp) ?_;simp only [ah.pick,ah.aO,ah.dL]
      repeat (refine ah.ak (fun K hK=>?_);go_simp;(refine hK _ ?_;clear hK K))
      refine ah.ay rfl (.slice (some ⟨g,0,none⟩) n c) (fun W=>by go_simp) ?_;refine ah.ay rfl (.int .i64 (a:Int)) (fun W=>by go_simp) ?_;refine ah.ay rfl (.int .i64 0) (fun W=>by go_simp) ?_;refine ah.ay rfl (.int .i64 (a:Int)) (fun W=>by go_simp) ?_
      repeat (refine ah.ak (fun K hK=>?_);go_simp;(refine hK _ ?_;clear hK K))
      refine ah.walk_nil ?_;intro w6 hb6 _;clear x0 x1;have h6:=HS.out.kept hb6;have f:=h6.free;have e1:=h6.cell han;have e2:=h6.cell han;have H7:=hid (h6.swap hbn (Nat.le_refl a) hab (Nat.le_refl a) hab);clear h6 hb6 HS;simp only [lC,List.drop_zero,Nat.zero_add,Nat.reduceAdd];go_wp2_with fail
      rw [Flow.aP];clear e1 e2 f;generalize (w6.setCell ⟨g,a,none⟩ (.int .u32 ((gt L a:Nat):Int))).setCell ⟨g,a,none⟩ (.int .u32 ((gt L a:Nat):Int))=w7 at*;have cD:=hid (jI (first:=a) (hi:=0) (lo:=0) H7.out.ow H7.out.len hib hn (by omega) HD.out);go_wp2_with (go_at_call 205;refine cD.out.mono ?_;rintro e w8 ⟨rfl,L2,h1,h2⟩)
      have HE:Hid (∃L,US w w8 g c n l L a b/\HpF gD (L.drop a) 0 0/\uL L a 0 b):=⟨L2,H7.out.then_ (h1.wide (Nat.le_refl _) OY),h2,HTS.out _ h1.mv⟩;clear h1 h2 cD H7;go_wp2_with fail
      go_roundg 0
      case measure=>omega
      case rel=>exact ⟨0,-1,by omega,rfl,by go_num,hid (by omega),HE⟩
    . obtain ⟨fi,hfi⟩:∃fi,fi=a+i:=⟨_,rfl⟩
      have Qp:Hid (∀L2,Mvd (swp L a fi) L2 a (a+i)->uL L2 a i b):=(by rw [hfi];exact HTS);rw [<-hfi] at HD;clear HTS;have HTS:=Qp;clear Qp;have hfn:fi<n:=(by omega);have hf1:a<=fi:=(by omega);have hf2:fi<b:=(by omega);have hne:a≠fi:=(by omega);have hne':fi≠a:=(by omega);have hw5:IntKind.i64.wrap ((a:Int)+(i:Int))=(fi:Int):=(by rw [wrap_i64];omega);clear h1 h2 h3 HI HZ2 hi2 hfi hi0;go_upto_region 10 with fail
      have x0:=fun t:ah.aS [] wr []=>cell (HS.out.cell han) (by simp) t;have x1:=fun t:ah.aS [] wr []=>cell (HS.out.cell hfn) (by simp) t;refine ah.aB [] [(0,[]),(1,[]),(2,[]),(3,[]),(4,[]),(5,[]),(6,[]),(7,[]),(8,[]),(9,[]),(10,[]),(11,[]),(12,[]),(13,[]),(14,[]),(15,[]),(16,[])] [] [] [2,3,4,5] (by kernel_rfl) (by kernel_rfl) (by simp) ?_;simp only [ah.pick,ah.aO,ah.dL]
      repeat (refine ah.ak (fun K hK=>?_);go_simp;(refine hK _ ?_;clear hK K))
      refine ah.ay rfl (.slice (some ⟨g,0,none⟩) n c) (fun W=>by go_simp) ?_;refine ah.ay rfl (.int .i64 (a:Int)) (fun W=>by go_simp) ?_;refine ah.ay rfl (.int .i64 (i:Int)) (fun W=>by go_simp) ?_;refine ah.ay rfl (.int .i64 (fi:Int)) (fun W=>by go_simp) ?_
      repeat (refine ah.ak (fun K hK=>?_);go_simp;(refine hK _ ?_;clear hK K))
      refine ah.walk_nil ?_;intro w6 hb6 _;clear x0 x1;have h6:=HS.out.kept hb6;have f:=h6.free;have e1:=h6.cell han;have e2:=h6.cell hfn;have H7:=hid (h6.swap hbn (Nat.le_refl a) hab hf1 hf2);clear h6 hb6 HS;simp only [lC,List.drop_zero,Nat.zero_add,Nat.reduceAdd];go_wp2_with fail
      rw [Flow.aP];clear e1 e2 f;generalize (w6.setCell ⟨g,a,none⟩ (.int .u32 ((gt L fi:Nat):Int))).setCell ⟨g,fi,none⟩ (.int .u32 ((gt L a:Nat):Int))=w7 at*;have cD:=hid (jI (first:=a) (hi:=i) (lo:=0) H7.out.ow H7.out.len hib hn (by omega) HD.out);go_wp2_with (go_at_call 205;refine cD.out.mono ?_;rintro e w8 ⟨rfl,L2,h1,h2⟩)
      have HE:Hid (∃L,US w w8 g c n l L a b/\HpF gD (L.drop a) i 0/\uL L a i b):=⟨L2,H7.out.then_ (h1.wide (Nat.le_refl _) OY),h2,HTS.out _ h1.mv⟩;clear h1 h2 cD H7;go_wp2_with fail
      go_roundg i
      case measure=>omega
      case rel=>exact ⟨i,(i:Int)-1,by omega,rfl,rfl,hid (by omega),HE⟩
end Pq
end Go.Proofs.YtjpjjnalpdpljaaGreatDoor
