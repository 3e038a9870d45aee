import Derived.Test.YtjpjjnalpdpljaaGreatDoorPqShelfR8
import Derived.Test.YtjpjjnalpdpljaaGreatDoorPkAL
import Derived.Test.YtjpjjnalpdpljaaGreatDoorPkAD
import Derived.Test.YtjpjjnalpdpljaaGreatDoorPkAK
import Derived.Test.YtjpjjnalpdpljaaGreatDoorPkAY
import Derived.Test.YtjpjjnalpdpljaaGreatDoorPkBB
import Derived.Test.YtjpjjnalpdpljaaGreatDoorPkAV
import Derived.Test.YtjpjjnalpdpljaaGreatDoorPkAS
import Derived.Test.YtjpjjnalpdpljaaGreatDoorPkBJ
set_option maxHeartbeats 4000000
set_option maxRecDepth 100000
namespace Go.Proofs.YtjpjjnalpdpljaaGreatDoor
open Go.RowKit
open Go.Lib (hid)
open ah.aS (cell)
open List (replicate)
namespace Sh
open Mem No Bt Bu Po
theorem Fh {z:List Value} (hz:0<z.length) (n:Nat):(madeCells z.toArray (n*z.length)).toList=(replicate n z).flatten:=by
 induction n with
 |zero=>simp [madeCells]
 |succ n ih=>
  rw [List.replicate_succ,List.flatten_cons,<-ih];apply List.ext_getElem
  . simp [madeCells,Nat.succ_mul,Nat.add_comm]
  . intro i h1 h2
    have hi:i % z.length<z.length:=Nat.mod_lt _ hz;by_cases h:i<z.length
    . rw [List.getElem_append_left h]
      simp [madeCells,Nat.mod_eq_of_lt h,h]
    . rw [List.getElem_append_right (by omega)]
      have e:(i-z.length) % z.length=i % z.length:=(Nat.mod_eq_sub_mod (by omega)).symm;simp [madeCells,e]
theorem Iu {α β:Type} (f:α->List β) (x:α) (n:Nat):(replicate n x).flatMap f=(replicate n (f x)).flatten:=by
 rw [List.flatMap_def,List.map_replicate]
theorem K4 {w:World} {B n q:Nat} (hx:w.heap[q]? =some (.cells (madeCells (jY sl0).toArray (n*6)) 71 (0,0))) (hB:B<=q) (hn:n<=1048576):VK SlK w B (some ⟨q,0,none⟩) n (replicate n sl0):=by
 unfold VK;rw [List.length_replicate]
 have e:(madeCells (jY sl0).toArray (n*6)).toList=(replicate n sl0).flatMap jY:=by
  rw [Iu];exact Fh (z:=jY sl0) (by decide) n
 refine ⟨?_,.inr ⟨q,n,_,rfl,hB,hx,Nat.le_refl _,by unfold maxLen;omega,?_,?_⟩⟩
 . rw [show SlK.cs=jY from rfl,<-e]
   simp [madeCells];rfl
 . simp [madeCells]
   rfl
 . rw [List.take_of_length_le (by simp [madeCells];exact Nat.le_refl _),e]
   rfl
theorem Fj (n:Nat) (hn:n<=65536) (w:World):(Instr.makeSlice 32 (.int .i64 (n:Int)) (.int .i64 (n:Int))).run Tryz.prog w= .ok (.slice (some ⟨w.heap.size,0,none⟩) n n) (w.alloc (.cells (madeCells (jY sl0).toArray (n*6)) 71)):=by
 obtain ⟨i0,hi,hz,hs,hb⟩:=info_parts EO;have hr:=run_make (P:=Tryz.prog) w 32 71 i0 (.agg (jY sl0).toArray) Tryz.underlying32 hi hz .i64 .i64 n n (by omega) (by omega) (by rw [hb];omega) (by omega);rw [hr,hs];simp only [Int.toNat_natCast];rfl
def RN (n:Nat) (w0:World) (v:Value) (w:World):Prop:=∃h c,v= .slice (some ⟨h,0,none⟩) n c/\bE w h c n (tbN n)/\w0.heap.size<=h/\Bw w0 w
theorem qO (c:Cfg) (n:Nat) (hn:c.blocks=(n:Int)) (h5:5<=n) (hl:n<=65536) (w:World):
 Calls Tryz.prog 10 #[.agg (aZ c)] w fun e w'=>(∃A h ch,e=.returned (.agg (bY ⟨c,replicate n sl0,tbN n,0⟩ A n h ch))/\bE w' h ch n (tbN n)/\w.heap.size<=h/\RC SlK w' A n (replicate n sl0)/\(∀a,A=some a->w.heap.size<=a.block))/\Bw w w':=by
 have hmk:=fun w=>Fj n hl w;have cN:=fun w=>hid (GU n w (by omega) (by omega));have HTL:Hid ((tbN n).length=n):=by unfold Hid tbN;simp
 obtain ⟨cB,cY,cF,cN9,cU,cL,cKy,cV⟩:=c;simp only at hn;subst hn;unfold aZ bY;simp only [List.length_replicate,HTL.out];go_enter Tryz.func10,Tryz.ntmps10
 go_upto_region 1 with fail
 generalize hw1:(w.alloc _).alloc _=w1
 have HA:Hid (w1.heap[w.heap.size]? =some (.cells #[(n:Int),cY,cF,cN9,cU,cL,cKy,cV] 23 (0,0))):=by
  rw [<-hw1];exact (aR w _ _).1
 have HZ:Hid (w1.heap[w.heap.size+1]? =some (.cells #[(0:Int),(0:Int),(0:Int),(0:Int),(0:Int),(0:Int),(0:Int),(0:Int),(),(),.int .u32 0] 35 (0,0))):=by
  rw [<-hw1];exact (aR w _ _).2.1
 have HB:Hid (Bw w w1):=by
  rw [<-hw1];exact (aR w _ _).2.2
 clear hw1;obtain ⟨g,hg⟩:∃g,g=w.heap.size:=⟨_,rfl⟩
 rw [<-hg] at HA HZ;simp only [<-hg];have HG:Hid (w.heap.size<=g):=by unfold Hid;omega
 have HG2:Hid (g+1<w1.heap.size):=(Array.getElem?_eq_some_iff.1 HZ.out).1;clear hg;obtain ⟨a0,a1,a2,a3,a4,a5,a6,a7⟩:=Cf.aT HA.out;have t0:=fun td:ah.aS [] w1 []=>cell a0 (by simp) td;have t1:=fun td:ah.aS [] w1 []=>cell a1 (by simp) td;have t2:=fun td:ah.aS [] w1 []=>cell a2 (by simp) td;have t3:=fun td:ah.aS [] w1 []=>cell a3 (by simp) td;have t4:=fun td:ah.aS [] w1 []=>cell a4 (by simp) td;have t5:=fun td:ah.aS [] w1 []=>cell a5 (by simp) td;have t6:=fun td:ah.aS [] w1 []=>cell a6 (by simp) td;have t7:=fun td:ah.aS [] w1 []=>cell a7 (by simp) td;clear a0 a1 a2 a3 a4 a5 a6 a7 HA;refine ah.aj [] [(0,[]),(1,[]),(2,[]),(4,[]),(5,[]),(6,[3]),(3,[]),(7,[])] [6] [3] (by kernel_rfl) (by kernel_rfl) (by simp) ?_;simp only [ah.pick,ah.aO,List.getElem?_toArray,List.getElem?_cons_zero,List.getElem?_cons_succ,List.cons_append,List.nil_append,List.filterMap_cons,List.filterMap_nil]
 repeat (refine ah.ak (fun K hK=>?_);go_simp;first|(refine hK _ ?_;clear hK K)|(refine ⟨_,fun _=>rfl,hK _ ?_⟩;clear hK K))
 refine ah.aN rfl (ah.gQ rfl (fun b=> .slice (some ⟨b,0,none⟩) n n) (.cells (madeCells (jY sl0).toArray (n*6)) 71) (fun W=>by go_simp) fun b hb=>ah.aF) (RN n w1) (fun W2 hk _=>?_) (fun y w2 hv hI _ hTd=>?_)
 . go_simp
   go_at_call 40
   refine (cN _).out.mono ?_;rintro e w' ⟨h,c,rfl,hbl,hlo,hb⟩;exact ⟨_,rfl,⟨h,c,rfl,hbl,Nat.le_trans hk.size hlo,(show Bw w1 W2 from hk).trans (hb.mono hk.size)⟩,Flow.Into.of_below hb⟩
 obtain ⟨h,ch,rfl,hbl,hlo,hb2⟩:=hv;have HBL:=hid hbl;have HW1:Hid (w.heap.size<=w1.heap.size):=by have:=HG.out;have:=HG2.out;unfold Hid;omega
 have HLO:Hid (w.heap.size<=h):=Nat.le_trans HW1.out hlo;have HS2:Hid (w1.heap.size<=w2.heap.size):=hb2.size;replace HZ:=hid (aC HZ.out hb2);replace HB:=hid (HB.out.trans (hb2.mono HB.out.size));clear hbl hlo hb2 hI cN;refine ah.dF rfl ah.aF (fun b=> .slice (some ⟨b,0,none⟩) n n) (.cells (madeCells (jY sl0).toArray (n*6)) 71) (fun W=>by go_simp) (fun q hq hT1=>?_)
 repeat (refine ah.ak (fun K hK=>?_);go_simp;first|(refine hK _ ?_;clear hK K)|(refine ⟨_,fun _=>rfl,hK _ ?_⟩;clear hK K))
 refine ah.walk_nil ?_;intro w8 hb8 hl8;have hx8:=hl8 (q,.cells (madeCells (jY sl0).toArray (n*6)) 71) (by simp)
 have HQ:Hid (g+1<q/\w.heap.size<=q):=by
  have h1:=HG2.out;have h2:=HS2.out;have h3:=HG.out;unfold Hid;omega
 have HVK:=hid (K4 (B:=w.heap.size) hx8 HQ.out.2 (by omega));replace HBL:=hid (HBL.out.kept hb8);replace HZ:=hid (aC HZ.out hb8);replace HB:=hid (HB.out.trans (hb8.mono HB.out.size));have HNZ:Hid (h≠g+1):=jk HBL.out HZ.out (by decide);clear hb8 hl8 hx8 hTd hT1 hq t0 t1 t2 t3 t4 t5 t6 t7;simp only [lC,List.drop_zero,Nat.zero_add,Nat.reduceAdd];obtain ⟨z0,z1,z2,z3,z4,z5,z6,z7,z8,z9,z10⟩:=aW HZ.out;have f0:=au HZ.out 0;have f1:=au HZ.out 1;have f2:=au HZ.out 2;have f3:=au HZ.out 3;have f4:=au HZ.out 4;have f5:=au HZ.out 5;have f6:=au HZ.out 6;have f7:=au HZ.out 7;have f8:=au HZ.out 8;have f9:=au HZ.out 9;have f10:=au HZ.out 10;have HU:=hid (bT HZ.out (.int .i64 (n:Int)) cY cF cN9 cU cL cKy cV (.slice (some ⟨q,0,none⟩) n n) (.slice (some ⟨h,0,none⟩) n ch) (.int .u32 0));have HBW:=hid (bB HB.out (show w.heap.size<=g+1 by have:=HG.out;omega) (.int .i64 (n:Int)) cY cF cN9 cU cL cKy cV (.slice (some ⟨q,0,none⟩) n n) (.slice (some ⟨h,0,none⟩) n ch) (.int .u32 0));have Ij:=hid (qM HBL.out HNZ.out (.int .i64 (n:Int)) cY cF cN9 cU cL cKy cV (.slice (some ⟨q,0,none⟩) n n) (.slice (some ⟨h,0,none⟩) n ch) (.int .u32 0));have KU:=hid (tF (b:=g+1) HVK.out.rc (fun a ha=>by cases ha;have:=HQ.out.1;show q≠g+1;omega) (.int .i64 (n:Int)) cY cF cN9 cU cL cKy cV (.slice (some ⟨q,0,none⟩) n n) (.slice (some ⟨h,0,none⟩) n ch) (.int .u32 0));unfold eF at HU HBW Ij KU;go_wp2_with fail
 (try rw [Flow.aP]);(try go_wp2_with fail);obtain ⟨y0,y1,y2,y3,y4,y5,y6,y7,y8,y9,y10⟩:=aW HU.out;exact bodyPost_ret (v:= .agg #[(n:Int),cY,cF,cN9,cU,cL,cKy,cV,.slice (some ⟨q,0,none⟩) n n,.slice (some ⟨h,0,none⟩) n ch,.int .u32 0]) (by simp [results,Tryz.results10,go_sem,y0,y1,y2,y3,y4,y5,y6,y7,y8,y9,y10]) rfl ⟨⟨some ⟨q,0,none⟩,h,ch,rfl,Ij.out,HLO.out,KU.out,(fun a ha=>by cases ha;exact HQ.out.2)⟩,HBW.out⟩
end Sh
end Go.Proofs.YtjpjjnalpdpljaaGreatDoor
set_option maxHeartbeats 4000000
set_option maxRecDepth 100000
namespace Go.Proofs.YtjpjjnalpdpljaaGreatDoor
open Go.RowKit
open Go.Lib (hid)
namespace Sh
open Mem No Bt Bu Po
theorem QM {w:World} {b:Nat} {v0 v1 v2 v3 v4 v5 v6:Value} {U:TypeId} (h:w.heap[b]? =some (.cells #[v0,v1,v2,v3,v4,v5,v6] U (0,0))):w.cell? ⟨b,0,none⟩=some v0/\w.cell? ⟨b,1,none⟩=some v1/\w.cell? ⟨b,2,none⟩=some v2/\w.cell? ⟨b,3,none⟩=some v3/\w.cell? ⟨b,4,none⟩=some v4/\w.cell? ⟨b,5,none⟩=some v5/\w.cell? ⟨b,6,none⟩=some v6:=by
 simp [World.cell?,h]
def kK (s:Ds) (x:Ac) (r:Bool) (s':Ds) (k:Nat) (e:Int):Prop:=
 ((x.kd=0\/x.kd=1)/\s'=svS s x.i r x.n x.a/\k=0/\e=svE s x.i r)\/
 (x.kd=2/\r=false/\s'=s/\k=0/\e=3)\/
 (x.kd=2/\r=true/\free s.held=0/\s'=s/\k=0/\e=11)\/
 (x.kd=2/\r=true/\(∃t,Got s.held 1 t [k]/\s'=mkS s k t x.n x.a)/\e=0)\/
 (x.kd=3/\s'=frS s x.i/\k=0/\e=frE s x.i)\/
 (x.kd=4/\s'=mrS s x.i/\k=0/\e=mrE s x.i)\/
 (x.kd=5/\s'=kpS s x.i/\k=0/\e=kpE s x.i)\/
 ((x.kd<0\/5<x.kd)/\s'=s/\k=0/\e=0)
structure Pp (A0:Option Addr) (l:List Sl) (hd:List Bool) (m B p0 p1:Nat) (w:World) (A:Option Addr) (c h ch:Nat):Prop where
 rc:RC SlK w A c l
 bl:bE w h ch m hd
 hlo:B<=h
 lo:∀a,A=some a->B<=a.block
 off:∀a,0<l.length->A=some a->a.block<p0\/p1<=a.block
 sm:A=A0\/∀a,A=some a->p0<=a.block
section
variable {l:List Sl} {hd:List Bool} {m B p0 p1 c h ch b:Nat} {w w':World} {A A0:Option Addr}
theorem Pp.kept (H:Pp A0 l hd m B p0 p1 w A c h ch) (hb:Bw w w'):Pp A0 l hd m B p0 p1 w' A c h ch:=⟨H.rc.kept hb,H.bl.kept hb,H.hlo,H.lo,H.off,H.sm⟩
theorem Pp.into (H:Pp A0 l hd m B p0 p1 w A c h ch) (hi:Flow.Into [b] w w') (h0:p0<=b) (h1:b<p1) {C:Array Value} {T:TypeId} (hx:w.heap[b]? =some (.cells C T (0,0))) (hT:T≠4):Pp A0 l hd m B p0 p1 w' A c h ch:=
 ⟨mO H.rc hi (fun a hl ha=>by have:=H.off a hl ha;simp only [List.mem_singleton];omega),H.bl.into hi (by have:=jk H.bl hx hT;simpa using this),H.hlo,H.lo,H.off,H.sm⟩
end
theorem nK {cB cY cF cN cU cL cKy cV:Int} {A:Option Addr} {cl h ch n m kept B i:Nat} {lv:Int} {kA pA bA rA:Option Addr} {kn kc pn pc bn bc rn rc:Nat} {w:World} {l':List Sl} {hd':List Bool} {kp:Nat} {kd J E:Int} (hk:(kd=0/\J=0/\(∀w',Bw w w'->Hid (Calls Tryz.prog 41 #[.agg #[cB,cY,cF,cN,cU,cL,cKy,cV,.slice A n cl,.slice (some ⟨h,0,none⟩) m ch,.int .u32 (kept:Int)],.int .u32 (i:Int),.agg #[lv,.slice kA kn kc,.slice pA pn pc,.slice bA bn bc,.slice rA rn rc]] w' fun e w2=>(∃A' c' h' ch',e=.returned (.tuple #[.agg #[cB,cY,cF,cN,cU,cL,cKy,cV,.slice A' n c',.slice (some ⟨h',0,none⟩) m ch',.int .u32 (kp:Int)],E])/\Pp A l' hd' m B w.heap.size w'.heap.size w2 A' c' h' ch')/\Bw w' w2)))\/(kd=1/\J=0/\(∀w',Bw w w'->Hid (Calls Tryz.prog 41 #[.agg #[cB,cY,cF,cN,cU,cL,cKy,cV,.slice A n cl,.slice (some ⟨h,0,none⟩) m ch,.int .u32 (kept:Int)],.int .u32 (i:Int),.agg #[lv,.slice kA kn kc,.slice pA pn pc,.slice bA bn bc,.slice rA rn rc]] w' fun e w2=>(∃A' c' h' ch',e=.returned (.tuple #[.agg #[cB,cY,cF,cN,cU,cL,cKy,cV,.slice A' n c',.slice (some ⟨h',0,none⟩) m ch',.int .u32 (kp:Int)],E])/\Pp A l' hd' m B w.heap.size w'.heap.size w2 A' c' h' ch')/\Bw w' w2)))\/(kd=2/\(∀w',Bw w w'->Hid (Calls Tryz.prog 42 #[.agg #[cB,cY,cF,cN,cU,cL,cKy,cV,.slice A n cl,.slice (some ⟨h,0,none⟩) m ch,.int .u32 (kept:Int)],.agg #[lv,.slice kA kn kc,.slice pA pn pc,.slice bA bn bc,.slice rA rn rc]] w' fun e w2=>(∃A' c' h' ch',e=.returned (.tuple #[.agg #[cB,cY,cF,cN,cU,cL,cKy,cV,.slice A' n c',.slice (some ⟨h',0,none⟩) m ch',.int .u32 (kp:Int)],.int .u32 J,E])/\Pp A l' hd' m B w.heap.size w'.heap.size w2 A' c' h' ch')/\Bw w' w2)))\/(kd=3/\J=0/\(∀w',Bw w w'->Hid (Calls Tryz.prog 43 #[.agg #[cB,cY,cF,cN,cU,cL,cKy,cV,.slice A n cl,.slice (some ⟨h,0,none⟩) m ch,.int .u32 (kept:Int)],.int .u32 (i:Int)] w' fun e w2=>(∃A' c' h' ch',e=.returned (.tuple #[.agg #[cB,cY,cF,cN,cU,cL,cKy,cV,.slice A' n c',.slice (some ⟨h',0,none⟩) m ch',.int .u32 (kp:Int)],E])/\Pp A l' hd' m B w.heap.size w'.heap.size w2 A' c' h' ch')/\Bw w' w2)))\/(kd=4/\J=0/\(∀w',Bw w w'->Hid (Calls Tryz.prog 44 #[.agg #[cB,cY,cF,cN,cU,cL,cKy,cV,.slice A n cl,.slice (some ⟨h,0,none⟩) m ch,.int .u32 (kept:Int)],.int .u32 (i:Int)] w' fun e w2=>(∃A' c' h' ch',e=.returned (.tuple #[.agg #[cB,cY,cF,cN,cU,cL,cKy,cV,.slice A' n c',.slice (some ⟨h',0,none⟩) m ch',.int .u32 (kp:Int)],E])/\Pp A l' hd' m B w.heap.size w'.heap.size w2 A' c' h' ch')/\Bw w' w2)))\/(kd=5/\J=0/\(∀w',Bw w w'->Hid (Calls Tryz.prog 45 #[.agg #[cB,cY,cF,cN,cU,cL,cKy,cV,.slice A n cl,.slice (some ⟨h,0,none⟩) m ch,.int .u32 (kept:Int)],.int .u32 (i:Int)] w' fun e w2=>(∃A' c' h' ch',e=.returned (.tuple #[.agg #[cB,cY,cF,cN,cU,cL,cKy,cV,.slice A' n c',.slice (some ⟨h',0,none⟩) m ch',.int .u32 (kp:Int)],E])/\Pp A l' hd' m B w.heap.size w'.heap.size w2 A' c' h' ch')/\Bw w' w2)))):
 Calls Tryz.prog 12 #[.agg #[cB,cY,cF,cN,cU,cL,cKy,cV,.slice A n cl,.slice (some ⟨h,0,none⟩) m ch,.int .u32 (kept:Int)],.agg #[kd,.int .u32 (i:Int),lv,.slice kA kn kc,.slice pA pn pc,.slice bA bn bc,.slice rA rn rc]] w fun e w'=>(∃A' c' h' ch',e=.returned (.tuple #[.agg #[cB,cY,cF,cN,cU,cL,cKy,cV,.slice A' n c',.slice (some ⟨h',0,none⟩) m ch',.int .u32 (kp:Int)],.int .u32 J,E])/\RC SlK w' A' c' l'/\bE w' h' ch' m hd'/\B<=h'/\(∀a,A'=some a->B<=a.block)/\(A'=A\/∀a,A'=some a->w.heap.size<=a.block))/\Bw w w':=by
 go_enter Tryz.func12,Tryz.ntmps12
 go_upto_region 1 with fail
 generalize hw1:((w.alloc _).alloc _).alloc _=w1
 have HA:Hid (w1.heap[w.heap.size]? =some (.cells #[cB,cY,cF,cN,cU,cL,cKy,cV,.slice A n cl,.slice (some ⟨h,0,none⟩) m ch,.int .u32 (kept:Int)] 35 (0,0))):=by
  rw [<-hw1];exact (aM w _ _ _).1
 have HN:Hid (w1.heap[w.heap.size+1]? =some (.cells #[kd,.int .u32 (i:Int),lv,.slice kA kn kc,.slice pA pn pc,.slice bA bn bc,.slice rA rn rc] 45 (0,0))):=by
  rw [<-hw1];exact (aM w _ _ _).2.1
 have HZ:Hid (w1.heap[w.heap.size+1+1]? =some (.cells #[(0:Int),(0:Int),(0:Int),(0:Int),(0:Int),(0:Int),(0:Int),(0:Int),(),(),.int .u32 0] 35 (0,0))):=by
  rw [<-hw1];exact (aM w _ _ _).2.2.1
 have HB:Hid (Bw w w1):=by
  rw [<-hw1];exact (aM w _ _ _).2.2.2
 clear hw1;obtain ⟨g,hg⟩:∃g,g=w.heap.size:=⟨_,rfl⟩
 rw [<-hg] at HA HZ HN;simp only [<-hg];have HG:Hid (w.heap.size=g):=hg.symm;have HG3:Hid (g+1+1<w1.heap.size):=(Array.getElem?_eq_some_iff.1 HZ.out).1;clear hg;rcases hk with ⟨rfl,rfl,cX⟩|⟨rfl,rfl,cX⟩|⟨rfl,cX⟩|⟨rfl,rfl,cX⟩|⟨rfl,rfl,cX⟩|⟨rfl,rfl,cX⟩
 all_goals
  obtain ⟨a0,a1,a2,a3,a4,a5,a6,a7,a8,a9,a10⟩:=aW HA.out;obtain ⟨b0,b1,b2,b3,b4,b5,b6⟩:=QM HN.out;clear HN;go_upto_region 15 with ((first|go_at_call 41|go_at_call 42|go_at_call 43|go_at_call 44|go_at_call 45);refine (cX _ HB.out).out.mono ?_;rintro e w2 ⟨⟨A',c',h',ch',rfl,hpp⟩,hb⟩;have HP:=hid hpp;replace HA:=hid (aC HA.out hb);replace HZ:=hid (aC HZ.out hb);replace HB:=hid (HB.out.trans (hb.mono HB.out.size));clear hb hpp cX a0 a1 a2 a3 a4 a5 a6 a7 a8 a9 a10 b0 b1 b2 b3 b4 b5 b6;obtain ⟨a0,a1,a2,a3,a4,a5,a6,a7,a8,a9,a10⟩:=aW HA.out;have f0:=au HA.out 0;have f1:=au HA.out 1;have f2:=au HA.out 2;have f3:=au HA.out 3;have f4:=au HA.out 4;have f5:=au HA.out 5;have f6:=au HA.out 6;have f7:=au HA.out 7;have f8:=au HA.out 8;have f9:=au HA.out 9;have f10:=au HA.out 10)
  clear a0 a1 a2 a3 a4 a5 a6 a7 a8 a9 a10 f0 f1 f2 f3 f4 f5 f6 f7 f8 f9 f10;have HPI:Hid (Pp A l' hd' m B w.heap.size w1.heap.size (eF w2 g cB cY cF cN cU cL cKy cV (.slice A' n c') (.slice (some ⟨h',0,none⟩) m ch') (.int .u32 (kp:Int))) A' c' h' ch'):=HP.out.into (mW w2 g cB cY cF cN cU cL cKy cV (.slice A' n c') (.slice (some ⟨h',0,none⟩) m ch') (.int .u32 (kp:Int))) (Nat.le_of_eq HG.out) (by have:=HG3.out;omega) HA.out (by decide);have HA6:=hid (bT HA.out cB cY cF cN cU cL cKy cV (.slice A' n c') (.slice (some ⟨h',0,none⟩) m ch') (.int .u32 (kp:Int)));have HZ6:Hid ((eF w2 g cB cY cF cN cU cL cKy cV (.slice A' n c') (.slice (some ⟨h',0,none⟩) m ch') (.int .u32 (kp:Int))).heap[g+1+1]? =some (.cells #[(0:Int),(0:Int),(0:Int),(0:Int),(0:Int),(0:Int),(0:Int),(0:Int),(),(),.int .u32 0] 35 (0,0))):=(kJ cB cY cF cN cU cL cKy cV (.slice A' n c') (.slice (some ⟨h',0,none⟩) m ch') (.int .u32 (kp:Int)) (show g+1+1≠g by omega)).trans HZ.out;have HB6:=hid (bB HB.out (Nat.le_of_eq HG.out) cB cY cF cN cU cL cKy cV (.slice A' n c') (.slice (some ⟨h',0,none⟩) m ch') (.int .u32 (kp:Int)));unfold eF at HPI HA6 HZ6 HB6;clear HA HZ HB HP;generalize ((((((((((w2.setCell ⟨g,0,none⟩ cB).setCell ⟨g,1,none⟩ cY).setCell ⟨g,2,none⟩ cF).setCell ⟨g,3,none⟩ cN).setCell ⟨g,4,none⟩ cU).setCell ⟨g,5,none⟩ cL).setCell ⟨g,6,none⟩ cKy).setCell ⟨g,7,none⟩ cV).setCell ⟨g,8,none⟩ (.slice A' n c')).setCell ⟨g,9,none⟩ (.slice (some ⟨h',0,none⟩) m ch')).setCell ⟨g,10,none⟩ (.int .u32 (kp:Int))=w6 at*;obtain ⟨a0,a1,a2,a3,a4,a5,a6,a7,a8,a9,a10⟩:=aW HA6.out;obtain ⟨z0,z1,z2,z3,z4,z5,z6,z7,z8,z9,z10⟩:=aW HZ6.out;have f0:=au HZ6.out 0;have f1:=au HZ6.out 1;have f2:=au HZ6.out 2;have f3:=au HZ6.out 3;have f4:=au HZ6.out 4;have f5:=au HZ6.out 5;have f6:=au HZ6.out 6;have f7:=au HZ6.out 7;have f8:=au HZ6.out 8;have f9:=au HZ6.out 9;have f10:=au HZ6.out 10;have HPJ:Hid (Pp A l' hd' m B w.heap.size w1.heap.size (eF w6 (g+1+1) cB cY cF cN cU cL cKy cV (.slice A' n c') (.slice (some ⟨h',0,none⟩) m ch') (.int .u32 (kp:Int))) A' c' h' ch'):=HPI.out.into (mW w6 (g+1+1) cB cY cF cN cU cL cKy cV (.slice A' n c') (.slice (some ⟨h',0,none⟩) m ch') (.int .u32 (kp:Int))) (by have:=HG.out;omega) HG3.out HZ6.out (by decide);have HU:=hid (bT HZ6.out cB cY cF cN cU cL cKy cV (.slice A' n c') (.slice (some ⟨h',0,none⟩) m ch') (.int .u32 (kp:Int)));have HBW:=hid (bB HB6.out (show w.heap.size<=g+1+1 by have:=HG.out;omega) cB cY cF cN cU cL cKy cV (.slice A' n c') (.slice (some ⟨h',0,none⟩) m ch') (.int .u32 (kp:Int)));unfold eF at HPJ HU HBW;go_wp2_with fail
  obtain ⟨y0,y1,y2,y3,y4,y5,y6,y7,y8,y9,y10⟩:=aW HU.out;exact bodyPost_ret (v:= .tuple #[.agg #[cB,cY,cF,cN,cU,cL,cKy,cV,.slice A' n c',.slice (some ⟨h',0,none⟩) m ch',.int .u32 (kp:Int)],.int .u32 _,E]) (by simp [results,Tryz.results12,go_sem,y0,y1,y2,y3,y4,y5,y6,y7,y8,y9,y10]) rfl ⟨⟨A',c',h',ch',rfl,HPJ.out.rc,HPJ.out.bl,HPJ.out.hlo,HPJ.out.lo,HPJ.out.sm⟩,HBW.out⟩
theorem NI {cB cY cF cN cU cL cKy cV:Int} {A:Option Addr} {cl h ch n m kept i:Nat} {lv:Int} {kA pA bA rA:Option Addr} {kn kc pn pc bn bc rn rc:Nat} {w:World} {kd:Int} (k0:¬kd=0) (k1:¬kd=1) (k2:¬kd=2) (k3:¬kd=3) (k4:¬kd=4) (k5:¬kd=5):
 CB 12 #[.agg #[cB,cY,cF,cN,cU,cL,cKy,cV,.slice A n cl,.slice (some ⟨h,0,none⟩) m ch,.int .u32 (kept:Int)],.agg #[kd,.int .u32 (i:Int),lv,.slice kA kn kc,.slice pA pn pc,.slice bA bn bc,.slice rA rn rc]] w (.tuple #[.agg #[cB,cY,cF,cN,cU,cL,cKy,cV,.slice A n cl,.slice (some ⟨h,0,none⟩) m ch,.int .u32 (kept:Int)],.int .u32 0,(0:Int)]):=by
 go_enter Tryz.func12,Tryz.ntmps12
 go_upto_region 1 with fail
 generalize hw1:((w.alloc _).alloc _).alloc _=w1
 have HA:Hid (w1.heap[w.heap.size]? =some (.cells #[cB,cY,cF,cN,cU,cL,cKy,cV,.slice A n cl,.slice (some ⟨h,0,none⟩) m ch,.int .u32 (kept:Int)] 35 (0,0))):=by
  rw [<-hw1];exact (aM w _ _ _).1
 have HN:Hid (w1.heap[w.heap.size+1]? =some (.cells #[kd,.int .u32 (i:Int),lv,.slice kA kn kc,.slice pA pn pc,.slice bA bn bc,.slice rA rn rc] 45 (0,0))):=by
  rw [<-hw1];exact (aM w _ _ _).2.1
 have HZ:Hid (w1.heap[w.heap.size+1+1]? =some (.cells #[(0:Int),(0:Int),(0:Int),(0:Int),(0:Int),(0:Int),(0:Int),(0:Int),(),(),.int .u32 0] 35 (0,0))):=by
  rw [<-hw1];exact (aM w _ _ _).2.2.1
 have HB:Hid (Bw w w1):=by
  rw [<-hw1];exact (aM w _ _ _).2.2.2
 clear hw1;obtain ⟨g,hg⟩:∃g,g=w.heap.size:=⟨_,rfl⟩
 rw [<-hg] at HA HZ HN;simp only [<-hg];have HG:Hid (w.heap.size=g):=hg.symm;have HG3:Hid (g+1+1<w1.heap.size):=(Array.getElem?_eq_some_iff.1 HZ.out).1;clear hg;obtain ⟨a0,a1,a2,a3,a4,a5,a6,a7,a8,a9,a10⟩:=aW HA.out;obtain ⟨b0,b1,b2,b3,b4,b5,b6⟩:=QM HN.out;go_upto_region 15 with fail
 clear k0 k1 k2 k3 k4 k5 HN;obtain ⟨z0,z1,z2,z3,z4,z5,z6,z7,z8,z9,z10⟩:=aW HZ.out;have f0:=au HZ.out 0;have f1:=au HZ.out 1;have f2:=au HZ.out 2;have f3:=au HZ.out 3;have f4:=au HZ.out 4;have f5:=au HZ.out 5;have f6:=au HZ.out 6;have f7:=au HZ.out 7;have f8:=au HZ.out 8;have f9:=au HZ.out 9;have f10:=au HZ.out 10;have HU:=hid (bT HZ.out cB cY cF cN cU cL cKy cV (.slice A n cl) (.slice (some ⟨h,0,none⟩) m ch) (.int .u32 (kept:Int)));have HBW:=hid (bB HB.out (show w.heap.size<=g+1+1 by have:=HG.out;omega) cB cY cF cN cU cL cKy cV (.slice A n cl) (.slice (some ⟨h,0,none⟩) m ch) (.int .u32 (kept:Int)));unfold eF at HU HBW;go_wp2_with fail
 obtain ⟨y0,y1,y2,y3,y4,y5,y6,y7,y8,y9,y10⟩:=aW HU.out;exact bodyPost_ret (v:= .tuple #[.agg #[cB,cY,cF,cN,cU,cL,cKy,cV,.slice A n cl,.slice (some ⟨h,0,none⟩) m ch,.int .u32 (kept:Int)],.int .u32 0,(0:Int)]) (by simp [results,Tryz.results12,go_sem,y0,y1,y2,y3,y4,y5,y6,y7,y8,y9,y10]) rfl ⟨rfl,HBW.out⟩
end Sh
end Go.Proofs.YtjpjjnalpdpljaaGreatDoor
set_option maxHeartbeats 2000000
set_option maxRecDepth 100000
namespace Go.Proofs.YtjpjjnalpdpljaaGreatDoor
open Go.RowKit
namespace Sh
open Mem No Bt Bu Po
section
variable {s s':Ds} {i j:Nat} {r:Bool} {n:Nd} {a:At} {t:List Bool}
structure Like (s s':Ds):Prop where
 c:s'.c=s.c
 l:s'.l.length=s.l.length
 h:s'.held.length=s.held.length
theorem Like.refl (s:Ds):Like s s:=⟨rfl,rfl,rfl⟩
theorem mX:Like s (svS s i r n a)/\(svS s i r n a).held=s.held/\(svS s i r n a).kept=s.kept:=by
 unfold svS;split
 . split
   . exact ⟨⟨rfl,by simp [vH],rfl⟩,rfl,rfl⟩
   . exact ⟨Like.refl _,rfl,rfl⟩
 . exact ⟨Like.refl _,rfl,rfl⟩
theorem tJ:Like s (kpS s i)/\(kpS s i).l=s.l/\(kpS s i).held=s.held:=by
 unfold kpS;split
 . exact ⟨Like.refl _,rfl,rfl⟩
 . exact ⟨⟨rfl,rfl,rfl⟩,rfl,rfl⟩
theorem Fp (tb:List Bool) (i:Int):(jQ tb i).length=tb.length:=by
 unfold jQ;split
 . rw [List.length_set]
 . rfl
theorem pV:Like s (mrS s i)/\(mrS s i).l=s.l/\(mrS s i).kept=s.kept:=by
 unfold mrS;split
 . exact ⟨⟨rfl,rfl,Fp _ _⟩,rfl,rfl⟩
 . exact ⟨Like.refl _,rfl,rfl⟩
theorem tK:Like s (frS s i)/\(frS s i).kept=s.kept:=by
 unfold frS;split
 . split
   . exact ⟨Like.refl _,rfl⟩
   . split
     . exact ⟨⟨rfl,by simp [vH],wI _ _⟩,rfl⟩
     . exact ⟨Like.refl _,rfl⟩
 . exact ⟨Like.refl _,rfl⟩
theorem Fq (ht:t.length=s.held.length):Like s (mkS s j t n a)/\(mkS s j t n a).kept=s.kept/\(mkS s j t n a).held=t:=⟨⟨rfl,by simp [mkS,vH],ht⟩,rfl,rfl⟩
end
theorem NJ {w w':World} {B:Nat} {s s':Ds} {A A':Option Addr} {cl h ch cl' h' ch':Nat} (hD:DsW w B s A cl h ch) (hL:Like s s') (h1:RC SlK w' A' cl' s'.l) (h2:bE w' h' ch' s.held.length s'.held) (h3:B<=h') (h4:∀a,A'=some a->B<=a.block):DsW w' B s' A' cl' h' ch':=
 ⟨h1,by rw [hL.h];exact h2,by rw [hL.l,hL.c];exact hD.len,by rw [hL.h,hL.l];exact hD.hlen,h4,h3,by rw [hL.l];exact hD.few⟩
def arS (s:Ds) (kp:Nat) (A':Option Addr) (c' h' ch':Nat):Array Value:= #[.int .i64 s.c.blocks,.int .i64 s.c.bytes,.int .i64 s.c.frames,.int .i64 s.c.fan,.int .i64 s.c.buffer,.int .i64 s.c.leaf,.int .i64 s.c.key,.int .i64 s.c.val,.slice A' s.l.length c',.slice (some ⟨h',0,none⟩) s.held.length ch',.int .u32 (kp:Int)]
theorem iJ {s s':Ds} (hL:Like s s') (A':Option Addr) (cl' h' ch':Nat):bY s' A' cl' h' ch'=arS s s'.kept A' cl' h' ch':=by
 unfold bY arS;rw [hL.c,hL.l,hL.h]
theorem yc {w w' w2:World} {B:Nat} {s:Ds} {l':List Sl} {hd':List Bool} {A A':Option Addr} {cl h ch cl' h' ch':Nat} (hD:DsW w B s A cl h ch) (hb:Bw w w') (hB:B<=w.heap.size) (hl:l'.length=s.l.length) (h1:RC SlK w2 A' cl' l') (ho:A'=A\/∀a,A'=some a->w'.heap.size<=a.block) (h2:bE w2 h' ch' s.held.length hd') (h3:B<=h'):Pp A l' hd' s.held.length B w.heap.size w'.heap.size w2 A' cl' h' ch':=by
 refine ⟨h1,h2,h3,fun a ha=>?_,fun a hl0 ha=>?_,?_⟩
 . rcases ho with rfl|ho
   . exact hD.lo a ha
   . exact Nat.le_trans hB (Nat.le_trans hb.size (ho a ha))
 . rcases ho with rfl|ho
   . obtain ⟨b,o,e,hlt,-⟩:=hD.rd.1 (by omega)
     rw [ha] at e;(cases e);exact .inl hlt
   . exact .inr (ho a ha)
 . rcases ho with rfl|ho
   . exact .inl rfl
   . exact .inr fun a ha=>Nat.le_trans hb.size (ho a ha)
theorem DsW.kept {w w':World} {B:Nat} {s:Ds} {A:Option Addr} {cl h ch:Nat} (hD:DsW w B s A cl h ch) (hb:Bw w w'):DsW w' B s A cl h ch:=⟨hD.rd.kept hb,hD.bl.kept hb,hD.len,hD.hlen,hD.lo,hD.hlo,hD.few⟩
theorem Iw (s:Ds) (A:Option Addr) (cl h ch B:Nat) (x:Ac) (w:World) (hD:DsW w B s A cl h ch) (hBw:B<=w.heap.size) (Nt:s.kept<4294967296) (hx32:x.i<4294967296) (h1n:1<=s.held.length) (r:Bool)
 (hR:∀w',Bw w w'->CB 77 #[.agg (aZ s.c),.agg (bL x.n x.a)] w' (.bool r)):
 Calls Tryz.prog 12 #[.agg (bY s A cl h ch),.agg (A8 x).toArray] w fun e w'=>(∃s' k E A' cl' h' ch',e=.returned (.tuple #[.agg (bY s' A' cl' h' ch'),.int .u32 ((k:Nat):Int),(E:Int)])/\kK s x r s' k E/\DsW w' B s' A' cl' h' ch'/\(A'=A\/∀a,A'=some a->w.heap.size<=a.block))/\Bw w w':=by
 obtain ⟨kd,i,nd,at_⟩:=x;simp only at hx32 hR;have hR2:∀w',Bw w w'->∀w'',Bw w' w''->CB 77 #[.agg (aZ s.c),.agg (bL nd at_)] w'' (.bool r):=fun w' hb w'' hb'=>hR w'' (hb.trans (hb'.mono hb.size))
 have fin:∀(s':Ds) (k:Nat) (E:Int),Like s s'->kK s ⟨kd,i,nd,at_⟩ r s' k E->∀(e:Ending) (w':World),((∃A' c' h' ch',e=.returned (.tuple #[.agg (arS s s'.kept A' c' h' ch'),.int .u32 (k:Int),(E:Int)])/\RC SlK w' A' c' s'.l/\bE w' h' ch' s.held.length s'.held/\B<=h'/\(∀a,A'=some a->B<=a.block)/\(A'=A\/∀a,A'=some a->w.heap.size<=a.block))/\Bw w w')->(∃s' k E A' cl' h' ch',e=.returned (.tuple #[.agg (bY s' A' cl' h' ch'),.int .u32 ((k:Nat):Int),(E:Int)])/\kK s ⟨kd,i,nd,at_⟩ r s' k E/\DsW w' B s' A' cl' h' ch'/\(A'=A\/∀a,A'=some a->w.heap.size<=a.block))/\Bw w w':=by
  rintro s' k E hL hW e w' ⟨⟨A',c',h',ch',he,h1,h2,h3,h4,h5⟩,hb⟩;exact ⟨⟨s',k,E,A',c',h',ch',by rw [iJ hL];exact he,hW,NJ hD hL h1 h2 h3 h4,h5⟩,hb⟩
 have cSv:∀w',Bw w w'->Hid (Calls Tryz.prog 41 #[.agg (bY s A cl h ch),.int .u32 (i:Int),.agg (bL nd at_)] w' fun e w2=>(∃A' c' h' ch',e=.returned (.tuple #[.agg (arS s (svS s i r nd at_).kept A' c' h' ch'),(svE s i r:Int)])/\Pp A (svS s i r nd at_).l (svS s i r nd at_).held s.held.length B w.heap.size w'.heap.size w2 A' c' h' ch')/\Bw w' w2):=fun w' hb=>by
  have hD':=hD.kept hb;obtain ⟨hL,hh,-⟩:=mX (s:=s) (i:=i) (r:=r) (n:=nd) (a:=at_);refine (EW s A cl h ch i nd at_ hx32 w' hD'.rd hD.len hD.few r (hR2 w' hb)).mono ?_;rintro e w2 ⟨⟨A',c',he,h1,h2⟩,hb2⟩;refine ⟨⟨A',c',h,ch,by rw [<-iJ hL];exact he,yc hD hb hBw hL.l h1 h2 ?_ hD.hlo⟩,hb2⟩;rw [hh];exact hD'.bl.kept hb2
 by_cases k0:kd=0
 . subst k0
   exact (nK (.inl ⟨rfl,rfl,fun w' hb=>cSv w' hb⟩)).mono (fin _ 0 _ mX.1 (.inl ⟨.inl rfl,rfl,rfl,rfl⟩))
 by_cases k1:kd=1
 . subst k1
   exact (nK (.inr (.inl ⟨rfl,rfl,fun w' hb=>cSv w' hb⟩))).mono (fin _ 0 _ mX.1 (.inl ⟨.inr rfl,rfl,rfl,rfl⟩))
 clear cSv;by_cases k2:kd=2
 . subst k2
   cases r with
   |false=>
    have cM:∀w',Bw w w'->Hid (Calls Tryz.prog 42 #[.agg (bY s A cl h ch),.agg (bL nd at_)] w' fun e w2=>(∃A' c' h' ch',e=.returned (.tuple #[.agg (arS s s.kept A' c' h' ch'),.int .u32 ((0:Nat):Int),(3:Int)])/\Pp A s.l s.held s.held.length B w.heap.size w'.heap.size w2 A' c' h' ch')/\Bw w' w2):=fun w' hb=>by
     refine (Bp s A cl h ch nd at_ w' (hR2 w' hb)).mono ?_;rintro e w2 ⟨he,hb2⟩;exact ⟨⟨A,cl,h,ch,by rw [<-iJ (Like.refl s)];exact he,yc hD hb hBw rfl ((hD.kept hb).rd.kept hb2) (.inl rfl) ((hD.kept hb).bl.kept hb2) hD.hlo⟩,hb2⟩
    exact (nK (.inr (.inr (.inl ⟨rfl,fun w' hb=>cM w' hb⟩)))).mono (fin s 0 3 (Like.refl s) (.inr (.inl ⟨rfl,rfl,rfl,rfl,rfl⟩)))
   |true=>
    by_cases hf:free s.held=0
    . have cM:∀w',Bw w w'->Hid (Calls Tryz.prog 42 #[.agg (bY s A cl h ch),.agg (bL nd at_)] w' fun e w2=>(∃A' c' h' ch',e=.returned (.tuple #[.agg (arS s s.kept A' c' h' ch'),.int .u32 ((0:Nat):Int),(11:Int)])/\Pp A s.l s.held s.held.length B w.heap.size w'.heap.size w2 A' c' h' ch')/\Bw w' w2):=fun w' hb=>by
       refine (vQ s A cl h ch nd at_ w' (hR2 w' hb) (hD.kept hb).bl (by rw [hD.hlen];exact hD.few) hf).mono ?_;rintro e w2 ⟨he,hb2⟩;exact ⟨⟨A,cl,h,ch,by rw [<-iJ (Like.refl s)];exact he,yc hD hb hBw rfl ((hD.kept hb).rd.kept hb2) (.inl rfl) ((hD.kept hb).bl.kept hb2) hD.hlo⟩,hb2⟩
      exact (nK (.inr (.inr (.inl ⟨rfl,fun w' hb=>cM w' hb⟩)))).mono (fin s 0 11 (Like.refl s) (.inr (.inr (.inl ⟨rfl,rfl,hf,rfl,rfl,rfl⟩))))
    . obtain ⟨t,j,hg⟩:∃t j,Got s.held 1 t [j]:=by
       obtain ⟨t,l,hg⟩:=Gf (tb:=s.held) (k:=1) (by omega);obtain ⟨j,rfl⟩:=List.length_eq_one_iff.1 hg.len.2;exact ⟨t,j,hg⟩
      obtain ⟨hL,-,-⟩:=Fq (s:=s) (j:=j) (n:=nd) (a:=at_) hg.len.1
      have cM:∀w',Bw w w'->Hid (Calls Tryz.prog 42 #[.agg (bY s A cl h ch),.agg (bL nd at_)] w' fun e w2=>(∃A' c' h' ch',e=.returned (.tuple #[.agg (arS s (mkS s j t nd at_).kept A' c' h' ch'),.int .u32 ((j:Nat):Int),(0:Int)])/\Pp A (mkS s j t nd at_).l (mkS s j t nd at_).held s.held.length B w.heap.size w'.heap.size w2 A' c' h' ch')/\Bw w' w2):=fun w' hb=>by
       have hD':=hD.kept hb;refine (Bq s A cl h ch B j t nd at_ w' (hR2 w' hb) hD'.rd hD.few hD.hlen hD'.bl hD.hlo (Nat.le_trans hBw hb.size) hg (by omega)).mono ?_;rintro e w2 ⟨⟨A',c',h',ch',he,h1,h2,h3,h4⟩,hb2⟩;exact ⟨⟨A',c',h',ch',by rw [<-iJ hL];exact he,yc hD hb hBw hL.l h3 (.inr h4) h1 h2⟩,hb2⟩
      exact (nK (.inr (.inr (.inl ⟨rfl,fun w' hb=>cM w' hb⟩)))).mono (fin _ j 0 hL (.inr (.inr (.inr (.inl ⟨rfl,rfl,⟨t,hg,rfl⟩,rfl⟩)))))
 by_cases k3:kd=3
 . subst k3
   obtain ⟨hL,-⟩:=tK (s:=s) (i:=i)
   have cF:∀w',Bw w w'->Hid (Calls Tryz.prog 43 #[.agg (bY s A cl h ch),.int .u32 (i:Int)] w' fun e w2=>(∃A' c' h' ch',e=.returned (.tuple #[.agg (arS s (frS s i).kept A' c' h' ch'),(frE s i:Int)])/\Pp A (frS s i).l (frS s i).held s.held.length B w.heap.size w'.heap.size w2 A' c' h' ch')/\Bw w' w2):=fun w' hb=>by
    have hD':=hD.kept hb;refine (xS s A cl h ch i B hx32 Nt w' hD'.rd hD.len hD.few hD'.bl hD.hlo (Nat.le_trans hBw hb.size) h1n (by rw [hD.hlen];exact hD.few)).mono ?_;rintro e w2 ⟨⟨A',c',h',ch',he,h1,h2,h3,h4⟩,hb2⟩;exact ⟨⟨A',c',h',ch',by rw [<-iJ hL];exact he,yc hD hb hBw hL.l h3 h4 h1 h2⟩,hb2⟩
   exact (nK (.inr (.inr (.inr (.inl ⟨rfl,rfl,fun w' hb=>cF w' hb⟩))))).mono (fin _ 0 _ hL (.inr (.inr (.inr (.inr (.inl ⟨rfl,rfl,rfl,rfl⟩))))))
 by_cases k4:kd=4
 . subst k4
   obtain ⟨hL,hl,-⟩:=pV (s:=s) (i:=i)
   have cF:∀w',Bw w w'->Hid (Calls Tryz.prog 44 #[.agg (bY s A cl h ch),.int .u32 (i:Int)] w' fun e w2=>(∃A' c' h' ch',e=.returned (.tuple #[.agg (arS s (mrS s i).kept A' c' h' ch'),(mrE s i:Int)])/\Pp A (mrS s i).l (mrS s i).held s.held.length B w.heap.size w'.heap.size w2 A' c' h' ch')/\Bw w' w2):=fun w' hb=>by
    have hD':=hD.kept hb;refine (xR s A cl h ch i B hx32 w' hD'.bl hD.hlo (Nat.le_trans hBw hb.size) (by rw [hD.hlen];exact hD.few)).mono ?_;rintro e w2 ⟨⟨h',ch',he,h1,h2⟩,hb2⟩;exact ⟨⟨A,cl,h',ch',by rw [<-iJ hL];exact he,yc hD hb hBw hL.l (by rw [hl];exact hD'.rd.kept hb2) (.inl rfl) h1 h2⟩,hb2⟩
   exact (nK (.inr (.inr (.inr (.inr (.inl ⟨rfl,rfl,fun w' hb=>cF w' hb⟩)))))).mono (fin _ 0 _ hL (.inr (.inr (.inr (.inr (.inr (.inl ⟨rfl,rfl,rfl,rfl⟩)))))))
 by_cases k5:kd=5
 . subst k5
   obtain ⟨hL,hl,hh⟩:=tJ (s:=s) (i:=i)
   have cF:∀w',Bw w w'->Hid (Calls Tryz.prog 45 #[.agg (bY s A cl h ch),.int .u32 (i:Int)] w' fun e w2=>(∃A' c' h' ch',e=.returned (.tuple #[.agg (arS s (kpS s i).kept A' c' h' ch'),(kpE s i:Int)])/\Pp A (kpS s i).l (kpS s i).held s.held.length B w.heap.size w'.heap.size w2 A' c' h' ch')/\Bw w' w2):=fun w' hb=>by
    have hD':=hD.kept hb;refine (ES s A cl h ch i hx32 w').mono ?_;rintro e w2 ⟨he,hb2⟩;exact ⟨⟨A,cl,h,ch,by rw [<-iJ hL];exact he,yc hD hb hBw hL.l (by rw [hl];exact hD'.rd.kept hb2) (.inl rfl) (by rw [hh];exact hD'.bl.kept hb2) hD.hlo⟩,hb2⟩
   exact (nK (.inr (.inr (.inr (.inr (.inr ⟨rfl,rfl,fun w' hb=>cF w' hb⟩)))))).mono (fin _ 0 _ hL (.inr (.inr (.inr (.inr (.inr (.inr (.inl ⟨rfl,rfl,rfl,rfl⟩))))))))
 refine (NI k0 k1 k2 k3 k4 k5).mono ?_;rintro e w' ⟨he,hb⟩;exact ⟨⟨s,0,0,A,cl,h,ch,he,.inr (.inr (.inr (.inr (.inr (.inr (.inr ⟨by show kd<0\/5<kd;omega,rfl,rfl,rfl⟩)))))),hD.kept hb,.inl rfl⟩,hb⟩
end Sh
end Go.Proofs.YtjpjjnalpdpljaaGreatDoor
namespace Go.Proofs.YtjpjjnalpdpljaaGreatDoor
open Go.RowKit
open List (replicate)
namespace Sh
open Mem No Bt Po
open Ca (upF)
theorem qP (c:Cfg) (n:Nd) (M:Nat):aJ c n≠replicate M 0:=fun h=>by
 have h1:(aJ c n)[0]? =some 1\/(aJ c n)[0]? =some 2:=by
  unfold aJ slotL lM;split
  . exact .inl rfl
  . exact .inr rfl
 rw [h,List.getElem?_replicate] at h1;rcases h1 with h1|h1<;>split at h1<;>first|exact absurd (Option.some.inj h1) (by decide)|cases h1
structure NdW (W:World) (n:Nd) (a:At):Prop where
 nd:gK W n a
 fit:Fit n
 kid:∀k,k∈n.kids->k<4294967296
theorem NdW.kept {W W':World} {n:Nd} {a:At} (h:NdW W n a) (hb:Bw W W'):NdW W' n a:=⟨h.nd.kept hb,h.fit,h.kid⟩
def Lv (W:World) (c:Cfg) (M:Nat) (x:Sl) (b:List UInt8):Prop:=(x.kd=0/\x=sl0/\b=replicate M 0)\/(x.kd=1/\bQ c x.n/\b=aJ c x.n/\NdW W x.n x.a)\/x.kd=2
def Sr (W:World) (s:Ds) (M:Nat) (f:Nat->List UInt8):Prop:=∀i x,0<i->s.l[i]? =some x->Lv W s.c M x (f i)
section
variable {W W':World} {s s':Ds} {M i:Nat} {f:Nat->List UInt8} {x:Sl} {y:List UInt8}
theorem Lv.kept {c:Cfg} (h:Lv W c M x y) (hb:Bw W W'):Lv W' c M x y:=by
 rcases h with h|⟨h1,h2,h3,h4⟩|h
 . exact .inl h
 . exact .inr (.inl ⟨h1,h2,h3,h4.kept hb⟩)
 . exact .inr (.inr h)
theorem Sr.kept (h:Sr W s M f) (hb:Bw W W'):Sr W' s M f:=fun i x h0 hx=>(h i x h0 hx).kept hb
theorem Sr.new (c:Cfg) (n M:Nat) (hd:List Bool) (k:Nat) {f:Nat->List UInt8} (hf:∀i,i<n->f i=replicate M 0):Sr W ⟨c,replicate n sl0,hd,k⟩ M f:=fun i x _ hx=>by
 simp only [List.getElem?_replicate] at hx;split at hx
 . rename_i hi
   obtain rfl:=Option.some.inj hx;exact .inl ⟨rfl,rfl,hf i hi⟩
 . cases hx
theorem Sr.same (h:Sr W s M f) (hl:s'.l=s.l) (hc:s'.c=s.c):Sr W s' M f:=fun i x h0 hx=>by
 rw [hl] at hx;rw [hc];exact h i x h0 hx
theorem Sr.put (h:Sr W s M f) {hd:List Bool} {k:Nat} (hx:Lv W s.c M x y):Sr W (vH { s with held:=hd,kept:=k } i x) M (upF f i y):=fun j z h0 hz=>by
 have hz':(s.l.set i x)[j]? =some z:=hz;show Lv W s.c M z (upF f i y j);unfold upF;by_cases e:j=i
 . subst e
   rw [if_pos rfl];rw [List.getElem?_set] at hz';rw [if_pos rfl] at hz';split at hz'
   . obtain rfl:=Option.some.inj hz'
     exact hx
   . cases hz'
 . rw [if_neg e]
   rw [List.getElem?_set_ne (fun e'=>e e'.symm)] at hz';exact h j z h0 hz'
theorem Sr.load (h:Sr W s M f) (hR:Cf.Right s.c.blocks s.c.bytes s.c.frames s.c.fan s.c.buffer s.c.leaf s.c.key s.c.val) (hl:(s.l.length:Int)=s.c.blocks) (ht:there s i) {n:Nd} {e:Int} (hd:KV s.c (f i) n e) (hk:(ldS s i).2.2=true):e=(ldS s i).2.1/\n=(ldS s i).1.n:=by
 have hlt:=EN hl ht;obtain ⟨x,hx⟩:∃x,s.l[i]? =some x:=⟨_,List.getElem?_eq_getElem hlt⟩
 have hg:s.l.getD i sl0=x:=by rw [List.getD_eq_getElem?_getD,hx];rfl
 have h1:=h i x ht.1 hx;unfold ldS at hk ⊢;rw [if_pos ht,hg] at hk ⊢;rcases h1 with ⟨h1,-,h2⟩|⟨h1,h2,h3,-⟩|h1
 . rw [if_pos h1]
   rw [h2] at hd;have h9:KV s.c (replicate M 0) qm 12:= .inr (.inl ⟨hR,fun m hm=>qP _ _ _ hm.2,rfl,rfl⟩);obtain ⟨rfl,rfl⟩:=hd.one h9;exact ⟨rfl,rfl⟩
 . rw [if_neg (by omega)]
   rw [h3] at hd;obtain ⟨rfl,rfl⟩:=hd.one (.inr (.inr ⟨h2,rfl,rfl⟩));exact ⟨rfl,rfl⟩
 . rw [if_neg (by omega)] at hk
   exact absurd (of_decide_eq_true hk) (by omega)
end
end Sh
end Go.Proofs.YtjpjjnalpdpljaaGreatDoor
set_option maxHeartbeats 1000000
set_option maxRecDepth 100000
namespace Go.Proofs.YtjpjjnalpdpljaaGreatDoor
open Go.RowKit
open Go.Lib (hid)
namespace Sh
open Mem No Bt Po
open Ca (upF Few)
def zer (c:Cfg):List (List UInt8):=List.replicate c.blocks.toNat (List.replicate c.bytes.toNat 0)
def Ot (W w w':World) (c:Cfg) (e:Ending):Prop:=(∃F z,e=.returned (.tuple #[z.p,z.g])/\Sv W w' F z c (tbN c.blocks.toNat) 0 (kpF 0) (fls (zer c)) 0 0 0)/\Bw w w'
section
variable {W w:World} {c:Cfg}
theorem yg (hc:Okc c) (hT:Tab W) (hW:Bw W w):Calls Tryz.prog 9 #[.agg (aZ c)] w fun e w'=>Ot W w w' c e:=by
 have hn:=hc.nat
 have cD:∀w,Hid (Calls Tryz.prog 29 #[c.blocks,c.bytes] w fun e w'=>Dv.Made w w' c.bytes.toNat (zer c) 0 0 e/\Bw w w'):=fun w=>by
  have:=Dv.lg c.blocks.toNat c.bytes.toNat w (by omega) (by omega) (by omega) (by omega);rw [hn.1,hn.2.1] at this;exact this
 have cN:∀{w S g},Bw W w->Dv.Dev w S g c.bytes.toNat (zer c) 0 0->(∀x,x∈S->W.heap.size<=x)->Hid (Calls Tryz.prog 30 #[.agg (aZ c),(g:Nat)] w fun e w'=>(∃F z,e=.returned (.tuple #[z.p,(0:Int)])/\z.g=g/\Sv W w' F z c (tbN c.blocks.toNat) 0 (kpF 0) (fls (zer c)) 0 0 0)/\Bw w w'):=fun hb hd hS=>Pk hc hT hb hd (by unfold zer;rw [List.length_replicate];exact hn.1) hn.2.1 hS ⟨Nat.le_refl _,Nat.le_refl _⟩
 have hx:=bf.new 23 w (aZ c);have hb1:Bw w (w.alloc (.cells (aZ c) 23)):=bAx;clear hc hn;go_enter Tryz.func9,Tryz.ntmps9
 go_upto_region 1 with fail
 generalize w.alloc (.cells (aZ c) 23)=w1 at*;obtain ⟨a,ha⟩:∃a,a=w.heap.size:=⟨_,rfl⟩
 rw [<-ha] at hx;simp only [<-ha];obtain ⟨d0,d1,-⟩:=lH hx;have HX:=hid hx;have HB:=hid hb1;clear hx hb1 ha;go_upto_region 2 with (go_at_call 29;refine (cD _).out.mono ?_;rintro e w2 ⟨⟨g,S,rfl,hd,hS⟩,hb⟩;have HD:=hid (And.intro hd (And.intro hS HB.out.size));replace HB:=hid (HB.out.trans (hb.mono HB.out.size));replace HX:=hid (HX.out.kept hb);clear hd hS hb cD d0 d1)
 have cN2:=cN (hW.trans (HB.out.mono hW.size)) HD.out.1 (fun x hx=>Nat.le_trans hW.size (Nat.le_trans HD.out.2.2 (HD.out.2.1 x hx)));clear cN HD
 go_upto_region 3 with (first
  |(refine aL rfl (.tmp 1) 23 rfl xC a (aZ c) (vD rfl) rfl HX.out ?_)
  |(go_at_call 30;refine cN2.out.mono ?_;rintro e w3 ⟨⟨F,z,rfl,hz,hs⟩,hb⟩;have HS:=hid (And.intro hz hs);replace HB:=hid (HB.out.trans (hb.mono HB.out.size));clear hz hs hb cN2 HX))
 go_wp2_with fail
 refine bodyPost_ret (v:= .tuple #[z.p,g]) (by simp [results,Tryz.results9,go_sem]) rfl ⟨⟨F,z,?_,HS.out.2⟩,HB.out⟩;rw [HS.out.1]
def cLe:Cfg:=⟨9,200,8,8,16,16,2,1⟩
theorem Fu (W:World):CB 39 #[] W (.agg (aZ cLe)):=by
 have hb1:Bw W (W.alloc (.cells #[(0:Int),(0:Int),(0:Int),(0:Int),(0:Int),(0:Int),(0:Int),(0:Int)] 23)):=bAx;have hx:=bf.new 23 W #[(0:Int),(0:Int),(0:Int),(0:Int),(0:Int),(0:Int),(0:Int),(0:Int)];go_enter Tryz.func39,Tryz.ntmps39
 go_upto_region 1 with fail
 generalize W.alloc (.cells #[(0:Int),(0:Int),(0:Int),(0:Int),(0:Int),(0:Int),(0:Int),(0:Int)] 23)=w1 at*;have HX:=hid hx;have HB:=hid hb1;clear hx hb1;go_wp2_with (refine aK rfl (.tmp 0) (.tmp 1) 23 rfl rfl W.heap.size #[(0:Int),(0:Int),(0:Int),(0:Int),(0:Int),(0:Int),(0:Int),(0:Int)] (aZ cLe) (vD rfl) rfl (rY cLe) rfl rfl HX.out ?_;intro w3 HZ hi;have HI:=hid hi;clear hi)
 have hl:=eO (P:=Tryz.prog) xC (vD (C:=aZ cLe) rfl) HZ.out;refine bodyPost_ret (v:= .agg (aZ cLe)) (by simp [results,Tryz.results39,asAddr,hl]) rfl ⟨rfl,?_⟩;have hb:=HB.out;have hi:=HI.out;exact hb.trans ⟨hi.os,hi.tape,hi.output,hi.size,fun k hk=>hi.block k (Nat.lt_of_lt_of_le hk hb.size) (by simp only [List.mem_singleton];omega)⟩
theorem Fv:Okc cLe:=⟨by unfold Cf.Right Cf.Shape Cf.few Cf.inn Cf.out cLe;decide,by decide,by decide⟩
theorem Iy:bQ cLe qm:=⟨Fv.1,fun _=>⟨fun p hp=>(by cases hp),rfl,rfl,rfl,by decide,fun i a b ha=>(by cases ha)⟩,fun h=>absurd rfl h⟩
def tE:List Bool:=[true,true,false,false,false,false,false,false,false]
def fE:Nat->List UInt8:=upF (fls (zer cLe)) 1 (aJ cLe qm)
theorem K5 {k:Nat} {E:Int} {tb':List Bool} {f':Nat->List UInt8} (h:MkP cLe (tbN 9) (fls (zer cLe)) qm true k E tb' f'):k=1/\E=0/\tb'=tE/\f'=fE:=by
 rcases h with ⟨h,-⟩|⟨-,h,-⟩|⟨-,h,rfl,rfl⟩
 . cases h
 . exact absurd h (by decide)
 . have hg:Got (tbN 9) 1 tE [1]:=⟨2,by decide,by decide,by decide,rfl⟩
   obtain ⟨rfl,h2⟩:=h.one hg;obtain rfl:k=1:=(by simpa using h2);exact ⟨rfl,rfl,rfl,rfl⟩
theorem le_none {n:Nd} {E:Int} (h:LdP cLe fE 2 n E):n=qm/\E=12:=by
 rcases h with ⟨-,h⟩|⟨h,-⟩
 . have hf:fE 2=List.replicate 200 0:=by
    unfold fE upF;rw [if_neg (by decide)];unfold fls zer;rw [List.getElem?_replicate,if_pos (by decide)];rfl
   rw [hf] at h;exact h.one (.inr (.inl ⟨Fv.1,fun m hm=>qP _ _ _ hm.2,rfl,rfl⟩))
 . exact absurd (show thr cLe 2 from by decide) h
theorem Fw (w:World):NdA w qm ⟨none,0,none,0,none,0,none,0⟩:=⟨gK.nil w,⟨by decide,by decide,by decide,by decide,fun p hp=>(by cases hp),fun p hp=>(by cases hp),fun p hp=>(by cases hp)⟩,fun k hk=>by cases hk⟩
theorem vR (W:World) (hT:Tab W):CB 8 #[] W (.bool true):=by
 have cL:=fun w=>hid (Fu w);have cB:∀{w},Bw W w->Hid (Calls Tryz.prog 9 #[.agg (aZ cLe)] w fun e w'=>Ot W w w' cLe e):=fun hb=>yg Fv hT hb
 have cM:∀{w F z},Sv W w F z cLe (tbN 9) 0 (kpF 0) (fls (zer cLe)) 0 0 0->Hid (Calls Tryz.prog 34 #[z.p,.agg #[(0:Int),(),(),(),()]] w fun e w'=>e=.returned (.tuple #[.int .u32 1,(0:Int)])/\∃F' r s,Sv W w' F' z cLe tE 0 (kpF 0) fE 2 r s):=fun h=>(Jo h Fv hT (Nat.zero_le _) (Fw _) true ⟨fun _=>Iy,fun _=>rfl⟩).mono fun e w' ⟨k,E,tb',f',he,hm,F',r,s,hs,_⟩=>by
  obtain ⟨rfl,rfl,rfl,rfl⟩:=K5 hm;exact ⟨he,F',r,s,hs⟩
 have cD:∀{w F z r s},Sv W w F z cLe tE 0 (kpF 0) fE 2 r s->Hid (Calls Tryz.prog 14 #[z.p,.int .u32 2] w fun e w'=>(∃a,e=.returned (.tuple #[.agg (bL qm a),(12:Int)]))/\∃F' r' s',Sv W w' F' z cLe tE 0 (kpF 0) fE 4 r' s'):=fun h=>(Jk h Fv hT (by decide) 2 (by decide)).mono fun e w' ⟨⟨n,E,a,he,_,hd⟩,F',r,s,hs,_⟩=>by
  obtain ⟨rfl,rfl⟩:=le_none hd;exact ⟨⟨a,he⟩,F',r,s,hs⟩
 have cF:∀{w F z r s},Sv W w F z cLe tE 0 (kpF 0) fE 4 r s->Hid (CW 17 #[z.p] w (.int .i64 7)):=fun h=>Jb h
 have cH:∀{w F z r s},Sv W w F z cLe tE 0 (kpF 0) fE 4 r s->Hid (CB 22 #[z.p,.int .u32 1] w (.bool true)):=fun h=>M8 h hT 1 (by decide)
 go_enter Tryz.func8,Tryz.ntmps8
 go_upto_region 5 with (first
  |(go_at_call 39;refine (cL _).out.mono ?_;rintro e w1 ⟨rfl,hb⟩;have HB:=hid hb;clear hb cL)
  |(go_at_call 9;refine (cB HB.out).out.mono ?_;rintro e w2 ⟨⟨F,z,rfl,hs⟩,-⟩;have HS:=hid hs;clear hs cB HB)
  |(go_at_call 34;refine (cM HS.out).out.mono ?_;rintro e w3 ⟨rfl,F3,r3,s3,hs⟩;have HS3:=hid hs;clear hs cM HS))
 go_upto_region 6 with (first
  |(go_at_call 14;refine (cD HS3.out).out.mono ?_;rintro e w4 ⟨⟨a,rfl⟩,F4,r4,s4,hs⟩;have HS4:=hid hs;clear hs cD HS3)
  |(refine aK rfl (.tmp 5) (.tmp 23) 43 rfl rfl w4.heap.size #[.int .i64 0,.slice none 0 0,.slice none 0 0,.slice none 0 0,.slice none 0 0] (bL qm a) (Jj rfl) rfl (qN qm a) rfl rfl (bf.new _ _ _) ?_;intro w5 HZ hi;have HI:=hid hi;clear hi HZ))
 have hb5:Bw w4 w5:=by
  have hi:=HI.out;have hz:(w4.alloc (.cells #[(0:Int),(),(),(),()] 43)).heap.size=w4.heap.size+1:=by simp
  have h0:Bw w4 (w4.alloc (.cells #[(0:Int),(),(),(),()] 43)):=bAx;exact h0.trans ⟨hi.os,hi.tape,hi.output,hi.size,fun k hk=>hi.block k (by omega) (by simp only [List.mem_singleton];omega)⟩
 have cF5:=cF (HS4.out.kept hT hb5);have cH5:=cH (HS4.out.kept hT hb5);have HS5:=hid (HS4.out.kept hT hb5);clear HS4 HI hb5 cF cH
 go_wp2_with (first
  |(go_at_call 17;refine cF5.out.mono ?_;rintro e w6 ⟨rfl,rfl⟩)
  |(go_at_call 22;refine cH5.out.mono ?_;rintro e w7 ⟨rfl,hb⟩;have HB7:=hid (HS5.out.kept hT hb).below;clear hb))
 go_ret
 exact ⟨rfl,HB7.out⟩
end
end Sh
end Go.Proofs.YtjpjjnalpdpljaaGreatDoor
namespace Go.Proofs.YtjpjjnalpdpljaaGreatDoor
open Go.RowKit
namespace Sh
open Mem No Bt Po
open Ca (upF)
theorem kK.one {s s1 s2:Ds} {x:Ac} {r:Bool} {k1 k2:Nat} {e1 e2:Int} (h:kK s x r s1 k1 e1) (h':kK s x r s2 k2 e2) (hf:∀t j,Got s.held 1 t [j]->free s.held≠0):s1=s2/\k1=k2/\e1=e2:=by
 unfold kK at h h';rcases h with ⟨hk,a,b,c⟩|⟨hk,hr,a,b,c⟩|⟨hk,hr,h0,a,b,c⟩|⟨hk,hr,⟨t,hg,a⟩,c⟩|⟨hk,a,b,c⟩|⟨hk,a,b,c⟩|⟨hk,a,b,c⟩|⟨hk,a,b,c⟩<;>
 rcases h' with ⟨hk',a',b',c'⟩|⟨hk',hr',a',b',c'⟩|⟨hk',hr',h0',a',b',c'⟩|⟨hk',hr',⟨t',hg',a'⟩,c'⟩|⟨hk',a',b',c'⟩|⟨hk',a',b',c'⟩|⟨hk',a',b',c'⟩|⟨hk',a',b',c'⟩<;>
 first
  |exact ⟨a.trans a'.symm,b.trans b'.symm,c.trans c'.symm⟩
  |(exfalso;omega)
  |exact absurd (hr.symm.trans hr') (by decide)
  |exact absurd h0 (hf _ _ hg')
  |exact absurd h0' (hf _ _ hg)
  |skip
 obtain ⟨rfl,hj⟩:=hg.one hg';obtain rfl:k1=k2:=by simpa using hj
 exact ⟨a.trans a'.symm,rfl,c.trans c'.symm⟩
def K6 (s:Ds) (x:Ac) (r:Bool) (k:Nat) (e:Int) (f f':Nat->List UInt8):Prop:=
 ((x.kd=0\/x.kd=1)/\e=0/\there s x.i/\r=true/\f'=upF f x.i (aJ s.c x.n))\/
 (x.kd=2/\e=0/\f'=upF f k (aJ s.c x.n))\/
 (x.kd=3/\e=0/\∃z,f'=upF f x.i z)\/
 ((x.kd=0\/x.kd=1\/x.kd=2\/x.kd=3->e≠0)/\f'=f)
section
variable {W:World} {s s':Ds} {x:Ac} {r:Bool} {k M:Nat} {e:Int} {f f':Nat->List UInt8}
theorem Sr.step (h:Sr W s M f) (hw:kK s x r s' k e) (hf:K6 s x r k e f f') (hr:r=true->bQ s.c x.n) (hn:NdW W x.n x.a):Sr W s' M f':=by
 have put:∀(hd:List Bool) (kp i:Nat),r=true->Sr W (vH { s with held:=hd,kept:=kp } i ⟨1,x.n,x.a⟩) M (upF f i (aJ s.c x.n)):=fun hd kp i hr1=>h.put (.inr (.inl ⟨rfl,hr hr1,rfl,hn⟩))
 rcases hw with ⟨hk,rfl,-,he⟩|⟨hk,hr0,rfl,-,he⟩|⟨hk,hr0,h0,rfl,-,he⟩|⟨hk,hr0,⟨t,hg,rfl⟩,he⟩|⟨hk,rfl,-,he⟩|⟨hk,rfl,-,he⟩|⟨hk,rfl,-,he⟩|⟨hk,rfl,-,he⟩
 . rcases hf with ⟨-,h1,h2,h3,rfl⟩|⟨h1,-,-⟩|⟨h1,-,-⟩|⟨h1,rfl⟩
   . unfold svS
     rw [if_pos h2,if_pos h3];exact put s.held s.kept x.i h3
   . omega
   . omega
   . have h2:=h1 (by omega)
     unfold svS;split
     . rename_i ht
       split
       . rename_i hr1
         refine absurd ?_ h2;rw [he];unfold svE;rw [if_pos ht,if_pos hr1]
       . exact h
     . exact h
 . rcases hf with ⟨h1,-⟩|⟨-,h1,-⟩|⟨h1,-⟩|⟨-,rfl⟩
   . omega
   . omega
   . omega
   . exact h
 . rcases hf with ⟨h1,-⟩|⟨-,h1,-⟩|⟨h1,-⟩|⟨-,rfl⟩
   . omega
   . omega
   . omega
   . exact h
 . rcases hf with ⟨h1,-⟩|⟨-,-,rfl⟩|⟨h1,-⟩|⟨h1,rfl⟩
   . omega
   . exact put t s.kept k hr0
   . omega
   . exact absurd he (h1 (by omega))
 . rcases hf with ⟨h1,-⟩|⟨h1,-⟩|⟨-,h1,z,rfl⟩|⟨h1,rfl⟩
   . omega
   . omega
   . unfold frE at he
     unfold frS;split at he
     . rename_i ht
       rw [if_pos ht];split at he
       . omega
       . rename_i hkp
         rw [if_neg hkp,if_pos (by omega)];exact h.put (hd:=gvT s.held x.i) (k:=s.kept) (.inr (.inr rfl))
     . omega
   . have h2:=h1 (by omega)
     unfold frE at he;unfold frS;split at he
     . rename_i ht
       rw [if_pos ht];split at he
       . rename_i hkp
         rw [if_pos hkp];exact h
       . rename_i hkp
         rw [if_neg hkp,if_neg (by omega)];exact h
     . rename_i ht
       rw [if_neg ht];exact h
 . rcases hf with ⟨h1,-⟩|⟨h1,-⟩|⟨h1,-⟩|⟨-,rfl⟩
   . omega
   . omega
   . omega
   . obtain ⟨hL,hl,-⟩:=pV (s:=s) (i:=x.i)
     exact h.same hl hL.c
 . rcases hf with ⟨h1,-⟩|⟨h1,-⟩|⟨h1,-⟩|⟨-,rfl⟩
   . omega
   . omega
   . omega
   . obtain ⟨hL,hl,-⟩:=tJ (s:=s) (i:=x.i)
     exact h.same hl hL.c
 . rcases hf with ⟨h1,-⟩|⟨h1,-⟩|⟨h1,-⟩|⟨-,rfl⟩
   . omega
   . omega
   . omega
   . exact h
end
end Sh
end Go.Proofs.YtjpjjnalpdpljaaGreatDoor
namespace Go.Proofs.YtjpjjnalpdpljaaGreatDoor
open Go.RowKit
namespace Sh
open Mem No Bt Po
open Ca (upF Few)
def Both (s:Ds) (x:Ac) (t:Bool) (f:Nat->List UInt8) (k:Nat) (E:Int) (tb':List Bool) (kp':Nat) (f':Nat->List UInt8):Prop:=∃s',kK s x t s' k E/\K6 s x t k E f f'/\s'.held=tb'/\s'.kept=kp'
section
variable {s:Ds} {x:Ac} {t:Bool} {f f':Nat->List UInt8} {k:Nat} {E:Int} {tb':List Bool}
theorem Fx (hk:x.kd=0\/x.kd=1):Both s x t f 0 (if thr s.c x.i then (if t=true then 0 else 3) else 4) s.held s.kept (if thr s.c x.i/\t=true then upF f x.i (aJ s.c x.n) else f):=by
 obtain ⟨-,h1,h2⟩:=mX (s:=s) (i:=x.i) (r:=t) (n:=x.n) (a:=x.a);refine ⟨_,.inl ⟨hk,rfl,rfl,rfl⟩,?_,h1,h2⟩;by_cases h:thr s.c x.i/\t=true
 . rw [if_pos h,if_pos h.1,if_pos h.2]
   exact .inl ⟨hk,rfl,h.1,h.2,rfl⟩
 . rw [if_neg h]
   refine .inr (.inr (.inr ⟨fun _=>?_,rfl⟩));by_cases h1:thr s.c x.i
   . rw [if_pos h1,if_neg (fun hh=>h ⟨h1,hh⟩)]
     decide
   . rw [if_neg h1]
     decide
theorem K7 (hk:x.kd=2) (h:MkP s.c s.held f x.n t k E tb' f'):Both s x t f k E tb' s.kept f':=by
 rcases h with ⟨h1,rfl,rfl,rfl,rfl⟩|⟨h1,h2,rfl,rfl,rfl,rfl⟩|⟨h1,h2,rfl,rfl⟩
 . exact ⟨s,.inr (.inl ⟨hk,h1,rfl,rfl,rfl⟩),.inr (.inr (.inr ⟨fun _=>by decide,rfl⟩)),rfl,rfl⟩
 . exact ⟨s,.inr (.inr (.inl ⟨hk,h1,h2,rfl,rfl,rfl⟩)),.inr (.inr (.inr ⟨fun _=>by decide,rfl⟩)),rfl,rfl⟩
 . exact ⟨_,.inr (.inr (.inr (.inl ⟨hk,h1,⟨tb',h2,rfl⟩,rfl⟩))),.inr (.inl ⟨hk,rfl,rfl⟩),rfl,rfl⟩
theorem K8 (hk:x.kd=3) (h:FrP s.held f x.i (K3 s.c s.held s.kept x.i) tb' f'):Both s x t f 0 (K3 s.c s.held s.kept x.i) tb' s.kept f':=by
 have hE:K3 s.c s.held s.kept x.i=frE s x.i:=rfl;obtain ⟨-,h2⟩:=tK (s:=s) (i:=x.i);refine ⟨frS s x.i,.inr (.inr (.inr (.inr (.inl ⟨hk,rfl,rfl,hE⟩)))),?_,?_,h2⟩
 . rcases h with ⟨h1,-,rfl⟩|⟨h1,-,h3⟩
   . exact .inr (.inr (.inr ⟨fun _=>h1,rfl⟩))
   . exact .inr (.inr (.inl ⟨hk,h1,h3⟩))
 . rw [hE] at h
   unfold frE at h;unfold frS;by_cases h1:there s x.i
   . rw [if_pos h1] at h ⊢
     by_cases h3:x.i=s.kept
     . rw [if_pos h3] at h ⊢
       rcases h with ⟨-,rfl,-⟩|⟨h4,-⟩
       . rfl
       . cases h4
     . rw [if_neg h3] at h ⊢
       rcases h with ⟨h4,rfl,-⟩|⟨h4,rfl,-⟩
       . rw [if_neg h4]
       . rw [if_pos h4]
         rfl
   . rw [if_neg h1] at h ⊢
     rcases h with ⟨-,rfl,-⟩|⟨h4,-⟩
     . rfl
     . cases h4
theorem K9 (hk:x.kd=4):Both s x t f 0 (if thr s.c x.i then mZ s.held x.i else 4) (if thr s.c x.i then jQ s.held x.i else s.held) s.kept f:=by
 obtain ⟨-,-,h2⟩:=pV (s:=s) (i:=x.i);refine ⟨mrS s x.i,.inr (.inr (.inr (.inr (.inr (.inl ⟨hk,rfl,rfl,rfl⟩))))),.inr (.inr (.inr ⟨fun hh=>by omega,rfl⟩)),?_,h2⟩;unfold mrS;by_cases h1:thr s.c x.i
 . rw [if_pos h1,if_pos (show there s x.i from h1)]
 . rw [if_neg h1,if_neg (show ¬there s x.i from h1)]
theorem La (hk:x.kd=5):Both s x t f 0 (Oq s.c x.i) s.held (NG s.c s.kept x.i) f:=by
 obtain ⟨-,-,h2⟩:=tJ (s:=s) (i:=x.i);refine ⟨kpS s x.i,.inr (.inr (.inr (.inr (.inr (.inr (.inl ⟨hk,rfl,rfl,rfl⟩)))))),.inr (.inr (.inr ⟨fun hh=>by omega,rfl⟩)),h2,?_⟩;unfold kpS NG;by_cases h1:0<x.i/\¬thr s.c x.i
 . rw [if_pos h1,if_pos (show 0<x.i/\¬there s x.i from h1)]
 . rw [if_neg h1,if_neg (show ¬(0<x.i/\¬there s x.i) from h1)]
theorem Fy (hk:x.kd<0\/5<x.kd):Both s x t f 0 0 s.held s.kept f:=⟨s,.inr (.inr (.inr (.inr (.inr (.inr (.inr ⟨hk,rfl,rfl,rfl⟩)))))),.inr (.inr (.inr ⟨fun hh=>by omega,rfl⟩)),rfl,rfl⟩
def tL (x:Ac) (kp:Nat):Nat:=if x.kd=5 then (if x.i=kp then 0 else 1) else 0
def tN (c:Cfg) (x:Ac) (kp:Nat):Nat:=if x.kd=0\/x.kd=1\/x.kd=2 then 1 else if x.kd=5 then (if x.i=kp then 0 else 1) else if x.kd=6 then c.frames.toNat else 0
end
end Sh
end Go.Proofs.YtjpjjnalpdpljaaGreatDoor
