import Derived.Test.YtjpjjnalpdpljaaGreatDoorPqCodeD6
set_option maxHeartbeats 8000000
set_option maxRecDepth 100000
namespace Go.Proofs.YtjpjjnalpdpljaaGreatDoor
open Go.RowKit
open Go.Lib (hid)
open ah (dL)
open ah.aS (cell)
open List (drop_zero mem_singleton)
namespace No
open Mem Lx Bu Lf Fa
open Wd (be val aD dY isW St bF bC bD bW Only Rd)
def NS (w:World) (b:Nat) (v0 v1 v2 v3 v4 v5 v6 v7 v8:Value):World:=((((((((w.setCell ⟨b,0,none⟩ v0).setCell ⟨b,1,none⟩ v1).setCell ⟨b,2,none⟩ v2).setCell ⟨b,3,none⟩ v3).setCell ⟨b,4,none⟩ v4).setCell ⟨b,5,none⟩ v5).setCell ⟨b,6,none⟩ v6).setCell ⟨b,7,none⟩ v7).setCell ⟨b,8,none⟩ v8
theorem Lj {w:World} {b:Nat} {u0 u1 u2 u3 u4 u5 u6 u7 u8:Value} {U:TypeId} (h:w.heap[b]? =some (.cells #[u0,u1,u2,u3,u4,u5,u6,u7,u8] U (0,0))) (v0 v1 v2 v3 v4 v5 v6 v7 v8:Value):(NS w b v0 v1 v2 v3 v4 v5 v6 v7 v8).heap[b]? =some (.cells #[v0,v1,v2,v3,v4,v5,v6,v7,v8] U (0,0)):=by
 unfold NS;simp [World.setCell,Array.getElem?_modify,h]
theorem FP (w:World) (b:Nat) (v0 v1 v2 v3 v4 v5 v6 v7 v8:Value):Flow.Into [b] w (NS w b v0 v1 v2 v3 v4 v5 v6 v7 v8):=by
 unfold NS;exact Wd.aV (Wd.aV (Wd.aV (Wd.aV (Wd.aV (Wd.aV (Wd.aV (Wd.aV (Wd.aV (Flow.Into.refl _ _) _ _) _ _) _ _) _ _) _ _) _ _) _ _) _ _) _ _
section
variable {W w w':World} {g q b:Nat} {X Y:Obj} {s:St}
theorem Bx2.fI (h:Bx2 W g X Y w) (ho:Flow.Into [q] w w') (hW:W.heap.size<=g) (hq:g+1<q):Bx2 W g X Y w':=by
 have h1:=(Array.getElem?_eq_some_iff.1 h.y).1;refine ⟨⟨ho.os.trans h.below.os,ho.tape.trans h.below.tape,ho.output.trans h.below.output,Nat.le_trans h.below.size ho.size,fun k hk=>(ho.block k (Nat.lt_of_lt_of_le hk h.below.size) ?_).trans (h.below.block k hk)⟩,(ho.block g (by omega) ?_).trans h.x,(ho.block (g+1) h1 ?_).trans h.y⟩<;>simp only [mem_singleton]<;>omega
end
def NdT (c:Cfg) (s:St) (w0:World) (q:Nat) (lv:Int) (z:At) (kn pn bn qn:Nat) (ok:Bool) (w:World):Prop:=∃n s',(n.lv=lv/\n.kids.length=kn/\n.piv.length=pn/\n.buf.length=bn/\n.prs.length=qn)/\NdV w w0.heap.size n z/\Rd 175 w q s'/\Only q w0 w/\(ok=true->NdP c s n s')/\(ok=false->∀n' s'',¬NdP c s n' s'')
def NT (B:Nat) (b:List UInt8) (v:Value) (w:World):Prop:=∃q,v= .pointer (some ⟨q,0,none⟩)/\Rd 175 w q ⟨b,0⟩/\B<=q
def QN (w0:World) (b:Nat) (C:Array Value) (v:Value) (w:World):Prop:=v=undef/\w.heap[b]? =some (.cells C 43 (0,0))/\Flow.Into [b] w0 w
theorem tQ {α:Type} {f:St->St × α} {P:α->Prop} (h:∀s,P (f s).2) (k:Nat) (s:St):∀x∈(rdS f k s).2,P x:=by
 induction k with
 |zero=>simp [rdS]
 |succ k ih=>
  intro x hx;rcases List.mem_append.1 hx with hx|hx
  . exact ih x hx
  . obtain rfl:=mem_singleton.1 hx
    exact h _
theorem IE (s:St) (n m:Int):(bW s n m).2.length<=n.toNat:=by
 unfold bW;split
 . simp
 . split
   . simp
   . split
     . rw [List.length_take]
       omega
     . simp
theorem zM (s:St) (n:Nat) (m:Int) (hn:n<4294967296):(strOf (bW s (n:Int) m).2).size<=maxLen:=by
 have h:=IE s (n:Int) m;rw [l7];unfold maxLen;omega
theorem zN (c:Cfg) (s:St):(kH c s).2.1.size<=maxLen:=zM _ _ _ (uH (w:=1) _ rfl (by decide))
theorem NU {c:Cfg} {F Bf Lf K V:Nat} (hs:lD c F Bf Lf K V) (hc:c.bytes<=3000) {s s':St} {n:Nd} (h:NdP c s n s'):Sz n/\n.kids.length<=80/\∀k,k∈n.kids->k<4294967296:=by
 have hF:=hs.f;have hB:=hs.b;have hBu:=hs.buffer;have hFa:=hs.fan;have hLe:=hs.leaf;have hK:=hs.k;have hout:=hs.out;have hL9:Lf*4<=Lf*(3+K+V):=Nat.mul_le_mul_left _ (by omega)
 have hL8:Lf<=1000:=by
  generalize Lf*(3+K+V)=X at*;omega
 obtain ⟨⟨-,hroom⟩,h⟩:=h;rcases h with ⟨h0,rfl,-⟩|⟨h0,rfl,-,-⟩
 . have hl:(oQ c s).2.length=fq s:=dZ _ _
   rcases hroom with ⟨-,h1,-⟩|⟨h1,-⟩
   . exact ⟨⟨by simp,by simp,tQ (fun s=>zN c s) _ _,by simp,by simp,by simp,by simp only;omega⟩,by simp,by simp⟩
   . exact absurd h0 h1
 . have l1:(iK s).2.length=fq s:=dZ _ _
   have l2:(iP c s).2.length=fq s-1:=dZ _ _;have l3:(iM c s).2.length=qj s:=dZ _ _;rcases hroom with ⟨h1,-⟩|⟨-,h1,h2,h3⟩
   . exact absurd h1 h0
   . refine ⟨⟨tQ (P:=fun p:ByteArray=>p.size<=maxLen) (fun s=>zM _ _ _ (uH (w:=1) _ rfl (by decide))) _ _,fun m hm=>?_,by simp,by simp only;omega,by simp only;omega,by simp only [List.length_map];omega,by simp⟩,by simp only;omega,tQ (P:=fun k:Nat=>k<4294967296) (fun s=>uH (w:=4) s rfl (by decide)) _ _⟩
     obtain ⟨x,hx,rfl⟩:=List.mem_map.1 hm;exact tQ (P:=fun x:Nat × Mg=>x.2.1.size<=maxLen) (fun s=>zN c _) _ _ x hx
def lV (c:Cfg) (b:List UInt8) (n:Nd) (ok:Bool):Prop:=(ok=true->aJ c n=b/\(Sz n/\n.kids.length<=80/\∀k,k∈n.kids->k<4294967296)/\∀m,bQ c m->aJ c m=b->m=n)/\(ok=false->∀m,bQ c m->aJ c m≠b)
theorem Bo (c:Cfg) {F Bf Lf' K V:Nat} (hs:lD c F Bf Lf' K V) {A:Option Addr} {cap:Nat} {b:List UInt8} {W:World} (_:BL W A b) (hb:b.length<=4000) (hc:c.bytes<=3000) (hl:b.length≠c.bytes.toNat):Calls Tryz.prog 62 #[.agg (aZ c),.slice A b.length cap] W fun e w'=>∃n z ok,e=.returned (.tuple #[.agg (bL n z),.bool ok])/\gK w' n z/\Bw W w'/\lV c b n ok:=by
 have HN:Hid (lV c b qm false):=⟨fun h=>(by cases h),fun _ m hm e=>by
  have h1:=(iX hm).1;rw [e] at h1
  exact hl h1⟩
 have hY:=hs.bytes;obtain ⟨cB,cY,cF,cN,cU,cL,cKy,cV⟩:=c;obtain ⟨bn,hbn⟩:∃bn,bn=b.length:=⟨_,rfl⟩
 have hne:((bn:Int) != cY)=true:=by
  simp only [bne_iff_ne,ne_eq];simp only at hl hY;omega
 rw [<-hbn];unfold aZ;simp only;clear hb hl hs hbn hY hc;go_enter Tryz.func62,Tryz.ntmps62
 go_upto_region 1 with fail
 have HB:=hid (Bx2.new W (.cells #[cB,cY,cF,cN,cU,cL,cKy,cV] 23) (.cells #[(0:Int),(),(),(),()] 43));have hb1:Bw W ((W.alloc (.cells #[cB,cY,cF,cN,cU,cL,cKy,cV] 23)).alloc (.cells #[(0:Int),(),(),(),()] 43)):=(Bx2.new W (.cells #[cB,cY,cF,cN,cU,cL,cKy,cV] 23) (.cells #[(0:Int),(),(),(),()] 43)).below;generalize (W.alloc (.cells #[cB,cY,cF,cN,cU,cL,cKy,cV] 23)).alloc (.cells #[(0:Int),(),(),(),()] 43)=w1 at*;obtain ⟨g,hg⟩:∃g,g=W.heap.size:=⟨_,rfl⟩
 rw [<-hg] at HB;have HWG:Hid (W.heap.size<=g):=Nat.le_of_eq hg.symm;simp only [<-hg];clear hg;obtain ⟨g0,g1,g2,g3,g4,g5,g6,g7⟩:=aT HB.out.x;obtain ⟨y0,y1,y2,y3,y4⟩:=aG HB.out.y;have f0:=bG HB.out.y 0;have f1:=bG HB.out.y 1;have f2:=bG HB.out.y 2;have f3:=bG HB.out.y 3;have f4:=bG HB.out.y 4
 have HU:=hid (eP HB.out.y (.int .i64 0) (.slice none 0 0) (.slice none 0 0) (.slice none 0 0) (.slice none 0 0));have HBW:=hid (fM HB.out.below (Nat.le_succ_of_le HWG.out) (.int .i64 0) (.slice none 0 0) (.slice none 0 0) (.slice none 0 0) (.slice none 0 0));unfold sN at HU HBW;go_wp2_with fail
 generalize ((((w1.setCell ⟨g+1,0,none⟩ (0:Int)).setCell ⟨g+1,1,none⟩ ()).setCell ⟨g+1,2,none⟩ ()).setCell ⟨g+1,3,none⟩ ()).setCell ⟨g+1,4,none⟩ ()=w91 at*;clear y0 y1 y2 y3 y4 f0 f1 f2 f3 f4 g0 g1 g2 g3 g4 g5 g6 g7;obtain ⟨y0,y1,y2,y3,y4⟩:=aG HU.out;exact bodyPost_ret (v:= .tuple #[.agg #[(0:Int),(),(),(),()],.bool false]) (by simp [results,Tryz.results62,go_sem,y0,y1,y2,y3,y4]) rfl ⟨qm,⟨none,0,none,0,none,0,none,0⟩,false,rfl,gK.nil _,HBW.out,HN.out⟩
theorem Fb (c:Cfg) {F Bf Lf' K V:Nat} (hs:lD c F Bf Lf' K V) {A:Option Addr} {cap:Nat} {b:List UInt8} {W:World} (h:BL W A b) (hb:b.length<=4000) (hc:c.bytes<=3000) (hl:b.length=c.bytes.toNat):Calls Tryz.prog 62 #[.agg (aZ c),.slice A b.length cap] W fun e w'=>∃n z ok,e=.returned (.tuple #[.agg (bL n z),.bool ok])/\gK w' n z/\Bw W w'/\lV c b n ok:=by
 have hY:=hs.bytes;have cOp:∀w,Bw W w->Hid (Calls Tryz.prog 100 #[.slice A b.length cap] w fun e w'=>∃g,e=.returned (g:Nat)/\Rd 175 w' g ⟨b,0⟩/\w.heap.size<=g/\Bw w w'):=fun w hw=>Wd.Gn A cap b w (h.below hw) (by omega)
 have cNd:∀w q,Rd 175 w q ⟨b,0⟩->Hid (Calls Tryz.prog 101 #[.agg (ji c q)] w fun e w'=>∃lv kA kn kc pA pn pc bA bn bc qA qn qc ok,e=.returned (.tuple #[.agg #[(lv:Int),.slice kA kn kc,.slice pA pn pc,.slice bA bn bc,.slice qA qn qc],.bool ok])/\NdT c ⟨b,0⟩ w q lv ⟨kA,kc,pA,pc,bA,bc,qA,qc⟩ kn pn bn qn ok w'):=fun w q hr=>(FN c hs hr).mono fun e w' ⟨n,z,ok,s',he,h1,h2,h3,h4,h5⟩=>⟨n.lv,z.kA,n.kids.length,z.kc,z.pA,n.piv.length,z.pc,z.bA,n.buf.length,z.bc,z.qA,n.prs.length,z.qc,ok,he,n,s',⟨rfl,rfl,rfl,rfl,rfl⟩,h1,h2,h3,h4,h5⟩
 have wu:Hid (∀n s',NdP c ⟨b,0⟩ n s'->(bD s' s'.b.length).e=0->lV c b n true):=fun n s' h1 h2=>⟨fun _=>⟨Ie hs hl h1 h2,NU hs hc h1,fun m hm e=>by
  obtain ⟨s'',h3,-⟩:=kI hm;rw [e] at h3
  exact (h1.one h3).1.symm⟩,fun h=>by cases h⟩
 have PS:Hid (∀n,(∀n' s'',¬NdP c ⟨b,0⟩ n' s'')->lV c b n false):=fun n h1=>⟨fun h=>(by cases h),fun _ m hm e=>by
  obtain ⟨s'',h2,-⟩:=kI hm;rw [e] at h2
  exact h1 m s'' h2⟩
 have PU:Hid (∀n s',NdP c ⟨b,0⟩ n s'->(bD s' s'.b.length).e≠0->lV c b n false):=fun n s' h1 h2=>⟨fun h=>(by cases h),fun _ m hm e=>by
  obtain ⟨s'',h3,h4⟩:=kI hm;rw [e] at h3;obtain ⟨-,rfl⟩:=h1.one h3
  exact h2 h4⟩
 generalize hER:lV c b=ER at*;obtain ⟨cB,cY,cF,cN,cU,cL,cKy,cV⟩:=c;obtain ⟨bl,hbn⟩:∃bl,bl=b.length:=⟨_,rfl⟩
 have hne:((bl:Int) != cY)=false:=by
  simp only [bne_eq_false_iff_eq];simp only at hl hY;omega
 rw [<-hbn] at cOp ⊢;unfold aZ;unfold ji at cNd;simp only at cNd ⊢;clear h hb hl hs hbn hY hER hc;go_enter Tryz.func62,Tryz.ntmps62
 go_upto_region 1 with fail
 have HB:=hid (Bx2.new W (.cells #[cB,cY,cF,cN,cU,cL,cKy,cV] 23) (.cells #[(0:Int),(),(),(),()] 43));have hb1:Bw W ((W.alloc (.cells #[cB,cY,cF,cN,cU,cL,cKy,cV] 23)).alloc (.cells #[(0:Int),(),(),(),()] 43)):=(Bx2.new W (.cells #[cB,cY,cF,cN,cU,cL,cKy,cV] 23) (.cells #[(0:Int),(),(),(),()] 43)).below;generalize (W.alloc (.cells #[cB,cY,cF,cN,cU,cL,cKy,cV] 23)).alloc (.cells #[(0:Int),(),(),(),()] 43)=w1 at*;obtain ⟨g,hg⟩:∃g,g=W.heap.size:=⟨_,rfl⟩
 rw [<-hg] at HB;have HWG:Hid (W.heap.size<=g):=Nat.le_of_eq hg.symm;simp only [<-hg];clear hg;obtain ⟨g0,g1,g2,g3,g4,g5,g6,g7⟩:=aT HB.out.x;go_upto_region 3 with fail
 have HS1:Hid (g+1<w1.heap.size):=(Array.getElem?_eq_some_iff.1 HB.out.y).1;have t0:=fun td:ah.aS [] w1 []=>cell g0 (by simp) td;have t1:=fun td:ah.aS [] w1 []=>cell g1 (by simp) td;have t2:=fun td:ah.aS [] w1 []=>cell g2 (by simp) td;have t3:=fun td:ah.aS [] w1 []=>cell g3 (by simp) td;have t4:=fun td:ah.aS [] w1 []=>cell g4 (by simp) td;have t5:=fun td:ah.aS [] w1 []=>cell g5 (by simp) td;have t6:=fun td:ah.aS [] w1 []=>cell g6 (by simp) td;have t7:=fun td:ah.aS [] w1 []=>cell g7 (by simp) td;clear g0 g1 g2 g3 g4 g5 g6 g7 hne;refine ah.aj [] [(0,[]),(1,[]),(2,[4]),(3,[]),(4,[])] [2] [4] (by kernel_rfl) (by kernel_rfl) (by simp) ?_;simp only [ah.pick,ah.aO,List.getElem?_toArray,List.getElem?_cons_zero,List.getElem?_cons_succ,List.cons_append,List.nil_append,List.filterMap_cons,List.filterMap_nil]
 repeat (refine ah.ak (fun K hK=>?_);go_simp;(refine hK _ ?_;clear hK K))
 refine ah.aN rfl (ah.gQ rfl (fun b=> .pointer (some ⟨b,0,none⟩)) (.cells #[(0:Int),(0:Int),(0:Int),(0:Int),(0:Int),(0:Int),(0:Int),(0:Int),.pointer none] 148) (fun W=>by go_simp) fun b hb=>ah.aF) (NT w1.heap.size b) (fun W2 hk9 _=>?_) (fun v w2 hv hI _ hTd=>?_)
 . go_simp
   go_at_call 100
   refine (cOp _ (hb1.trans (hk9.mono hb1.size))).out.mono ?_;rintro e w' ⟨q,rfl,hr,hq,hb⟩;exact ⟨_,rfl,⟨q,rfl,hr,Nat.le_trans hk9.size hq⟩,Flow.Into.of_below hb⟩
 obtain ⟨q,rfl,hr,hq⟩:=hv;replace HB:=hid (HB.out.kept hI.below);have HQ:Hid (g+1<q):=Nat.lt_of_lt_of_le HS1.out hq;have HS2:Hid (g+1<w2.heap.size/\q<w2.heap.size/\w1.heap.size<=w2.heap.size):=⟨(Array.getElem?_eq_some_iff.1 HB.out.y).1,hr.lt,hI.size⟩;clear hI hTd t0 t1 t2 t3 t4 t5 t6 t7 cOp hb1 hq
 repeat (refine ah.ak (fun K hK=>?_);go_simp;first|(refine hK _ ?_;clear hK K)|(refine ⟨_,fun _=>rfl,hK _ ?_⟩;clear hK K))
 refine ah.dF rfl ah.aF (fun b=> .pointer (some ⟨b,0,none⟩)) (.cells #[(0:Int),(0:Int),(0:Int),(0:Int),(0:Int),(0:Int),(0:Int),(0:Int),.pointer none] 148) (fun W=>by go_simp) (fun rb hrb hT1=>?_);refine ah.walk_nil ?_;intro w3 hb3 hl3;have hx3:=hl3 (rb,.cells #[(0:Int),(0:Int),(0:Int),(0:Int),(0:Int),(0:Int),(0:Int),(0:Int),.pointer none] 148) (by simp);replace HB:=hid (HB.out.kept hb3);have HR:=hid (hr.keep hb3);have HRB:Hid (g+1<rb/\rb≠q):=⟨Nat.lt_of_lt_of_le HS1.out hrb,L9 HR.out hx3 (by decide)⟩;clear hr hb3 hl3 hT1 hrb HS1 HS2;have hi4:=FP w3 rb (.int .i64 cB) (.int .i64 cY) (.int .i64 cF) (.int .i64 cN) (.int .i64 cU) (.int .i64 cL) (.int .i64 cKy) (.int .i64 cV) (.pointer (some ⟨q,0,none⟩));have hx4:=Lj hx3 (.int .i64 cB) (.int .i64 cY) (.int .i64 cF) (.int .i64 cN) (.int .i64 cU) (.int .i64 cL) (.int .i64 cKy) (.int .i64 cV) (.pointer (some ⟨q,0,none⟩));have HR4:=hid (oN HR.out hi4 HRB.out.2 hx3 (by decide));have HB4:=hid (HB.out.fI hi4 HWG.out HRB.out.1);have HX4:=hid hx4;obtain ⟨x0,x1,x2,x3,x4,x5,x6,x7,x8⟩:=j4 hx3;have fr:=bG hx3;unfold NS at HR4 HB4 HX4;clear HR HB hi4 hx4 hx3;simp only [lC,drop_zero,Nat.zero_add,Nat.reduceAdd];go_upto_region 4 with fail
 clear x0 x1 x2 x3 x4 x5 x6 x7 x8 fr;generalize ((((((((w3.setCell ⟨rb,0,none⟩ cB).setCell ⟨rb,1,none⟩ cY).setCell ⟨rb,2,none⟩ cF).setCell ⟨rb,3,none⟩ cN).setCell ⟨rb,4,none⟩ cU).setCell ⟨rb,5,none⟩ cL).setCell ⟨rb,6,none⟩ cKy).setCell ⟨rb,7,none⟩ cV).setCell ⟨rb,8,none⟩ q=w4 at*;obtain ⟨x0,x1,x2,x3,x4,x5,x6,x7,x8⟩:=j4 HX4.out;go_upto_region 5 with (go_at_call 101;refine (cNd _ _ HR4.out).out.mono ?_;rintro e w5 ⟨lv,kA,kn,kc,pA,pn,pc,bA,bn,bc,qA,qn,qc,ok,rfl,n,s',heq,hnv,hr,ho,hy,hno⟩;have HEQ:=hid heq;have hq4:=HR4.out.lt;have HNV:=hid hnv;have HQ4:=hid hq4;have HR:=hid hr;have HY:=hid hy;have HNO:=hid hno;have HB:=hid (HB4.out.fI ho HWG.out HQ.out);have HX:=hid (rX HX4.out ho HRB.out.2);clear heq hnv hr ho hy hno hq4 cNd HB4 HX4 HR4 x0 x1 x2 x3 x4 x5 x6 x7 x8)
 have hxn:=heap_alloc_new w5 (.cells #[lv,.slice kA kn kc,.slice pA pn pc,.slice bA bn bc,.slice qA qn qc] 43);have hbl:Bw w5 (w5.alloc (.cells #[lv,.slice kA kn kc,.slice pA pn pc,.slice bA bn bc,.slice qA qn qc] 43)):=bAx;have HNB:Hid (g+1<w5.heap.size):=(Array.getElem?_eq_some_iff.1 HB.out.y).1;generalize w5.alloc (.cells #[lv,.slice kA kn kc,.slice pA pn pc,.slice bA bn bc,.slice qA qn qc] 43)=w6 at*;obtain ⟨nb,hnb⟩:∃nb,nb=w5.heap.size:=⟨_,rfl⟩
 rw [<-hnb] at hxn HNB;simp only [<-hnb];have HXN:=hid hxn;replace HB:=hid (HB.out.kept hbl);replace HX:=hid (aC HX.out hbl);replace HR:=hid (HR.out.keep hbl);replace HNV:=hid (HNV.out.kept hbl);have HNQ:Hid (nb≠q):=L9 HR.out HXN.out (by decide);clear hxn hbl hnb;obtain ⟨-,-,-,-,-,-,-,-,x8⟩:=j4 HX.out;have tx8:=fun td:ah.aS [] w6 []=>cell x8 (by simp) td;have cLf:∀w,Rd 175 w q s'->Hid (CB 103 #[q] w (.int .i64 (s'.b.length:Int))):=fun w h=>(Wd.Gm q s' w h).mono fun e w' ⟨he,hw⟩=>⟨he,hw▸Below.refl _ _⟩
 have cZr:=fun w h=>hid (Wd.kU q s' (s'.b.length:Int) w h);obtain ⟨s2,hs2⟩:∃a,bD s' (s'.b.length:Int)=a:=⟨_,rfl⟩
 rw [hs2] at cZr;have HZS:=hid hs2;obtain ⟨ln,hln⟩:∃ln,ln=s'.b.length:=⟨_,rfl⟩
 rw [<-hln] at cLf cZr;clear x8 hs2 hln;refine ah.aj [] [(0,[]),(1,[]),(2,[]),(3,[]),(4,[])] [] [] (by kernel_rfl) (by kernel_rfl) (by simp) ?_;simp only [ah.pick,ah.aO,dL]
 repeat (refine ah.ak (fun K hK=>?_);go_simp;first|(refine hK _ ?_;clear hK K)|(apply Exists.intro;refine ⟨fun td=>?_,hK _ ?_⟩;(go_at_call 103;exact (cLf _ (HR.out.keep td.into.below)).out);clear hK K))
 refine ah.walk_nil ?_;intro w7 hb7 _;replace HB:=hid (HB.out.kept hb7);replace HX:=hid (aC HX.out hb7);replace HXN:=hid (aC HXN.out hb7);replace HR:=hid (HR.out.keep hb7);replace HNV:=hid (HNV.out.kept hb7);clear hb7 tx8 cLf;simp only [lC,drop_zero,Nat.zero_add,Nat.reduceAdd];go_upto_region 6 with (go_at_call 102;refine (cZr _ HR.out).out.mono ?_;rintro e w8 ⟨rfl,hr,ho⟩;replace HR:=hid hr;replace HB:=hid (HB.out.fI ho HWG.out HQ.out);replace HX:=hid (rX HX.out ho HRB.out.2);replace HXN:=hid (rX HXN.out ho HNQ.out);replace HNV:=hid (HNV.out.fI HQ4.out ho);clear hr ho cZr)
 obtain ⟨-,-,-,-,-,-,-,-,x8⟩:=j4 HX.out;obtain ⟨z0,z1,z2,z3,z4⟩:=aG HXN.out;have hgq:g+1≠q:=by have:=HQ.out;omega
 have tx8:=fun td:ah.aS [g+1] w8 []=>cell x8 (by simp;have:=HRB.out.1;omega) td;have tz0:=fun td:ah.aS [g+1] w8 []=>cell z0 (by simp;have:=HNB.out;omega) td;have tz1:=fun td:ah.aS [g+1] w8 []=>cell z1 (by simp;have:=HNB.out;omega) td;have tz2:=fun td:ah.aS [g+1] w8 []=>cell z2 (by simp;have:=HNB.out;omega) td;have tz3:=fun td:ah.aS [g+1] w8 []=>cell z3 (by simp;have:=HNB.out;omega) td;have tz4:=fun td:ah.aS [g+1] w8 []=>cell z4 (by simp;have:=HNB.out;omega) td
 have hS3:∀k,k∈[g+1]->k<w8.heap.size:=fun k hk=>by
  obtain rfl:k=g+1:=by simpa using hk
  exact (Array.getElem?_eq_some_iff.1 HB.out.y).1
 clear x8 z0 z1 z2 z3 z4;cases ok with
 |false=>
  have HER:=hid (PS.out n (HNO.out rfl));have cEr:∀w,Rd 175 w q s2->Hid (CB 104 #[q] w (.int .i64 s2.e)):=fun w h=>(Wd.CU q s2 w h).mono fun e w' ⟨he,hw⟩=>⟨he,hw▸Below.refl _ _⟩
  clear wu PS PU HY HNO HZS;refine ah.aj [g+1] [(0,[]),(1,[]),(2,[]),(3,[]),(4,[]),(5,[]),(6,[]),(7,[]),(8,[])] [8] [] (by kernel_rfl) (by kernel_rfl) hS3 ?_;clear hS3;simp only [ah.pick,ah.aO,dL]
  repeat (refine ah.ak (fun K hK=>?_);go_simp;first|(refine hK _ ?_;clear hK K)|(apply Exists.intro;refine ⟨fun td=>?_,hK _ ?_⟩;(go_at_call 104;exact (cEr _ (oN HR.out td.into hgq HB.out.y (by decide))).out);clear hK K))
  refine ah.aN rfl ah.aF (QN w8 (g+1) #[lv,.slice kA kn kc,.slice pA pn pc,.slice bA bn bc,.slice qA qn qc]) (fun W2 hk9 _=>?_) (fun v w9 hv hI _ hTd=>?_)
  . have hy:=aC HB.out.y hk9
    obtain ⟨e0,e1,e2,e3,e4⟩:=aG hy;(have y0:=bG hy 0;have y1:=bG hy 1;have y2:=bG hy 2;have y3:=bG hy 3;have y4:=bG hy 4);have hs5:=eP hy (.int .i64 lv) (.slice kA kn kc) (.slice pA pn pc) (.slice bA bn bc) (.slice qA qn qc);have hi5:=fH W2 (g+1) (.int .i64 lv) (.slice kA kn kc) (.slice pA pn pc) (.slice bA bn bc) (.slice qA qn qc);unfold sN at hs5 hi5;have HS5:=hid hs5;have HI4:=hid hi5;have HI5:Hid (Flow.Into [g+1] w8 _):=(Flow.Into.of_below hk9).trans hi5;clear hs5 hi5 hy;go_simp
    exact ⟨⟨rfl,HS5.out,HI5.out⟩,HI4.out⟩
  obtain ⟨rfl,av,ai⟩:=hv;clear hI hTd;refine ah.walk_nil ?_;intro w10 yj _;have HU:=hid (aC av yj);replace HNV:=hid ((HNV.out.fill HB.out.y ai).kept yj)
  have HBW:Hid (Bw W w10):=by
   have h1:=HB.out.below;have h3:=HWG.out;have h2:Bw W w9:=⟨ai.os.trans h1.os,ai.tape.trans h1.tape,ai.output.trans h1.output,Nat.le_trans h1.size ai.size,fun k hk=>(ai.block k (Nat.lt_of_lt_of_le hk h1.size) (by simp only [mem_singleton];omega)).trans (h1.block k hk)⟩;exact h2.trans (yj.mono h2.size)
  clear av ai yj tx8 tz0 tz1 tz2 tz3 tz4;simp only [lC,drop_zero,Nat.zero_add,Nat.reduceAdd];go_wp2_with fail
  obtain ⟨y0,y1,y2,y3,y4⟩:=aG HU.out;exact bodyPost_ret (v:= .tuple #[.agg #[lv,.slice kA kn kc,.slice pA pn pc,.slice bA bn bc,.slice qA qn qc],.bool false]) (by simp [results,Tryz.results62,go_sem,y0,y1,y2,y3,y4]) rfl ⟨n,⟨kA,kc,pA,pc,bA,bc,qA,qc⟩,false,by unfold bL;obtain ⟨q1,q2,q3,q4,q5⟩:=HEQ.out;rw [q1,q2,q3,q4,q5],HNV.out.nd,HBW.out,HER.out⟩
 |true=>
  obtain ⟨eb,heb⟩:=bU (s2.e=0)
  have heq:(s2.e==0)=eb:=by
   cases eb with
   |true=>simpa using heb.1 rfl
   |false=>
    (have h9:s2.e≠0:=fun h=>by cases heb.2 h);simpa using h9
  have HER:Hid (ER n eb):=by
   have h9:=HY.out rfl;have h8:=HZS.out;cases eb with
   |true=>exact wu.out n s' h9 (by rw [h8];exact heb.1 rfl)
   |false=>exact PU.out n s' h9 (fun h=>by rw [h8] at h;cases heb.2 h)
  have cEr:∀w,Rd 175 w q s2->Hid (CB 104 #[q] w (.int .i64 s2.e)):=fun w h=>(Wd.CU q s2 w h).mono fun e w' ⟨he,hw⟩=>⟨he,hw▸Below.refl _ _⟩
  generalize hse:s2.e=er at*;clear wu PS PU HY HNO HZS heb hse;refine ah.aj [g+1] [(0,[]),(1,[]),(2,[]),(3,[]),(4,[]),(5,[]),(6,[]),(7,[]),(8,[])] [8] [] (by kernel_rfl) (by kernel_rfl) hS3 ?_;clear hS3;simp only [ah.pick,ah.aO,dL]
  repeat (refine ah.ak (fun K hK=>?_);go_simp;first|(refine hK _ ?_;clear hK K)|(apply Exists.intro;refine ⟨fun td=>?_,hK _ ?_⟩;(go_at_call 104;exact (cEr _ (oN HR.out td.into hgq HB.out.y (by decide))).out);clear hK K))
  refine ah.aN rfl ah.aF (QN w8 (g+1) #[lv,.slice kA kn kc,.slice pA pn pc,.slice bA bn bc,.slice qA qn qc]) (fun W2 hk9 _=>?_) (fun v w9 hv hI _ hTd=>?_)
  . have hy:=aC HB.out.y hk9
    obtain ⟨e0,e1,e2,e3,e4⟩:=aG hy;(have y0:=bG hy 0;have y1:=bG hy 1;have y2:=bG hy 2;have y3:=bG hy 3;have y4:=bG hy 4);have hs5:=eP hy (.int .i64 lv) (.slice kA kn kc) (.slice pA pn pc) (.slice bA bn bc) (.slice qA qn qc);have hi5:=fH W2 (g+1) (.int .i64 lv) (.slice kA kn kc) (.slice pA pn pc) (.slice bA bn bc) (.slice qA qn qc);unfold sN at hs5 hi5;have HS5:=hid hs5;have HI4:=hid hi5;have HI5:Hid (Flow.Into [g+1] w8 _):=(Flow.Into.of_below hk9).trans hi5;clear hs5 hi5 hy;go_simp
    exact ⟨⟨rfl,HS5.out,HI5.out⟩,HI4.out⟩
  obtain ⟨rfl,av,ai⟩:=hv;clear hI hTd;refine ah.walk_nil ?_;intro w10 yj _;have HU:=hid (aC av yj);replace HNV:=hid ((HNV.out.fill HB.out.y ai).kept yj)
  have HBW:Hid (Bw W w10):=by
   have h1:=HB.out.below;have h3:=HWG.out;have h2:Bw W w9:=⟨ai.os.trans h1.os,ai.tape.trans h1.tape,ai.output.trans h1.output,Nat.le_trans h1.size ai.size,fun k hk=>(ai.block k (Nat.lt_of_lt_of_le hk h1.size) (by simp only [mem_singleton];omega)).trans (h1.block k hk)⟩;exact h2.trans (yj.mono h2.size)
  clear av ai yj tx8 tz0 tz1 tz2 tz3 tz4;simp only [lC,drop_zero,Nat.zero_add,Nat.reduceAdd];go_wp2_with fail
  obtain ⟨y0,y1,y2,y3,y4⟩:=aG HU.out;exact bodyPost_ret (v:= .tuple #[.agg #[lv,.slice kA kn kc,.slice pA pn pc,.slice bA bn bc,.slice qA qn qc],.bool eb]) (by simp [results,Tryz.results62,go_sem,y0,y1,y2,y3,y4]) rfl ⟨n,⟨kA,kc,pA,pc,bA,bc,qA,qc⟩,eb,by unfold bL;obtain ⟨q1,q2,q3,q4,q5⟩:=HEQ.out;rw [q1,q2,q3,q4,q5],HNV.out.nd,HBW.out,HER.out⟩
end No
end Go.Proofs.YtjpjjnalpdpljaaGreatDoor
