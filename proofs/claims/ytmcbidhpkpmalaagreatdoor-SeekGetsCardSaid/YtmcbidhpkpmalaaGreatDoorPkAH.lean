import Derived.Test.YtmcbidhpkpmalaaGreatDoorPqDrift
import Derived.Test.YtmcbidhpkpmalaaGreatDoorPkAF
import Derived.Deep.DeepCutAuto
import Derived.Deep.CutBlock
import Derived.WalkSpells
set_option maxHeartbeats 2000000
set_option maxRecDepth 100000
namespace Go.Proofs.YtmcbidhpkpmalaaGreatDoor
open Go.RowKit
namespace Bu
open Mem
theorem l9{a b:ByteArray}:(a.toList==b.toList)=decide (a=b):=by by_cases h:a=b;(. subst h;simp);. have:a.toList≠b.toList:=fun e=>h (by rw[ByteArray.toList_eq,ByteArray.toList_eq]at e;obtain⟨⟨x⟩⟩:=a;obtain⟨⟨y⟩⟩:=b;simp at e;rw[e]);rw[decide_eq_false h];simpa using this
theorem bW{w:World}{b:Nat}{v0 v1 v2:Value}{U:TypeId}(h:w.heap[b]? =some (.cells #[v0,v1,v2] U (0,0))):w.cell? ⟨b,0,none⟩=some v0/\w.cell? ⟨b,1,none⟩=some v1/\w.cell? ⟨b,2,none⟩=some v2:=by simp[World.cell?,h]
theorem nE{w:World}{b:Nat}{C:Array Value}{U:TypeId}(h:w.heap[b]? =some (.cells C U (0,0)))(i:Nat):w.frozen? ⟨b,i,none⟩=false:=by simp[World.frozen?,h]
def rF(w:World)(b:Nat)(v0 v1 v2:Value):World:=((w.setCell ⟨b,0,none⟩ v0).setCell ⟨b,1,none⟩ v1).setCell ⟨b,2,none⟩ v2
theorem jQ{w:World}{b:Nat}{u0 u1 u2:Value}{U:TypeId}(h:w.heap[b]? =some (.cells #[u0,u1,u2] U (0,0)))(v0 v1 v2:Value):(rF w b v0 v1 v2).heap[b]? =some (.cells #[v0,v1,v2] U (0,0)):=by unfold rF;simp[World.setCell,Array.getElem?_modify,h]
theorem j6{B b:Nat}{a w:World}(h:Below B a w)(hb:B<=b)(v0 v1 v2:Value):Below B a (rF w b v0 v1 v2):=((h.setCell hb v0).setCell hb v1).setCell hb v2
theorem bT{w w':World}{b:Nat}{o:Obj}(h:w.heap[b]? =some o)(hb:Bw w w'):w'.heap[b]? =some o:=(hb.block b (Array.getElem?_eq_some_iff.1 h).1).trans h
theorem Cb{W w w':World}(h:Bw W w)(hb:Bw w w'):Bw W w':=h.trans (hb.mono h.size)
theorem jg(p:Prop):∃r:Bool,r=true↔p:=⟨@decide p (Classical.propDecidable p),by simp⟩
theorem mg{v r:Bool}{p:Prop}(h:v=true↔p)(k:r=true↔p):v=r:=by cases v<;>cases r<;>simp_all
theorem eY(W:World)(X Y:Obj):((W.alloc X).alloc Y).heap[W.heap.size]? =some X/\((W.alloc X).alloc Y).heap[W.heap.size+1]? =some Y/\Bw W ((W.alloc X).alloc Y):=by have hb:Bw W (W.alloc X):=bAx;have hb2:Below (W.alloc X).heap.size (W.alloc X) ((W.alloc X).alloc Y):=bAx;refine⟨bT (heap_alloc_new W X) hb2,?_,hb.trans (hb2.mono hb.size)⟩;have:=heap_alloc_new (W.alloc X) Y;simpa using this
theorem GR{w:World}{b:Nat}{u0 u1 u2:Value}{U:TypeId}(h:w.heap[b]? =some (.cells #[u0,u1,u2] U (0,0)))(v:Value):(w.setCell ⟨b,0,none⟩ v).heap[b]? =some (.cells #[v,u1,u2] U (0,0)):=by simp[World.setCell,Array.getElem?_modify,h]
theorem GU{w:World}{b:Nat}{u0 u1 u2:Value}{U:TypeId}(h:w.heap[b]? =some (.cells #[u0,u1,u2] U (0,0)))(v:Value):(w.setCell ⟨b,1,none⟩ v).heap[b]? =some (.cells #[u0,v,u2] U (0,0)):=by simp[World.setCell,Array.getElem?_modify,h]
theorem GV{w:World}{b:Nat}{u0 u1 u2:Value}{U:TypeId}(h:w.heap[b]? =some (.cells #[u0,u1,u2] U (0,0)))(v:Value):(w.setCell ⟨b,2,none⟩ v).heap[b]? =some (.cells #[u0,u1,v] U (0,0)):=by simp[World.setCell,Array.getElem?_modify,h]
theorem aT{w:World}{b k:Nat}{i:Nat}(v:Value)(hk:k≠b):(w.setCell ⟨b,i,none⟩ v).heap[k]? =w.heap[k]? :=Below.heap_setCell _ _ _ _ hk
end Bu
end Go.Proofs.YtmcbidhpkpmalaaGreatDoor
namespace Go.Proofs.YtmcbidhpkpmalaaGreatDoor
open Go.RowKit
open Go.Lib (hid)
namespace No
open Mem Lx Bu
def KdK:Kind Nat:=⟨30,1,fun n=>[.int .u32 (n:Int)],fun _=>rfl,fun m u hu=>by
 obtain rfl:u= .int .u32 (m:Int):=by simpa using hu
 rfl⟩
abbrev KL(w:World)(A:Option Addr)(L:List Nat):Prop:=RdK KdK w A L
abbrev KC(w:World)(A:Option Addr)(c:Nat)(L:List Nat):Prop:=RC KdK w A c L
theorem RdK.kid{w:World}{A:Option Addr}{L:List Nat}(h:KL w A L){i:Nat}{m:Nat}(hm:L[i]? =some m):∃b o,A=some ⟨b,o,none⟩/\b<w.heap.size/\w.cell? ⟨b,o+i,none⟩=some (.int .u32 (m:Int)):=by obtain⟨b,o,e,hl,hc⟩:=h (Nat.lt_of_le_of_lt (Nat.zero_le _) (List.getElem?_eq_some_iff.1 hm).1);have h0:=hc i m hm 0 (.int .u32 (m:Int)) rfl;exact⟨b,o,e,hl,by simpa[KdK]using h0⟩
theorem tY{L:List Nat}{i:Nat}(h:i<L.length):L[i]? =some L[i]:=List.getElem?_eq_getElem h
theorem xO{W:World}{A A':Option Addr}{c c':Nat}{L L':List Nat}(h:KL W A L)(h':KL W A' L')(hl:L.length<=1048576)(_:L'.length<=1048576):Calls Tryz.prog 22 #[.slice A L.length c,.slice A' L'.length c'] W fun e w'=>(∃v:Bool,e=.returned (.bool v)/\(v=true↔L=L'))/\Bw W w':=by obtain⟨n,hn⟩:=eX L.length;by_cases hnn:L.length=L'.length;(case neg=>(have HR:Hid (¬L=L'):=fun e=>hnn (by rw[e]);have hd:((L.length:Int) != (L'.length:Int))=true:=by simp;omega);clear h h' hn hl;generalize L.length=n at*;generalize L'.length=n' at*;clear hnn;go_enter Tryz.func22,Tryz.ntmps22;go_wp2;go_ret;exact⟨⟨false,rfl,by simpa using HR.out⟩,Below.refl _ _⟩);rw[<-hnn,<-hn];rw[<-hn]at hl;have HN:=hid hn;have HN':Hid (n=L'.length):=hn.trans hnn;have HH:=hid h;have HH':=hid h';clear h h' hn hnn;go_enter Tryz.func22,Tryz.ntmps22;go_wp2_with fail;go_loopg[5] n (fun gk iv wr=>∃k:Nat,k<=n/\gk=n-k/\iv= .int .i64 (k:Int)/\Hid (∀i,i<k->L[i]? =L'[i]?)/\Hid (Bw W wr));(case atStart=>exact⟨0,Nat.zero_le _,rfl,rfl,fun i hi=>by omega,Below.refl _ _⟩);case round=>obtain⟨k,hk,rfl,rfl,HE,HB⟩:=hrel;by_cases hlt:k<n;(. (have hj:k<L.length:=by rw[<-HN.out];exact hlt);have hj':k<L'.length:=(by rw[<-HN'.out];exact hlt);obtain⟨x,hx⟩:=eX (L[k]);obtain⟨y,hy⟩:=eX (L'[k]);have hx':=tY hj;have hy':=tY hj';rw[<-hx]at hx';rw[<-hy]at hy';obtain⟨b,o,e,-,c0⟩:=RdK.kid (HH.kept HB.out) hx';subst e;obtain⟨b',o',e',-,d0⟩:=RdK.kid (HH'.kept HB.out) hy';subst e';have HX:=hid hx';have HY:=hid hy';by_cases hxy:x=y;(. (have hne:((x:Int) != (y:Int))=false:=by simp[hxy]);(have HE2:Hid (∀i,i<k+1->L[i]? =L'[i]?):=fun i hi=>by by_cases e:i=k;(. subst e;rw[HX.out,HY.out,hxy]);. exact HE.out i (by omega));clear hxy;have z0:=ah.tc c0;have x0:=ah.tc d0;have hw2:IntKind.i64.wrap ((k:Int)+1)=((k+1:Nat):Int):=(by rw[IntKind.wrap_i64];omega);clear c0 d0 hx hy hx' hy' hj hj';go_upto_region 6 with fail;refine ah.aj [] [(0,[]),(1,[]),(2,[]),(3,[]),(4,[]),(5,[]),(6,[]),(7,[]),(8,[])] [] [] (by kernel_rfl) (by kernel_rfl) (by simp) ?_;simp only[ah.pick,ah.aM,ah.dL];(repeat (refine ah.ak (fun K hK=>?_);go_simp;(refine hK _ ?_;clear hK K)));refine ah.walk_nil ?_;intro w2 hb _;have HB2:=hid (HB.trans (hb.mono HB.size));clear z0 x0 hb HB;simp only[lC,List.drop_nil,Nat.zero_add,Nat.reduceAdd];go_wp2_with fail;go_roundg (n-(k+1));(case measure=>omega);case rel=>exact⟨k+1,hlt,rfl,by go_num,HE2,HB2⟩);. (have hne:((x:Int) != (y:Int))=true:=by simp;omega);have HN2:Hid (¬L=L'):=fun e=>hxy (by have h1:=HX.out;rw[e,HY.out]at h1;exact(Option.some.inj h1).symm);clear hxy;have z0:=ah.tc c0;have x0:=ah.tc d0;have hw2:IntKind.i64.wrap ((k:Int)+1)=((k+1:Nat):Int):=(by rw[IntKind.wrap_i64];omega);clear c0 d0 hx hy hx' hy' hj hj';go_upto_region 6 with fail;refine ah.aj [] [(0,[]),(1,[]),(2,[]),(3,[]),(4,[]),(5,[]),(6,[]),(7,[]),(8,[])] [] [] (by kernel_rfl) (by kernel_rfl) (by simp) ?_;simp only[ah.pick,ah.aM,ah.dL];(repeat (refine ah.ak (fun K hK=>?_);go_simp;(refine hK _ ?_;clear hK K)));refine ah.walk_nil ?_;intro w2 hb _;have HB2:=hid (HB.trans (hb.mono HB.size));clear z0 x0 hb HB;simp only[lC,List.drop_nil,Nat.zero_add,Nat.reduceAdd];go_wp2_with fail;go_ret;exact⟨⟨false,rfl,by simpa using HN2.out⟩,HB2.out⟩);. (have HR:Hid (L=L'):=by refine List.ext_getElem? fun i=>?_;by_cases hi:i<k;(. exact HE.out i hi);. rw[List.getElem?_eq_none (by rw[<-HN.out];omega),List.getElem?_eq_none (by rw[<-HN'.out];omega)]);obtain rfl:k=n:=(by omega);clear hlt;go_wp2_with fail;go_ret;exact⟨⟨true,rfl,by simpa using HR.out⟩,HB.out⟩
end No
end Go.Proofs.YtmcbidhpkpmalaaGreatDoor
namespace Go.Proofs.YtmcbidhpkpmalaaGreatDoor
open Go.RowKit
namespace Fa
open Mem Lx Bu
def StK:Kind ByteArray:=⟨9,1,fun m=>[.string m],fun _=>rfl,fun m u hu=>by
 obtain rfl:u= .string m:=by simpa using hu
 rfl⟩
abbrev SL(w:World)(A:Option Addr)(L:List ByteArray):Prop:=RdK StK w A L
abbrev SC(w:World)(A:Option Addr)(c:Nat)(L:List ByteArray):Prop:=RC StK w A c L
theorem RdK.str{w:World}{A:Option Addr}{L:List ByteArray}(h:SL w A L){i:Nat}{m:ByteArray}(hm:L[i]? =some m):∃b o,A=some ⟨b,o,none⟩/\b<w.heap.size/\w.cell? ⟨b,o+i,none⟩=some (.string m):=by obtain⟨b,o,e,hl,hc⟩:=h (Nat.lt_of_le_of_lt (Nat.zero_le _) (List.getElem?_eq_some_iff.1 hm).1);have h0:=hc i m hm 0 (.string m) rfl;exact⟨b,o,e,hl,by simpa[StK]using h0⟩
theorem iD{L:List ByteArray}{i:Nat}(h:i<L.length):L[i]? =some L[i]:=List.getElem?_eq_getElem h
end Fa
namespace Bu
open Mem Lx
abbrev Mg:=ByteArray × Bool × ByteArray
def MgK:Kind Mg:=⟨73,3,fun m=>[.string m.1,.bool m.2.1,.string m.2.2],fun _=>rfl,fun m u hu=>by simp only[List.mem_cons,List.not_mem_nil,or_false]at hu;rcases hu with rfl|rfl|rfl<;>rfl⟩
def mgV(m:Mg):Value:= .agg #[.string m.1,.bool m.2.1,.string m.2.2]
abbrev ML(w:World)(A:Option Addr)(L:List Mg):Prop:=RdK MgK w A L
abbrev M3(w:World)(B:Nat)(A:Option Addr)(c:Nat)(L:List Mg):Prop:=VK MgK w B A c L
theorem RdK.msg{w:World}{A:Option Addr}{L:List Mg}(h:ML w A L){i:Nat}{m:Mg}(hm:L[i]? =some m):∃b o,A=some ⟨b,o,none⟩/\b<w.heap.size/\w.cell? ⟨b,o+i*3,none⟩=some (.string m.1)/\w.cell? ⟨b,o+i*3+1,none⟩=some (.bool m.2.1)/\w.cell? ⟨b,o+i*3+2,none⟩=some (.string m.2.2):=by obtain⟨b,o,e,hl,hc⟩:=h (Nat.lt_of_le_of_lt (Nat.zero_le _) (List.getElem?_eq_some_iff.1 hm).1);have h0:=hc i m hm 0 (.string m.1) rfl;have h1:=hc i m hm 1 (.bool m.2.1) rfl;have h2:=hc i m hm 2 (.string m.2.2) rfl;exact⟨b,o,e,hl,by simpa[MgK]using h0,by simpa[MgK,Nat.add_assoc]using h1,by simpa[MgK,Nat.add_assoc]using h2⟩
theorem RdK.place{w:World}{A:Option Addr}{L:List Mg}(h:ML w A L)(h0:0<L.length):∃b o,A=some ⟨b,o,none⟩/\∀(i:Nat) (m:Mg),L[i]? =some m->w.cell? ⟨b,o+i*3,none⟩=some (.string m.1)/\w.cell? ⟨b,o+i*3+1,none⟩=some (.bool m.2.1)/\w.cell? ⟨b,o+i*3+2,none⟩=some (.string m.2.2):=by
 obtain⟨b,o,e,_,_⟩:=h h0;subst e;refine⟨b,o,rfl,fun i m hm=>?_⟩;obtain⟨b',o',e',_,h1⟩:=RdK.msg h hm;obtain⟨rfl,rfl⟩:b=b'/\o=o':=by simpa using e'
 exact h1
theorem vO:(Tryz.prog.info? 73).map (fun i=>(i.zero,i.size,i.bytes))=some (some (.agg #[.string ⟨#[]⟩,.bool false,.string ⟨#[]⟩]),3,40):=by kernel_rfl
theorem dM{α:Type}{L:List α}{i:Nat}(h:i<L.length):L[i]? =some L[i]:=List.getElem?_eq_getElem h
def AU:Mg:=(⟨#[]⟩,false,⟨#[]⟩)
end Bu
namespace Lf
open Mem Lx Bu
abbrev Pr:=ByteArray × ByteArray
def PrK:Kind Pr:=⟨71,2,fun m=>[.string m.1,.string m.2],fun _=>rfl,fun m u hu=>by simp only[List.mem_cons,List.not_mem_nil,or_false]at hu;rcases hu with rfl|rfl<;>rfl⟩
abbrev PL(w:World)(A:Option Addr)(L:List Pr):Prop:=RdK PrK w A L
abbrev P3(w:World)(B:Nat)(A:Option Addr)(c:Nat)(L:List Pr):Prop:=VK PrK w B A c L
abbrev PC(w:World)(A:Option Addr)(c:Nat)(L:List Pr):Prop:=RC PrK w A c L
theorem RdK.pair{w:World}{A:Option Addr}{L:List Pr}(h:PL w A L){i:Nat}{m:Pr}(hm:L[i]? =some m):∃b o,A=some ⟨b,o,none⟩/\b<w.heap.size/\w.cell? ⟨b,o+i*2,none⟩=some (.string m.1)/\w.cell? ⟨b,o+i*2+1,none⟩=some (.string m.2):=by obtain⟨b,o,e,hl,hc⟩:=h (Nat.lt_of_le_of_lt (Nat.zero_le _) (List.getElem?_eq_some_iff.1 hm).1);have h0:=hc i m hm 0 (.string m.1) rfl;have h1:=hc i m hm 1 (.string m.2) rfl;exact⟨b,o,e,hl,by simpa[PrK]using h0,by simpa[PrK,Nat.add_assoc]using h1⟩
theorem RdK.Ny{w:World}{A:Option Addr}{L:List Pr}(h:PL w A L)(h0:0<L.length):∃b o,A=some ⟨b,o,none⟩/\∀(i:Nat) (m:Pr),L[i]? =some m->w.cell? ⟨b,o+i*2,none⟩=some (.string m.1)/\w.cell? ⟨b,o+i*2+1,none⟩=some (.string m.2):=by
 obtain⟨b,o,e,_,_⟩:=h h0;subst e;refine⟨b,o,rfl,fun i m hm=>?_⟩;obtain⟨b',o',e',_,h1⟩:=RdK.pair h hm;obtain⟨rfl,rfl⟩:b=b'/\o=o':=by simpa using e'
 exact h1
theorem nZ:(Tryz.prog.info? 71).map (fun i=>(i.zero,i.size,i.bytes))=some (some (.agg #[.string ⟨#[]⟩,.string ⟨#[]⟩]),2,32):=by kernel_rfl
end Lf
end Go.Proofs.YtmcbidhpkpmalaaGreatDoor
namespace Go.Proofs.YtmcbidhpkpmalaaGreatDoor
namespace Fa
open Lx Bu
abbrev SRi(L:List ByteArray):Prop:=L.Pairwise fun a b=>aG a b<0
def Dy(L:List ByteArray):Prop:=∀(i:Nat) (a b:ByteArray),L[i]? =some a->L[i+1]? =some b->aG a b<0
theorem vP{L:List ByteArray}:Dy L↔SRi L:=by constructor;(. intro h;induction L with|nil=>exact .nil|cons x xs ih=>(have ih:=ih fun i a b ha hb=>h (i+1) a b (by simpa using ha) (by simpa using hb);refine List.pairwise_cons.2 ⟨?_,ih⟩;cases xs with|nil=>intro a ha;cases ha|cons y ys=>have h0:=h 0 x y rfl rfl;intro a ha;rcases List.mem_cons.1 ha with rfl|ha;(. exact h0);. exact bB h0 ((List.pairwise_cons.1 ih).1 a ha)));. intro h i a b ha hb;obtain⟨h1,e1⟩:=List.getElem?_eq_some_iff.1 ha;obtain⟨h2,e2⟩:=List.getElem?_eq_some_iff.1 hb;subst e1 e2;exact List.pairwise_iff_getElem.1 h i (i+1) h1 h2 (by omega)
theorem SRi.at_{L:List ByteArray}(h:SRi L){i j:Nat}{x y:ByteArray}(hx:L[i]? =some x)(hy:L[j]? =some y)(hij:i<j):aG x y<0:=by obtain⟨h1,e1⟩:=List.getElem?_eq_some_iff.1 hx;obtain⟨h2,e2⟩:=List.getElem?_eq_some_iff.1 hy;subst e1 e2;exact List.pairwise_iff_getElem.1 h i j h1 h2 hij
def bX(L:List ByteArray)(key:ByteArray):Nat:=(L.filter fun p=>decide (aG p key<=0)).length
theorem nG(L:List ByteArray)(key:ByteArray):bX L key<=L.length:=List.length_filter_le _ _
theorem Dz{L:List ByteArray}{key:ByteArray}{k:Nat}{x:ByteArray}(hx:L[k]? =some x):bX (L.take (k+1)) key=bX (L.take k) key+if aG x key<=0 then 1 else 0:=by have hk:=(List.getElem?_eq_some_iff.1 hx).1;have e:L[k]=x:=(List.getElem?_eq_some_iff.1 hx).2;unfold bX;rw[List.take_succ_eq_append_getElem hk,List.filter_append,List.length_append,e];by_cases h:aG x key<=0<;>simp[h]
theorem SRi.way:∀{L:List ByteArray} {key:ByteArray},SRi L->(∀(i:Nat) (p:ByteArray),i<bX L key->L[i]? =some p->aG p key<=0)/\(∀(i:Nat) (p:ByteArray),bX L key<=i->L[i]? =some p->0<aG p key)
 |[],key,_=>⟨fun i p _ h=>by simp at h,fun i p _ h=>by simp at h⟩
 |x::xs,key,h=>by obtain⟨h1,h2⟩:=List.pairwise_cons.1 h;obtain⟨i1,i2⟩:=SRi.way (key:=key) h2;by_cases hx:aG x key<=0;(. (have e:bX (x::xs) key=bX xs key+1:=by simp[bX,hx]);rw[e];refine⟨fun i p hi hp=>?_,fun i p hi hp=>?_⟩;(. cases i with|zero=>obtain rfl:x=p:=(by simpa using hp);exact hx|succ i=>exact i1 i p (by omega) (by simpa using hp));. cases i with|zero=>omega|succ i=>exact i2 i p (by omega) (by simpa using hp));. (have hall:∀p,p∈xs->0<aG p key:=fun p hp=>by rcases Int.lt_or_le 0 (aG p key)with h3|h3;(. exact h3);. have h4:=h1 p hp;(have h5:aG x key<0:=by rcases gL p key with h6|h6|h6;(. exact bB h4 h6);(. rw[<-h6];exact h4);. have:=bS p key;omega);omega);(have e0:bX xs key=0:=by unfold bX;rw[List.filter_eq_nil_iff.2 fun p hp=>by have:=hall p hp;simp;omega];rfl);(have e:bX (x::xs) key=0:=by have:bX (x::xs) key=bX xs key:=(by simp[bX,hx]);rw[this,e0]);rw[e];refine⟨fun i p hi=>by omega,fun i p _ hp=>?_⟩;cases i with|zero=>obtain rfl:x=p:=(by simpa using hp);omega|succ i=>exact hall p (List.mem_of_getElem? (by simpa using hp))
def kN(L:List ByteArray)(lo hi:ByteArray)(top:Bool):Prop:=(∀p,p∈L->inB lo hi top p=true/\p≠lo)/\Dy L
def loS(L:List ByteArray)(i:Nat)(lo:ByteArray):ByteArray:=
 match i with
 |0=>lo
 |i+1=>match L[i]? with
  |some p=>if 0<aG p lo then p else lo
  |none=>lo
def hiS(L:List ByteArray)(i:Nat)(hi:ByteArray)(top:Bool):ByteArray × Bool:=
 match L[i]? with
 |some p=>if top=true\/aG p hi<0 then(p,false)else(hi,top)
 |none=>(hi,top)
def dN(L:List ByteArray)(i:Int)(lo hi:ByteArray)(top:Bool):(ByteArray × ByteArray × Bool) × Bool:=
 if i<0\/(L.length:Int)<i then((⟨#[]⟩,⟨#[]⟩,false),false)else
  let a:=loS L i.toNat lo
  let b:=hiS L i.toNat hi top
  let e:=if b.2=true then⟨#[]⟩else b.1
  if bZ a e b.2=true then((⟨#[]⟩,⟨#[]⟩,false),false)else((a,e,b.2),true)
theorem AV(a:ByteArray)(b:ByteArray × Bool):bZ a (if b.2=true then⟨#[]⟩else b.1) b.2=bZ a b.1 b.2:=by obtain⟨e,t⟩:=b;cases t<;>simp[bZ]
theorem KJ(a:ByteArray)(b:ByteArray × Bool)(key:ByteArray):inB a (if b.2=true then⟨#[]⟩else b.1) b.2 key=inB a b.1 b.2 key:=by obtain⟨e,t⟩:=b;cases t<;>simp[inB]
theorem GX{a b c:ByteArray}(h:aG a b<=0)(k:aG b c<0):aG a c<0:=by rcases gL a b with h1|h1|h1;(. exact bB h1 k);(. rw[h1];exact k);. have:=bS a b;omega
theorem KM{a b c:ByteArray}(h:aG a b<0)(k:aG b c<=0):aG a c<0:=by rcases gL b c with h1|h1|h1;(. exact bB h h1);(. rw[<-h1];exact h);. have:=bS b c;omega
theorem oJ{a b c:ByteArray}(h:aG a b<=0)(k:aG b c<=0):aG a c<=0:=by rcases gL a b with h1|h1|h1;(. have:=KM h1 k;omega);(. rw[h1];exact k);. have:=bS a b;omega
theorem tZ{L:List ByteArray}{i:Nat}{p:ByteArray}(hp:L[i]? =some p)(lo:ByteArray):loS L (i+1) lo=if 0<aG p lo then p else lo:=by unfold loS;simp only[hp]
theorem zo{L:List ByteArray}{i:Nat}(hp:L[i]? =none)(lo:ByteArray):loS L (i+1) lo=lo:=by unfold loS;simp only[hp]
theorem zq{L:List ByteArray}{i:Nat}{p:ByteArray}(hp:L[i]? =some p)(hi:ByteArray)(top:Bool):hiS L i hi top=if top=true\/aG p hi<0 then(p,false)else(hi,top):=by unfold hiS;simp only[hp]
theorem zu{L:List ByteArray}{i:Nat}(hp:L[i]? =none)(hi:ByteArray)(top:Bool):hiS L i hi top=(hi,top):=by unfold hiS;simp only[hp]
theorem Nz(L:List ByteArray)(i:Nat)(lo key:ByteArray):aG (loS L i lo) key<=0↔aG lo key<=0/\∀p,0<i->L[i-1]? =some p->aG p key<=0:=by cases i with|zero=>simp[loS]|succ i=>(rw[Nat.add_sub_cancel];cases hp:L[i]? with|none=>rw[zo hp];simp|some p=>rw[tZ hp];by_cases h:0<aG p lo;(. rw[if_pos h];have h2:aG lo p<=0:=(by have:=bS lo p;omega);constructor;(. intro h3;refine⟨oJ h2 h3,fun q _ hq=>?_⟩;(cases hq);exact h3);. exact fun h3=>h3.2 p (by omega) rfl);. rw[if_neg h];constructor;(. intro h3;refine⟨h3,fun q _ hq=>?_⟩;(cases hq);exact oJ (by omega) h3);. exact fun h3=>h3.1)
theorem NA(L:List ByteArray)(i:Nat)(hi:ByteArray)(top:Bool)(key:ByteArray):((hiS L i hi top).2=true\/aG key (hiS L i hi top).1<0)↔(top=true\/aG key hi<0)/\∀p,L[i]? =some p->aG key p<0:=by cases hp:L[i]? with|none=>rw[zu hp];simp|some p=>rw[zq hp];by_cases h:top=true\/aG p hi<0;(. rw[if_pos h];constructor;(. rintro(h3|h3);(. cases h3);. refine⟨?_,fun q hq=>?_⟩;(. rcases h with h|h;(. exact .inl h);. exact .inr (bB h3 h));. cases hq;exact h3);. exact fun h3=> .inr (h3.2 p rfl));. rw[if_neg h];constructor;(. intro h3;refine⟨h3,fun q hq=>?_⟩;(cases hq);rcases h3 with h3|h3;(. exact absurd (.inl h3) h);. have h4:¬aG p hi<0:=fun h5=>h (.inr h5);have h6:=bS p hi;exact KM (b:=hi) h3 (by omega));. exact fun h3=>h3.1
theorem uf{lo hi:ByteArray}{top:Bool}{key:ByteArray}:inB lo hi top key=true↔aG lo key<=0/\(top=true\/aG key hi<0):=by cases top<;>simp[inB]
theorem qm{lo hi:ByteArray}{top:Bool}{key:ByteArray}(h:bZ lo hi top=true):inB lo hi top key=false:=by cases hq:inB lo hi top key with|false=>rfl|true=>(obtain⟨h1,h2⟩:=uf.1 hq;have h3:top=false/\aG hi lo<=0:=by simpa[bZ]using h);rcases h2 with h2|h2;(. rw[h3.1]at h2;cases h2);. have:=KM h2 h3.2;have:=bS lo key;omega
theorem SRi.zw{L:List ByteArray}(h:SRi L)(key:ByteArray)(i:Nat)(hi:i<=L.length):((∀p,0<i->L[i-1]? =some p->aG p key<=0)/\∀p,L[i]? =some p->aG key p<0)↔i=bX L key:=by obtain⟨w1,w2⟩:=h.way (key:=key);have hw:=nG L key;constructor;(. rintro⟨h1,h2⟩;rcases Nat.lt_trichotomy i (bX L key)with h3|h3|h3;(. exfalso;have h4:=iD (L:=L) (i:=i) (by omega);have:=w1 i _ h3 h4;have:=h2 _ h4;have:=bS key L[i];omega);(. exact h3);. exfalso;have h4:=iD (L:=L) (i:=i-1) (by omega);have:=w2 (i-1) _ (by omega) h4;have:=h1 _ (by omega) h4;omega);. rintro rfl;refine⟨fun p h1 hp=>w1 _ p (by omega) hp,fun p hp=>?_⟩;have:=w2 _ p (Nat.le_refl _) hp;have:=bS key p;omega
theorem qo{L:List ByteArray}(h:SRi L)(i:Nat)(hi:i<=L.length)(lo hi':ByteArray)(top:Bool)(key:ByteArray):
 ((dN L i lo hi' top).2&&inB (dN L i lo hi' top).1.1 (dN L i lo hi' top).1.2.1 (dN L i lo hi' top).1.2.2 key)=(decide (i=bX L key)&&inB lo hi' top key):=by
 have hn:¬((i:Int)<0\/(L.length:Int)<(i:Int)):=by omega
 have hin:inB (loS L i lo) (hiS L i hi' top).1 (hiS L i hi' top).2 key=(decide (i=bX L key)&&inB lo hi' top key):=by
  rw[Bool.eq_iff_iff,uf,Nz,NA,Bool.and_eq_true,decide_eq_true_iff,uf,<-h.zw key i hi];constructor
  . rintro⟨⟨h1,h2⟩,h3,h4⟩
    exact⟨⟨h2,h4⟩,h1,h3⟩
  . rintro⟨⟨h2,h4⟩,h1,h3⟩
    exact⟨⟨h1,h2⟩,h3,h4⟩
 unfold dN;rw[if_neg hn];simp only[Int.toNat_natCast,AV];split
 . rename_i he
   rw[<-hin,qm he];rfl
 . simp only[Bool.true_and]
   rw[KJ,hin]
end Fa
end Go.Proofs.YtmcbidhpkpmalaaGreatDoor
namespace Go.Proofs.YtmcbidhpkpmalaaGreatDoor
open Go.RowKit
namespace No
open Mem Lx Bu Lf Fa
structure Nd where
 lv:Int
 kids:List Nat
 piv:List ByteArray
 buf:List Mg
 prs:List Pr
structure At where
 kA:Option Addr
 kc:Nat
 pA:Option Addr
 pc:Nat
 bA:Option Addr
 bc:Nat
 qA:Option Addr
 qc:Nat
def dO(n:Nd)(a:At):Array Value:= #[.int .i64 n.lv,.slice a.kA n.kids.length a.kc,.slice a.pA n.piv.length a.pc,.slice a.bA n.buf.length a.bc,.slice a.qA n.prs.length a.qc]
structure vw(w:World)(n:Nd)(a:At):Prop where
 kids:KC w a.kA a.kc n.kids
 piv:SC w a.pA a.pc n.piv
 buf:RC MgK w a.bA a.bc n.buf
 prs:PC w a.qA a.qc n.prs
theorem vw.kept{w w':World}{n:Nd}{a:At}(h:vw w n a)(hb:Bw w w'):vw w' n a:=⟨h.kids.kept hb,h.piv.kept hb,h.buf.kept hb,h.prs.kept hb⟩
theorem bD{w:World}{b:Nat}{c0 c1 c2 c3 c4:Value}{U:TypeId}(h:w.heap[b]? =some (.cells #[c0,c1,c2,c3,c4] U (0,0))):w.cell? ⟨b,0,none⟩=some c0/\w.cell? ⟨b,1,none⟩=some c1/\w.cell? ⟨b,2,none⟩=some c2/\w.cell? ⟨b,3,none⟩=some c3/\w.cell? ⟨b,4,none⟩=some c4:=by simp[World.cell?,h]
end No
namespace No
open Mem Lx Bu
open Lf (Pr PrK PL P3 PC)
open Fa (StK SL SC bX Dy kN)
structure Sz(n:Nd):Prop where
 piv:∀p,p∈n.piv->p.size<=maxLen
 buf:∀m,m∈n.buf->m.1.size<=maxLen
 prs:∀m,m∈n.prs->m.1.size<=maxLen
 kl:n.kids.length<=1000
 pl:n.piv.length<=1000
 bl:n.buf.length<=1000
 ql:n.prs.length<=1000
end No
namespace Bu
open Mem Lx
def Gj(L:List Mg):Prop:=∀(i:Nat) (a b:Mg),L[i]? =some a->L[i+1]? =some b->aG a.1 b.1<0
end Bu
namespace Lf
open Mem Lx Bu
def qp(L:List Pr):Prop:=∀(i:Nat) (a b:Pr),L[i]? =some a->L[i+1]? =some b->aG a.1 b.1<0
end Lf
namespace No
open Mem Lx Bu Lf Fa
def nH(c:Cfg)(k:ByteArray):Bool:=decide (1<=(k.size:Int))&&decide ((k.size:Int)<=c.key)
def Px(c:Cfg)(lo hi:ByteArray)(top:Bool)(p:Pr):Prop:=nH c p.1=true/\inB lo hi top p.1=true/\(p.2.size:Int)<=c.val
structure DC(c:Cfg)(lo hi:ByteArray)(top:Bool)(n:Nd):Prop where
 each:∀p,p∈n.prs->Px c lo hi top p
 kids:n.kids.length=0
 piv:n.piv.length=0
 buf:n.buf.length=0
 few:(n.prs.length:Int)<=c.leaf
 rise:qp n.prs
def Py(c:Cfg)(lo hi:ByteArray)(top:Bool)(m:Mg):Prop:=nH c m.1=true/\inB lo hi top m.1=true/\(m.2.2.size:Int)<=c.val/\¬(m.2.1=true/\m.2.2≠⟨#[]⟩)
def zx(c:Cfg)(K:List Nat):Prop:=∀(i k:Nat),K[i]? =some k->(k≠0/\(k:Int)<c.blocks)/\∀(j m:Nat),j<i->K[j]? =some m->m≠k
structure DF(c:Cfg)(lo hi:ByteArray)(top:Bool)(n:Nd):Prop where
 kids:zx c n.kids
 piv:∀p,p∈n.piv->nH c p=true
 buf:∀m,m∈n.buf->Py c lo hi top m
 lv:n.lv<=40
 prs:n.prs.length=0
 one:1<=n.kids.length
 fan:(n.kids.length:Int)<=c.fan
 fewer:n.piv.length+1=n.kids.length
 right:kN n.piv lo hi top
 few:(n.buf.length:Int)<=c.buffer
 rise:Bu.Gj n.buf
def jR(c:Cfg)(lo hi:ByteArray)(top:Bool)(n:Nd):Prop:=(n.lv=0->DC c lo hi top n)/\(n.lv≠0->0<n.lv/\DF c lo hi top n)
theorem aU{w:World}{b:Nat}{c0 c1 c2 c3 c4 c5 c6 c7:Value}{U:TypeId}(h:w.heap[b]? =some (.cells #[c0,c1,c2,c3,c4,c5,c6,c7] U (0,0))):w.cell? ⟨b,0,none⟩=some c0/\w.cell? ⟨b,1,none⟩=some c1/\w.cell? ⟨b,2,none⟩=some c2/\w.cell? ⟨b,3,none⟩=some c3/\w.cell? ⟨b,4,none⟩=some c4/\w.cell? ⟨b,5,none⟩=some c5/\w.cell? ⟨b,6,none⟩=some c6/\w.cell? ⟨b,7,none⟩=some c7:=by simp[World.cell?,h]
structure B3(W:World)(g:Nat)(X Y Z:Obj)(w:World):Prop where
 below:Bw W w
 at_:W.heap.size<=g
 x:w.heap[g]? =some X
 y:w.heap[g+1]? =some Y
 z:w.heap[g+2]? =some Z
theorem B3.kept{W:World}{g:Nat}{X Y Z:Obj}{w w':World}(h:B3 W g X Y Z w)(hb:Bw w w'):B3 W g X Y Z w':=⟨h.below.trans (hb.mono h.below.size),h.at_,bT h.x hb,bT h.y hb,bT h.z hb⟩
theorem B3.new(W:World)(X Y Z:Obj):B3 W W.heap.size X Y Z (((W.alloc X).alloc Y).alloc Z):=by have h2:=eY W X Y;have hb3:Below ((W.alloc X).alloc Y).heap.size ((W.alloc X).alloc Y) (((W.alloc X).alloc Y).alloc Z):=bAx;refine⟨h2.2.2.trans (hb3.mono h2.2.2.size),Nat.le_refl _,bT h2.1 hb3,bT h2.2.1 hb3,?_⟩;have:=heap_alloc_new ((W.alloc X).alloc Y) Z;simpa using this
end No
end Go.Proofs.YtmcbidhpkpmalaaGreatDoor
namespace Go.Proofs.YtmcbidhpkpmalaaGreatDoor
open Go.RowKit Go.WideShapes Go.ChangeShapes
namespace Bu
open Mem
theorem xP{H:Type}{enc:TypeId × Value->H}{W:World}{v:Value}{d:DataW H}{p:List MemPlace}{fuel:Nat}(h:DataW.trod enc Tryz.prog W 0 (fun _=>true) true fuel 25 [v]=some (d,p)):
 ∃(A:Option Addr) (L:List Mg) (c:Nat),v= .slice A L.length c/\RC MgK W A c L/\L.length<=c/\c<=maxLen:=by
 obtain⟨A,len,c,rfl,hl,hm,hc⟩:=Args.kL Tryz.underlying25 Tryz.underlying73 (by kernel_rfl) (by kernel_rfl) (by decide) h;by_cases h0:0<len
 . obtain⟨b,o,rfl,hcell⟩:=hc h0
   have each:∀i,i<len->∃m:Mg,W.cell? ⟨b,o+(i*3+0),none⟩=some (.string m.1)/\W.cell? ⟨b,o+(i*3+1),none⟩=some (.bool m.2.1)/\W.cell? ⟨b,o+(i*3+2),none⟩=some (.string m.2.2):=by
    intro i hi;obtain⟨u0,y0,n0,h0,k0,-⟩:=hcell i hi 0 _ rfl;obtain⟨u1,y1,n1,h1,k1,-⟩:=hcell i hi 1 _ rfl;obtain⟨u2,y2,n2,h2,k2,-⟩:=hcell i hi 2 _ rfl;obtain⟨s0,e0,_,_⟩:=DataW.trod_string Tryz.underlying9 k0;obtain⟨s1,e1,_⟩:=DataW.trod_bool Tryz.underlying4 k1;obtain⟨s2,e2,_,_⟩:=DataW.trod_string Tryz.underlying9 k2;obtain rfl:u0=_:=(by simpa using e0);obtain rfl:u1=_:=(by simpa using e1);obtain rfl:u2=_:=(by simpa using e2);exact⟨(s0,s1,s2),h0,h1,h2⟩
   have DI:∀i,∃m:Mg,i<len->W.cell? ⟨b,o+(i*3+0),none⟩=some (.string m.1)/\W.cell? ⟨b,o+(i*3+1),none⟩=some (.bool m.2.1)/\W.cell? ⟨b,o+(i*3+2),none⟩=some (.string m.2.2):=fun i=>by
    by_cases hi:i<len
    . obtain⟨m,hm⟩:=each i hi
      exact⟨m,fun _=>hm⟩
    . exact⟨AU,fun h=>absurd h hi⟩
   (let F:=fun i=>Classical.choose (DI i));have hF:∀i,i<len->W.cell? ⟨b,o+(i*3+0),none⟩=some (.string (F i).1)/\W.cell? ⟨b,o+(i*3+1),none⟩=some (.bool (F i).2.1)/\W.cell? ⟨b,o+(i*3+2),none⟩=some (.string (F i).2.2):=fun i=>Classical.choose_spec (DI i)
   have hb:b<W.heap.size:=by
    have:=(hF 0 h0).1;rcases Nat.lt_or_ge b W.heap.size with h'|h'
    . exact h'
    . simp[World.cell?,Array.getElem?_eq_none h']at this
   refine⟨some ⟨b,o,none⟩,(List.range len).map F,c,by simp,⟨fun _=>⟨b,o,rfl,hb,fun i x hx j u hu=>?_⟩,by simpa using hl⟩,by simpa using hl,hm⟩;obtain⟨hi,hx⟩:=List.getElem?_eq_some_iff.1 hx;have hi':i<len:=(by simpa using hi);obtain rfl:F i=x:=(by simpa using hx);obtain⟨e0,e1,e2⟩:=hF i hi'
   match j,hu with
   |0,hu=>
    obtain rfl:Value.string (F i).1=u:=(by simpa[MgK]using hu);exact e0
   |1,hu=>
    obtain rfl:Value.bool (F i).2.1=u:=(by simpa[MgK]using hu);exact e1
   |2,hu=>
    obtain rfl:Value.string (F i).2.2=u:=(by simpa[MgK]using hu);exact e2
   |j+3,hu=>simp[MgK]at hu
 . obtain rfl:len=0:=by omega
   exact⟨A,[],c,rfl,⟨fun h=>absurd h (by simp),Nat.zero_le _⟩,Nat.zero_le _,hm⟩
end Bu
namespace Lf
open Mem Bu
theorem AX{H:Type}{enc:TypeId × Value->H}{W:World}{v:Value}{d:DataW H}{p:List MemPlace}{fuel:Nat}(h:DataW.trod enc Tryz.prog W 0 (fun _=>true) true fuel 24 [v]=some (d,p)):
 ∃(A:Option Addr) (L:List Pr) (c:Nat),v= .slice A L.length c/\PC W A c L/\L.length<=c/\c<=maxLen/\∀m,m∈L->m.1.size∈d.weights Tryz.prog 24/\m.2.size∈d.weights Tryz.prog 24:=by
 obtain⟨A,len,c,rfl,hl,hm,hc⟩:=Args.kL Tryz.underlying24 Tryz.underlying71 (by kernel_rfl) (by kernel_rfl) (by decide) h;by_cases h0:0<len
 . obtain⟨b,o,rfl,hcell⟩:=hc h0
   have each:∀i,i<len->∃m:Pr,W.cell? ⟨b,o+(i*2+0),none⟩=some (.string m.1)/\W.cell? ⟨b,o+(i*2+1),none⟩=some (.string m.2)/\m.1.size∈d.weights Tryz.prog 24/\m.2.size∈d.weights Tryz.prog 24:=by
    intro i hi;obtain⟨u0,y0,n0,h0,k0,z0⟩:=hcell i hi 0 _ rfl;obtain⟨u1,y1,n1,h1,k1,z1⟩:=hcell i hi 1 _ rfl;obtain⟨s0,e0,rfl,_⟩:=DataW.trod_string Tryz.underlying9 k0;obtain⟨s1,e1,rfl,_⟩:=DataW.trod_string Tryz.underlying9 k1;obtain rfl:u0=_:=(by simpa using e0);obtain rfl:u1=_:=(by simpa using e1);exact⟨(s0,s1),h0,h1,z0 _ (by simp[DataW.weights]),z1 _ (by simp[DataW.weights])⟩
   have DI:∀i,∃m:Pr,i<len->W.cell? ⟨b,o+(i*2+0),none⟩=some (.string m.1)/\W.cell? ⟨b,o+(i*2+1),none⟩=some (.string m.2)/\m.1.size∈d.weights Tryz.prog 24/\m.2.size∈d.weights Tryz.prog 24:=fun i=>by
    by_cases hi:i<len
    . obtain⟨m,hm⟩:=each i hi
      exact⟨m,fun _=>hm⟩
    . exact⟨(⟨#[]⟩,⟨#[]⟩),fun h=>absurd h hi⟩
   (let F:=fun i=>Classical.choose (DI i));have hF:∀i,i<len->W.cell? ⟨b,o+(i*2+0),none⟩=some (.string (F i).1)/\W.cell? ⟨b,o+(i*2+1),none⟩=some (.string (F i).2)/\(F i).1.size∈d.weights Tryz.prog 24/\(F i).2.size∈d.weights Tryz.prog 24:=fun i=>Classical.choose_spec (DI i)
   have hb:b<W.heap.size:=by
    have:=(hF 0 h0).1;rcases Nat.lt_or_ge b W.heap.size with h'|h'
    . exact h'
    . simp[World.cell?,Array.getElem?_eq_none h']at this
   refine⟨some ⟨b,o,none⟩,(List.range len).map F,c,by simp,⟨fun _=>⟨b,o,rfl,hb,fun i x hx j u hu=>?_⟩,by simpa using hl⟩,by simpa using hl,hm,fun m hmm=>?_⟩
   rotate_left
   . obtain⟨i,hi,rfl⟩:=List.mem_map.1 hmm
     exact(hF i (by simpa using hi)).2.2
   obtain⟨hi,hx⟩:=List.getElem?_eq_some_iff.1 hx;have hi':i<len:=(by simpa using hi);obtain rfl:F i=x:=(by simpa using hx);obtain⟨e0,e1,-⟩:=hF i hi'
   match j,hu with
   |0,hu=>
    obtain rfl:Value.string (F i).1=u:=(by simpa[PrK]using hu);exact e0
   |1,hu=>
    obtain rfl:Value.string (F i).2=u:=(by simpa[PrK]using hu);exact e1
   |j+2,hu=>simp[PrK]at hu
 . obtain rfl:len=0:=by omega
   exact⟨A,[],c,rfl,⟨fun h=>absurd h (by simp),Nat.zero_le _⟩,Nat.zero_le _,hm,fun m hmm=>by cases hmm⟩
end Lf
end Go.Proofs.YtmcbidhpkpmalaaGreatDoor
namespace Go.Proofs.YtmcbidhpkpmalaaGreatDoor
open Go.RowKit Go.WideShapes Go.ChangeShapes Go.Deep
namespace No
open Mem
end No
end Go.Proofs.YtmcbidhpkpmalaaGreatDoor
namespace Go.Proofs.YtmcbidhpkpmalaaGreatDoor
open Go.RowKit
namespace No
open Mem Lx Bu Lf Fa
structure Fit(n:Nd):Prop where
 kids:n.kids.length<=80
 piv:n.piv.length<=80
 buf:n.buf.length<=150
 prs:n.prs.length<=150
 pk:∀p,p∈n.piv->p.size<=200
 bk:∀m,m∈n.buf->m.1.size<=200
 qk:∀m,m∈n.prs->m.1.size<=200
end No
namespace No
open Mem Lx Bu Lf Fa
theorem zy(c:Cfg)(key:ByteArray)(W:World):CB 95 #[.agg (bC c),.string key] W (.bool (nH c key)):=by have HP:=Lib.hid (show nH c key=(decide (1<=(key.size:Int))&&decide ((key.size:Int)<=c.key))from rfl);generalize nH c key=v at*;unfold bC;obtain⟨cB,cY,cF,cN,cU,cL,cK,cV⟩:=c;simp only at*;by_cases h1:1<=(key.size:Int);(. have HR:Hid (v=decide ((key.size:Int)<=cK)):=Lib.hid (by rw[HP.out];simp[h1]);clear HP;go_enter Tryz.func95,Tryz.ntmps95;go_wp2_with fail;go_ret;exact⟨eP HR.symm,bAx⟩);. have HR:Hid (v=false):=Lib.hid (by rw[HP.out];simp[h1]);have h2:decide (1<=(key.size:Int))=false:=(by simpa using h1);clear HP h1;go_enter Tryz.func95,Tryz.ntmps95;go_wp2_with fail;go_ret;exact⟨eP HR.symm,bAx⟩
end No
namespace No
open Mem Lx Bu Lf Fa
theorem isEmpty_eq(a:ByteArray):a.toList.isEmpty=decide (a=⟨#[]⟩):=by rw[<-l9,show(⟨#[]⟩:ByteArray).toList=[] by rw[Lib.toList_data]];cases a.toList<;>rfl
end No
end Go.Proofs.YtmcbidhpkpmalaaGreatDoor
namespace Go.Proofs.YtmcbidhpkpmalaaGreatDoor
open Go.RowKit
open Go.Lib (hid)
namespace Fa
open Mem Lx Bu
theorem GY{W:World}{A:Option Addr}{c:Nat}{L:List ByteArray}(h:SL W A L)(key:ByteArray)(hk:∀m,m∈L->m.size<=maxLen)(hl:L.length<=1048576):CB 33 #[.slice A L.length c,.string key] W (.int .i64 (bX L key:Int)):=by (have HT:Hid (bX (L.take L.length) key=bX L key):=by unfold Hid;rw[List.take_length]);generalize hn:L.length=n at*;have HN:=hid hn;have HH:=hid h;have HK:=hid hk;clear h hk hn;go_enter Tryz.func33,Tryz.ntmps33;go_wp2_with fail;go_loopg[5,6] n (fun gk nv iv wr=>∃k j:Nat,k<=n/\gk=n-k/\iv= .int .i64 (k:Int)/\nv= .int .i64 (j:Int)/\j<=k/\Hid (bX (L.take k) key=j)/\Hid (Bw W wr));(case atStart=>exact⟨0,0,Nat.zero_le _,rfl,rfl,rfl,Nat.le_refl _,rfl,Below.refl _ _⟩);case round=>obtain⟨k,j,hk,rfl,rfl,rfl,hj,HJ,HB⟩:=hrel;by_cases hlt:k<n;(. (have hkL:k<L.length:=by rw[HN.out];exact hlt);obtain⟨x,hxx⟩:=eX (L[k]);have hx':=iD hkL;rw[<-hxx]at hx';obtain⟨b,o,e,-,c0⟩:=RdK.str (HH.kept HB.out) hx';subst e;have HS:=hid (Dz (key:=key) hx');have cX:=fun w=>hid (Ql x key (HK.out x (List.mem_of_getElem? hx')) w);have hw2:IntKind.i64.wrap ((k:Int)+1)=((k+1:Nat):Int):=(by rw[IntKind.wrap_i64];omega);have hw3:IntKind.i64.wrap ((j:Int)+1)=((j+1:Nat):Int):=(by rw[IntKind.wrap_i64];omega);clear hxx hx' hkL;by_cases hz:aG x key<=0;(. (have HJ2:Hid (bX (L.take (k+1)) key=j+1):=by unfold Hid;rw[HS.out,HJ.out,if_pos hz]);clear HS;generalize aG x key=z at*;go_wp2_with (go_at_call 35;refine(cX _).mono ?_;rintro e w' ⟨rfl,hb⟩);have HB2:=hid (HB.trans (hb.mono HB.size));go_roundg (n-(k+1));(case measure=>omega);case rel=>exact⟨k+1,j+1,hlt,rfl,by go_num,by go_num,by omega,HJ2,HB2⟩);. (have HJ2:Hid (bX (L.take (k+1)) key=j):=by unfold Hid;rw[HS.out,HJ.out,if_neg hz];rfl);have hd:decide (aG x key<=0)=false:=(by simpa using hz);clear HS;generalize aG x key=z at*;go_wp2_with (go_at_call 35;refine(cX _).mono ?_;rintro e w' ⟨rfl,hb⟩);have HB2:=hid (HB.trans (hb.mono HB.size));go_roundg (n-(k+1));(case measure=>omega);case rel=>exact⟨k+1,j,hlt,rfl,by go_num,rfl,by omega,HJ2,HB2⟩);. (obtain rfl:k=n:=by omega);have HE:Hid (bX L key=j):=(by rw[<-HT.out];exact HJ.out);clear hlt;go_wp2_with fail;go_ret;exact⟨by rw[HE.out];rfl,HB.out⟩
end Fa
end Go.Proofs.YtmcbidhpkpmalaaGreatDoor
namespace Go.Proofs.YtmcbidhpkpmalaaGreatDoor
open Go.RowKit
namespace No
open Mem Lx Bu Lf Fa
end No
namespace No
open Mem Lx Bu
open Lf (Pr PrK PL P3 PC)
open Fa (StK SL SC bX Dy kN)
end No
namespace No
open Mem Lx Bu Lf Fa
structure Fr{α:Type}(K:Kind α)(w:World)(B:Nat)(A:Option Addr)(c:Nat)(L:List α):Prop where
 rc:RC K w A c L
 own:0<L.length->∃(g o:Nat) (C:Array Value),A=some ⟨g,o,none⟩/\B<=g/\w.heap[g]? =some (.cells C K.T (0,0))
theorem Fr.iN{α:Type}{K:Kind α}{w:World}{B:Nat}{A:Option Addr}{c:Nat}{L:List α}(h:VK K w B A c L):Fr K w B A c L:=⟨h.rc,fun h0=>by (have hl:0<K.k\/K.k=0:=by omega);(obtain⟨h1,h2⟩:=h;rcases h2 with⟨h',hz⟩|⟨g,cap,cur,he,hB,hh,hr⟩);(. exfalso;simp only[Value.slice.injEq]at h';omega);. simp only[Value.slice.injEq]at he;obtain⟨rfl,-,rfl⟩:=he;exact⟨g,0,cur,rfl,hB,hh⟩⟩
theorem Fr.keep{α:Type}{K:Kind α}{w w':World}{B:Nat}{A:Option Addr}{c:Nat}{L:List α}(h:Fr K w B A c L)(hs:w.heap.size<=w'.heap.size)(hk:∀g o,0<L.length->A=some ⟨g,o,none⟩->w'.heap[g]? =w.heap[g]?):Fr K w' B A c L:=by refine⟨⟨fun h0=>?_,h.rc.2⟩,fun h0=>?_⟩;(. obtain⟨b,o,e,hl,hc⟩:=h.rc.1 h0;refine⟨b,o,e,Nat.lt_of_lt_of_le hl hs,fun i x hx j u hu=>?_⟩;rw[<-hc i x hx j u hu];exact World.cell?_of_block (w:=w) (a:=⟨b,o+(i*K.k+j),none⟩) (hk b o h0 e));. obtain⟨g,o,C,e,hB,hh⟩:=h.own h0;exact⟨g,o,C,e,hB,by rw[hk g o h0 e];exact hh⟩
theorem Fr.kept{α:Type}{K:Kind α}{w w':World}{B:Nat}{A:Option Addr}{c:Nat}{L:List α}(h:Fr K w B A c L)(hb:Bw w w'):Fr K w' B A c L:=h.keep hb.size fun g o h0 e=>by obtain⟨g',o',C,e',_,hh⟩:=h.own h0;rw[e]at e';simp only[Option.some.injEq,Addr.mk.injEq]at e';obtain⟨rfl,-,-⟩:=e';exact hb.block g (Array.getElem?_eq_some_iff.1 hh).1
structure fD(w:World)(B:Nat)(n:Nd)(a:At):Prop where
 kids:Fr KdK w B a.kA a.kc n.kids
 piv:Fr StK w B a.pA a.pc n.piv
 buf:Fr MgK w B a.bA a.bc n.buf
 prs:Fr PrK w B a.qA a.qc n.prs
theorem fD.in_{w:World}{B:Nat}{n:Nd}{a:At}(h:fD w B n a):vw w n a:=⟨h.kids.rc,h.piv.rc,h.buf.rc,h.prs.rc⟩
theorem fD.kept{w w':World}{B:Nat}{n:Nd}{a:At}(h:fD w B n a)(hb:Bw w w'):fD w' B n a:=⟨h.kids.kept hb,h.piv.kept hb,h.buf.kept hb,h.prs.kept hb⟩
end No
namespace Cn
open Mem
def LkW(w:World)(b c m:Nat)(A B:Nat->Nat):Prop:=
 ∃cs:List Value,w.ownsRow 0 198 2 (.slice (some b) m c) m cs/\∀i,i<m->cs[i*2]? =some (.int .i64 (A i:Int))/\cs[i*2+1]? =some (.int .i64 (B i:Int))
section
variable{w w':World}{b c m:Nat}{A B:Nat->Nat}
theorem LkW.heap(h:LkW w b c m A B):∃cur,w.heap[b]? =some (.cells cur 198 (0,0)):=by
 obtain⟨cs,⟨_,h2⟩,_⟩:=h;rcases h2 with⟨h',_⟩|⟨g',cap',cur,he,_,hh,_⟩
 . cases h'
 . obtain⟨rfl,_⟩:b=g'/\c=cap':=by simpa using he
   exact⟨cur,hh⟩
theorem LkW.lt(h:LkW w b c m A B):b<w.heap.size:=by obtain⟨cur,hh⟩:=h.heap;exact(Array.getElem?_eq_some_iff.1 hh).1
theorem LkW.ug(h:LkW w b c m A B){i:Nat}(hi:i<m):w.cell? ⟨b,i*2,none⟩=some (.int .i64 (A i:Int)):=by obtain⟨cs,h1,h2⟩:=h;rw[World.ownsRow.cellAt h1 (i*2) (by omega)];exact(h2 i hi).1
theorem LkW.xQ(h:LkW w b c m A B){i:Nat}(hi:i<m):w.cell? ⟨b,i*2+1,none⟩=some (.int .i64 (B i:Int)):=by obtain⟨cs,h1,h2⟩:=h;rw[World.ownsRow.cellAt h1 (i*2+1) (by omega)];exact(h2 i hi).2
theorem LkW.free(h:LkW w b c m A B)(j:Nat):w.frozen? ⟨b,j,none⟩=false:=by obtain⟨cs,h1,h2⟩:=h;exact World.ownsRow.frozenAt h1 j
theorem LkW.keep(h:LkW w b c m A B)(hk:w'.heap[b]? =w.heap[b]?):LkW w' b c m A B:=by obtain⟨cs,⟨h1,h2⟩,h3⟩:=h;refine⟨cs,⟨h1,?_⟩,h3⟩;rcases h2 with h|⟨g',cap',cur,he,hB,hh,hr⟩;(. exact .inl h);. (obtain⟨rfl,rfl⟩:b=g'/\c=cap':=by simpa using he);exact .inr ⟨b,c,cur,rfl,hB,hk.trans hh,hr⟩
theorem LkW.len{cs:List Value}(h:w.ownsRow 0 198 2 (.slice (some b) m c) m cs):cs.length=m*2:=h.1
theorem LkW.KN(h:LkW w b c m A B){i:Nat}(hi:i<m)(x:Nat):LkW (w.setCell ⟨b,i*2,none⟩ (x:Int)) b c m (upd A i x) B:=by obtain⟨cs,h1,h2⟩:=h;have hl:=LkW.len h1;refine⟨_,(World.ownsRow.stored h1 (i*2) _).1,fun j hj=>?_⟩;rw[List.getElem?_set,List.getElem?_set];by_cases hij:i=j;(. subst hij;refine⟨?_,?_⟩;(. rw[if_pos rfl,if_pos (by omega),upd_same]);. rw[if_neg (by omega)];exact(h2 i hj).2);. refine⟨?_,?_⟩;(. rw[if_neg (by omega),aP _ _ (fun e=>hij e.symm)];exact(h2 j hj).1);. rw[if_neg (by omega)];exact(h2 j hj).2
theorem LkW.KO(h:LkW w b c m A B){i:Nat}(hi:i<m)(x:Nat):LkW (w.setCell ⟨b,i*2+1,none⟩ (x:Int)) b c m A (upd B i x):=by obtain⟨cs,h1,h2⟩:=h;have hl:=LkW.len h1;refine⟨_,(World.ownsRow.stored h1 (i*2+1) _).1,fun j hj=>?_⟩;rw[List.getElem?_set,List.getElem?_set];by_cases hij:i=j;(. subst hij;refine⟨?_,?_⟩;(. rw[if_neg (by omega)];exact(h2 i hj).1);. rw[if_pos rfl,if_pos (by omega),upd_same]);. refine⟨?_,?_⟩;(. rw[if_neg (by omega)];exact(h2 j hj).1);. rw[if_neg (by omega),aP _ _ (fun e=>hij e.symm)];exact(h2 j hj).2
end
structure ChW(w:World)(g b c n:Nat)(k:Int)(A B:Nat->Nat):Prop where
 hd:w.heap[g]? =some (.cells #[.slice (some b) (n+1) c,k] 196 (0,0))
 lk:LkW w b c (n+1) A B
 lo:1<=n
 hi:n<=4096
section
variable{w w':World}{g b c n:Nat}{k:Int}{A B:Nat->Nat}
theorem ChW.DJ(h:ChW w g b c n k A B):g<w.heap.size:=(Array.getElem?_eq_some_iff.1 h.hd).1
theorem ChW.ne(h:ChW w g b c n k A B):g≠b:=by rintro rfl;obtain⟨cur,hh⟩:=h.lk.heap;rw[h.hd]at hh;simp at hh
theorem ChW.cells(h:ChW w g b c n k A B):w.cell? ⟨g,0,none⟩=some (.slice (some b) (n+1) c)/\w.cell? ⟨g,1,none⟩=some (.int .i64 k):=by have:=h.hd;simp[World.cell?,this]
theorem ChW.KP(h:ChW w g b c n k A B)(j:Nat):w.frozen? ⟨g,j,none⟩=false:=by have:=h.hd;simp[World.frozen?,this]
theorem ChW.keep(h:ChW w g b c n k A B)(hg:w'.heap[g]? =w.heap[g]?)(hb:w'.heap[b]? =w.heap[b]?):ChW w' g b c n k A B:=⟨hg.trans h.hd,h.lk.keep hb,h.lo,h.hi⟩
theorem ChW.kept(h:ChW w g b c n k A B)(hb:Bw w w'):ChW w' g b c n k A B:=h.keep (hb.block g h.DJ) (hb.block b h.lk.lt)
theorem GZ{S:List Nat}(w:World)(a:Addr)(v:Value)(ha:a.block∈S):Flow.Into S w (w.setCell a v):=
 ⟨rfl,rfl,rfl,by simp[World.setCell],fun k _ hn=>Below.heap_setCell _ _ _ _ (by rintro rfl;exact hn ha)⟩
theorem ChW.KN(h:ChW w g b c n k A B){i:Nat}(hi:i<=n)(x:Nat):ChW (w.setCell ⟨b,i*2,none⟩ (x:Int)) g b c n k (upd A i x) B:=
 ⟨(Below.heap_setCell _ _ _ _ h.ne).trans h.hd,h.lk.KN (by omega) x,h.lo,h.hi⟩
theorem ChW.KO(h:ChW w g b c n k A B){i:Nat}(hi:i<=n)(x:Nat):ChW (w.setCell ⟨b,i*2+1,none⟩ (x:Int)) g b c n k A (upd B i x):=
 ⟨(Below.heap_setCell _ _ _ _ h.ne).trans h.hd,h.lk.KO (by omega) x,h.lo,h.hi⟩
theorem ChW.Rm(h:ChW w g b c n k A B)(k':Int):ChW (w.setCell ⟨g,1,none⟩ k') g b c n k' A B:=by refine⟨?_,h.lk.keep (Below.heap_setCell _ _ _ _ (fun e=>h.ne e.symm)),h.lo,h.hi⟩;have:=h.hd;have hg:=h.DJ;simp only[World.setCell,Array.getElem?_modify,this];simp
end
def Chn(w:World)(g b n:Nat)(l:List Nat):Prop:=∃c A B,ChW w g b c n (l.length:Int) A B/\Ring n A B l
section
variable{w w':World}{g b n:Nat}{l:List Nat}
theorem Chn.kept(h:Chn w g b n l)(hb:Bw w w'):Chn w' g b n l:=by obtain⟨c,A,B,h1,h2⟩:=h;exact⟨c,A,B,h1.kept hb,h2⟩
theorem Chn.into{S:List Nat}(h:Chn w g b n l)(hb:Flow.Into S w w')(hg:g∉S)(hbb:b∉S):Chn w' g b n l:=by obtain⟨c,A,B,h1,h2⟩:=h;exact⟨c,A,B,h1.keep (hb.block g h1.DJ hg) (hb.block b h1.lk.lt hbb),h2⟩
theorem Chn.lt(h:Chn w g b n l):g<w.heap.size/\b<w.heap.size/\g≠b/\1<=n/\n<=4096/\l.length<=n/\l.Nodup/\∀x∈l,x<n:=by obtain⟨c,A,B,h1,h2⟩:=h;exact⟨h1.DJ,h1.lk.lt,h1.ne,h1.lo,h1.hi,h2.yX,h2.nd,h2.lt⟩
end
end Cn
end Go.Proofs.YtmcbidhpkpmalaaGreatDoor
namespace Go.Proofs.YtmcbidhpkpmalaaGreatDoor
open Go.RowKit
open Go.Lib (hid)
namespace Cn
open Mem
theorem qw(g b c n:Nat)(k:Int)(A B:Nat->Nat)(w:World)(h:ChW w g b c n k A B):CW 112 #[g] w (.int .i64 (n:Int)):=by (obtain⟨c0,-⟩:=h.cells;have h1:=h.hi;have h2:((n+1:Nat):Int)-1=(n:Int):=by omega);clear h;go_enter Tryz.func112,Tryz.ntmps112;go_wp2;go_ret;exact⟨rfl,rfl⟩
theorem kY(g b c n:Nat)(k:Int)(A B:Nat->Nat)(w:World)(h:ChW w g b c n k A B):CW 139 #[g] w (.int .i64 k):=by obtain⟨-,c1⟩:=h.cells;clear h;go_enter Tryz.func139,Tryz.ntmps139;go_wp2;go_ret;exact⟨rfl,rfl⟩
theorem fH(g b c n:Nat)(k:Int)(A B:Nat->Nat)(i:Int)(w:World)(h:ChW w g b c n k A B)(h0:0<=i)(h1:i<n):CW 102 #[g,i] w (.int .i64 0):=by (obtain⟨c0,-⟩:=h.cells;have cE:=fun w h=>hid (qw g b c n k A B w h);have HR:=hid h;have hn0:(((n+1:Nat):Int)==0)=false:=by simp;omega);have hn:=h.hi;clear h;go_enter Tryz.func102,Tryz.ntmps102;go_wp2_with (go_at_call 112;refine(cE _ HR.out).mono ?_;rintro e w' ⟨rfl,rfl⟩);go_ret;exact⟨rfl,rfl⟩
theorem iO(g b c n:Nat)(k:Int)(A B:Nat->Nat)(i:Int)(w:World)(h:ChW w g b c n k A B)(h0:¬(0<=i/\i<n)):CW 102 #[g,i] w (.int .i64 4):=by (obtain⟨c0,-⟩:=h.cells;have cE:=fun w h=>hid (qw g b c n k A B w h);have HR:=hid h;have hn0:(((n+1:Nat):Int)==0)=false:=by simp;omega);have hn:=h.hi;clear h;by_cases hi:i<0;(. clear h0;go_enter Tryz.func102,Tryz.ntmps102;go_wp2_with (go_at_call 112;refine(cE _ HR.out).mono ?_;rintro e w' ⟨rfl,rfl⟩);go_ret;exact⟨rfl,rfl⟩);. (have h1:(n:Int)<=i:=by omega);have h2:0<=i:=(by omega);clear h0 hi;go_enter Tryz.func102,Tryz.ntmps102;go_wp2_with (go_at_call 112;refine(cE _ HR.out).mono ?_;rintro e w' ⟨rfl,rfl⟩);go_ret;exact⟨rfl,rfl⟩
theorem su(g b c n i:Nat)(k:Int)(A B:Nat->Nat)(w:World)(h:ChW w g b c n k A B)(h1:i<n):CW 103 #[g,(i:Int)] w (.bool (B i != i)):=by (have HR:=hid h;obtain⟨c0,-⟩:=h.cells;have cP:=fun w h=>hid (fH g b c n k A B i w h (by omega) (by omega));have c2:=h.lk.xQ (i:=i) (by omega);have hn:=h.hi;have hb:((B i:Int) != (i:Int))=(B i != i):=by rw[Bool.eq_iff_iff];simp;omega);generalize (B i != i)=v at hb ⊢;generalize (B i:Int)=x at hb c2;clear h;go_enter Tryz.func103,Tryz.ntmps103;go_wp2_with (go_at_call 102;refine(cP _ HR.out).mono ?_;rintro e w' ⟨rfl,rfl⟩);go_ret;exact⟨rfl,rfl⟩
theorem KQ(g b c n:Nat)(i:Int)(k:Int)(A B:Nat->Nat)(w:World)(h:ChW w g b c n k A B)(h1:¬(0<=i/\i<n)):CW 103 #[g,i] w (.bool false):=by have HR:=hid h;have cP:=fun w h=>hid (iO g b c n k A B i w h h1);clear h h1;go_enter Tryz.func103,Tryz.ntmps103;go_wp2_with (go_at_call 102;refine(cP _ HR.out).mono ?_;rintro e w' ⟨rfl,rfl⟩);go_ret;exact⟨rfl,rfl⟩
end Cn
namespace Cn
open Mem
theorem DK(g b c n:Nat)(k:Int)(A B:Nat->Nat)(w:World)(h:ChW w g b c n k A B)(hk:(k==0)=false):CB 105 #[g] w (.tuple #[(A n:Int),.bool true]):=by (have HR:=hid h;have cL:=fun w h=>hid (kY g b c n k A B w h);have cE:=fun w h=>hid (qw g b c n k A B w h);obtain⟨d0,-⟩:=h.cells;have d1:=h.lk.ug (i:=n) (by omega);have hn:=h.hi;have hL:(n:Int)<(n:Int)+1:=by omega);generalize (A n:Int)=x at*;have e0:=ah.tc d0;have e1:=ah.tc d1;clear h d0 d1;go_enter Tryz.func105,Tryz.ntmps105;go_wp2_with (go_at_call 139;refine(cL _ HR.out).mono ?_;rintro e w' ⟨rfl,rfl⟩);refine ah.aj [] [(0,[]),(1,[]),(2,[]),(3,[]),(4,[]),(5,[]),(6,[]),(7,[]),(8,[]),(9,[]),(10,[])] [] [] (by kernel_rfl) (by kernel_rfl) (by simp) ?_;simp only[ah.pick,ah.aM,ah.dL];(repeat (refine ah.ak (fun K hK=>?_);go_simp;first|(refine hK _ ?_;clear hK K)|(apply Exists.intro;refine⟨fun q=>?_,hK _ ?_⟩;(go_at_call 112;exact(cE _ (HR.keep (q.into.block g HR.DJ (by simp)) (q.into.block b HR.lk.lt (by simp)))).mono fun e w' ⟨he,hw⟩=>⟨he,by subst hw;exact Below.refl _ _⟩);clear hK K)));refine ah.walk_nil ?_;intro w2 hb2 _;have HB2:=hid hb2;clear hb2;simp only[lC,List.drop_nil,Nat.zero_add,Nat.reduceAdd];go_wp2_with fail;exact bodyPost_ret (v:= .tuple #[x,.bool true]) (by simp[results,Tryz.results105,go_sem]) rfl ⟨rfl,HB2.out⟩
theorem DL(g b c n:Nat)(A B:Nat->Nat)(w:World)(h:ChW w g b c n 0 A B):CB 105 #[g] w (.tuple #[(0:Int),.bool false]):=by have HR:=hid h;have cL:=fun w h=>hid (kY g b c n 0 A B w h);clear h;go_enter Tryz.func105,Tryz.ntmps105;go_wp2_with (go_at_call 139;refine(cL _ HR.out).mono ?_;rintro e w' ⟨rfl,rfl⟩);exact bodyPost_ret (v:= .tuple #[(0:Int),.bool false]) (by simp[results,Tryz.results105,go_sem]) rfl ⟨rfl,Below.refl _ _⟩
end Cn
end Go.Proofs.YtmcbidhpkpmalaaGreatDoor
