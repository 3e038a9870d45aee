import Derived.Test.YtmcbidhpkpmalaaGreatDoorPqSeekC3
set_option maxHeartbeats 4000000
set_option maxRecDepth 100000
namespace Go.Proofs.YtmcbidhpkpmalaaGreatDoor
open Go.RowKit
open Go.Lib (hid)
open ah.aQ (cell)
open List (mem_append mem_cons mem_singleton)
namespace Sk
open Mem Lx Bu Lf Fa No Sh Bt Po
theorem I9:(Tryz.prog.info? 30).map (fun i=>(i.zero,i.size,i.bytes))=some (some (.int .u32 0),1,4):=by kernel_rfl
theorem wO:(Tryz.prog.info? 50).map (fun i=>(i.zero,i.size,i.bytes))=some (some (.agg #[(0:Int),(),(),(),()]),5,104):=by kernel_rfl
def tA(A:Option Addr):List Nat:=match A with
 |some a=>[a.block]
 |none=>[]
theorem aX{A:Option Addr}{a:Addr}(h:A=some a):a.block∈tA A:=by subst h;exact mem_singleton.2 rfl
theorem bU{A:Option Addr}{x:Nat}(h:x∈tA A):∃a,A=some a/\a.block=x:=by cases A with|none=>cases h|some a=>exact⟨a,rfl,(mem_singleton.1 h).symm⟩
structure JwS(w:World)(lo g1 g2:Nat)(X:List (Nd × At))(Bs:List Nat)(A B:Option Addr)(cA cB:Nat):Prop where
 b1:aH 35 w g1 #[.slice A X.length cA]
 b2:aH 36 w g2 #[.slice B Bs.length cB]
 va:VK jD w lo A cA X
 vb:VK KdK w lo B cB Bs
 nd:∀x,x∈X->∃m,fD w m x.1 x.2
 nb:∀x,x∈X->∀b,B=some b->b.block∉kQ x.1 x.2
def tW(g1 g2:Nat)(X:List (Nd × At))(A B:Option Addr):List Nat:=g1::g2::(tA A++(tA B++X.flatMap fun x=>kQ x.1 x.2))
section
variable{w w':World}{lo g1 g2:Nat}{X:List (Nd × At)}{Bs:List Nat}{A B:Option Addr}{cA cB:Nat}
theorem JwS.same(h:JwS w lo g1 g2 X Bs A B cA cB)(hs:Same (tW g1 g2 X A B) w w'):JwS w' lo g1 g2 X Bs A B cA cB:=by have hm:∀x,x∈tW g1 g2 X A B->w'.heap[x]? =w.heap[x]? :=hs.2;unfold tW at hm;refine⟨(hm g1 (by simp)).trans h.b1,(hm g2 (by simp)).trans h.b2,h.va.keep fun a ha=>hm _ (by simp[aX ha]),h.vb.keep fun a ha=>hm _ (by simp[aX ha]),fun x hx=>?_,h.nb⟩;obtain⟨m,hn⟩:=h.nd x hx;exact⟨m,fD.same hn ⟨hs.1,fun y hy=>hm y (by simp only[mem_cons,mem_append,List.mem_flatMap];exact .inr (.inr (.inr (.inr ⟨x,hx,hy⟩))))⟩⟩
theorem JwS.lt(h:JwS w lo g1 g2 X Bs A B cA cB):∀x,x∈tW g1 g2 X A B->x<w.heap.size:=fun x hx=>by unfold tW at hx;simp only[mem_cons,mem_append,List.mem_flatMap]at hx;rcases hx with rfl|rfl|hx|hx|⟨y,hy,hx⟩;(. exact h.b1.lt);(. exact h.b2.lt);(. obtain⟨a,ha,rfl⟩:=bU hx;exact(h.va.at_ a ha).2);(. obtain⟨a,ha,rfl⟩:=bU hx;exact(h.vb.at_ a ha).2);. obtain⟨m,hn⟩:=h.nd y hy;exact(fD.blk hn hx).2
end
theorem dJ{α:Type}{K:Kind α}{w:World}{g lo c:Nat}{A:Option Addr}{L:List α}{X:Array Value}{U:TypeId}{fl:Nat × Nat}(h:VK K w lo A c L)(hx:w.heap[g]? =some (.cells X U fl))(hU:U≠K.T):g∉tA A:=fun hy=>by (obtain⟨a,ha,rfl⟩:=bU hy;rcases h.2 with⟨h6,-⟩|⟨g',cap,cur,he,-,hh,-⟩);(. rw[ha]at h6;cases h6);. rw[ha]at he;(cases he);rw[hx]at hh;simp only[Option.some.injEq,Obj.cells.injEq]at hh;exact hU hh.2.1
theorem nQ{α β:Type}{K:Kind α}{K':Kind β}{w:World}{lo lo' c c':Nat}{A B:Option Addr}{L:List α}{L':List β}(h:VK K w lo A c L)(h':VK K' w lo' B c' L')(hU:K'.T≠K.T){a b:Addr}(ha:A=some a)(hb:B=some b):a.block≠b.block:=fun e=>by (rcases h'.2 with⟨h6,-⟩|⟨g',cap,cur,he,-,hh,-⟩);(. rw[hb]at h6;cases h6);. rw[hb]at he;(cases he);have h9:=aX ha;rw[e]at h9;exact dJ h hh hU h9
theorem Ja{α β:Type}{K:Kind α}{K':Kind β}{w:World}{lo lo' c c':Nat}{A B:Option Addr}{L:List α}{L':List β}(h:VK K w lo A c L)(h':Fr K' w lo' B c' L')(hU:K'.T≠K.T){y:Nat}(hy:y∈yK B L'.length):y∉tA A:=by obtain⟨h0,b,hb,rfl⟩:=fK hy;obtain⟨g,o,C,e,-,hh⟩:=h'.own h0;rw[hb]at e;cases e;exact dJ h hh hU
theorem Jb{α:Type}{K:Kind α}{w:World}{lo c m:Nat}{A:Option Addr}{L:List α}{n:Nd}{a:At}(h:VK K w lo A c L)(hn:fD w m n a)(h1:KdK.T≠K.T)(h2:StK.T≠K.T)(h3:MgK.T≠K.T)(h4:PrK.T≠K.T){y:Nat}(hy:y∈kQ n a):y∉tA A:=by
 unfold kQ at hy;simp only[mem_append]at hy;rcases hy with hy|hy|hy|hy
 . exact Ja h hn.kids h1 hy
 . exact Ja h hn.piv h2 hy
 . exact Ja h hn.buf h3 hy
 . exact Ja h hn.prs h4 hy
theorem Fw{β:Type}{K':Kind β}{w:World}{g lo' c':Nat}{B:Option Addr}{L':List β}{X:Array Value}{U:TypeId}{fl:Nat × Nat}(h':Fr K' w lo' B c' L')(hx:w.heap[g]? =some (.cells X U fl))(hU:U≠K'.T):g∉yK B L'.length:=fun hy=>by obtain⟨h0,b,hb,rfl⟩:=fK hy;obtain⟨g,o,C,e,-,hh⟩:=h'.own h0;rw[hb]at e;cases e;rw[hx]at hh;simp only[Option.some.injEq,Obj.cells.injEq]at hh;exact hU hh.2.1
theorem Jc{w:World}{g m:Nat}{n:Nd}{a:At}{X:Array Value}{U:TypeId}{fl:Nat × Nat}(hn:fD w m n a)(hx:w.heap[g]? =some (.cells X U fl))(h1:U≠KdK.T)(h2:U≠StK.T)(h3:U≠MgK.T)(h4:U≠PrK.T):g∉kQ n a:=fun hy=>by
 unfold kQ at hy;simp only[mem_append]at hy;rcases hy with hy|hy|hy|hy
 . exact Fw hn.kids hx h1 hy
 . exact Fw hn.piv hx h2 hy
 . exact Fw hn.buf hx h3 hy
 . exact Fw hn.prs hx h4 hy
theorem NdV.fr{w:World}{m:Nat}{n:Nd}{a:At}(h:NdV w m n a):fD w m n a:=⟨Fr.iN h.kids,Fr.iN h.piv,Fr.iN h.buf,Fr.iN h.prs⟩
theorem JwS.step{w w1 w5 w6 w7:World}{lo g1 g2 m:Nat}{X:List (Nd × At)}{Bs:List Nat}{A B A5 B5:Option Addr}{cA cB c5 d5:Nat}{n:Nd}{a:At}{b:Nat}(h:JwS w lo g1 g2 X Bs A B cA cB)(hg:g1≠g2)(hn:NdV w m n a)(ht:∀y,y∈tW g1 g2 X A B->y<m)(_:m<=w.heap.size)(h1:Bw w w1)(h5:jc jD lo w1 w5 A A5 c5 (X++[(n,a)]))(h6:jc KdK lo w5 w6 B B5 d5 (Bs++[b]))(h7:Bw w6 w7):
 JwS ((w7.setCell ⟨g1,0,none⟩ (.slice A5 (X.length+1) c5)).setCell ⟨g2,0,none⟩ (.slice B5 (Bs.length+1) d5)) lo g1 g2 (X++[(n,a)]) (Bs++[b]) A5 B5 c5 d5/\(∀y,y∈tW g1 g2 (X++[(n,a)]) A5 B5->y∈tW g1 g2 X A B\/y∈kQ n a\/w.heap.size<=y)/\Flow.Into (tW g1 g2 X A B) w ((w7.setCell ⟨g1,0,none⟩ (.slice A5 (X.length+1) c5)).setCell ⟨g2,0,none⟩ (.slice B5 (Bs.length+1) d5)):=by
 have s1:=h1.size;have s5:=h5.below.size;have s6:=h6.below.size;have s7:=h7.size;have l1:=h.b1.lt;have l2:=h.b2.lt;have k5:∀y,y<w.heap.size->y∉tA A->w5.heap[y]? =w.heap[y]? :=fun y hy hA=>(h5.block y (by omega) fun a ha e=>hA (e▸aX ha)).trans (h1.block y hy)
 have k7:∀y,y<w.heap.size->y∉tA A->y∉tA B->w7.heap[y]? =w.heap[y]? :=fun y hy hA hB=>(h7.block y (by omega)).trans ((h6.block y (by omega) fun a ha e=>hB (e▸aX ha)).trans (k5 y hy hA))
 have b1:aH 35 w7 g1 #[.slice A X.length cA]:=(k7 g1 l1 (dJ h.va h.b1 (by decide)) (dJ h.vb h.b1 (by decide))).trans h.b1;have b2:aH 36 w7 g2 #[.slice B Bs.length cB]:=(k7 g2 l2 (dJ h.va h.b2 (by decide)) (dJ h.vb h.b2 (by decide))).trans h.b2;have v6:VK KdK w7 lo B5 d5 (Bs++[b]):=h6.vo.kept h7
 have vb5:VK KdK w5 lo B cB Bs:=h.vb.keep fun q hq=>k5 _ (h.vb.at_ q hq).2 fun hh=>by
  obtain⟨q2,h2,e⟩:=bU hh;exact nQ h.va h.vb (by decide) h2 hq e
 have v5:VK jD w7 lo A5 c5 (X++[(n,a)]):=(h5.vo.keep fun q hq=>h6.block _ (h5.vo.at_ q hq).2 fun q2 h2 e=>nQ h5.vo vb5 (by decide) hq h2 e.symm).kept h7;generalize hw9:(w7.setCell ⟨g1,0,none⟩ (.slice A5 (X.length+1) c5)).setCell ⟨g2,0,none⟩ (.slice B5 (Bs.length+1) d5)=w9;have s9:w9.heap.size=w7.heap.size:=by rw[<-hw9];simp[World.setCell]
 have k9:∀y,y≠g1->y≠g2->w9.heap[y]? =w7.heap[y]? :=fun y n1 n2=>by
  rw[<-hw9];exact(aT _ n2).trans (aT _ n1)
 have hk:∀y,y<w.heap.size->y∉tW g1 g2 X A B->w9.heap[y]? =w.heap[y]? :=fun y hy ht=>by
  unfold tW at ht;simp only[mem_cons,mem_append,not_or]at ht;exact(k9 y ht.1 ht.2.1).trans (k7 y hy ht.2.2.1 ht.2.2.2.1)
 have hnb:∀y,y∈kQ n a->y<w.heap.size/\y∉tW g1 g2 X A B:=fun y hy=>by
  have:=fD.blk (NdV.fr hn) hy;exact⟨this.2,fun hh=>by have:=ht y hh;omega⟩
 have hB5:∀q,B5=some q->q.block∈tA B\/w.heap.size<=q.block:=fun q hq=>by
  rcases h6.row q hq with⟨q2,h2,e⟩|e
  . exact .inl (e▸aX h2)
  . exact .inr (by omega)
 have hA5:∀q,A5=some q->q.block∈tA A\/w.heap.size<=q.block:=fun q hq=>by
  rcases h5.row q hq with⟨q2,h2,e⟩|e
  . exact .inl (e▸aX h2)
  . exact .inr (by omega)
 refine⟨⟨?_,?_,?_,?_,fun x hx=>?_,fun x hx q hq hy=>?_⟩,fun y hy=>?_,?_⟩
 . rw[<-hw9,List.length_append]
   exact(aT _ hg).trans (b1.set 0 _)
 . rw[<-hw9,List.length_append]
   exact aH.set (C:= #[.slice B Bs.length cB]) ((aT _ (fun e=>hg e.symm)).trans b2) 0 _
 . exact v5.keep fun q hq=>k9 _ (fun e=>dJ v5 b1 (by decide) (e▸aX hq)) (fun e=>dJ v5 b2 (by decide) (e▸aX hq))
 . exact v6.keep fun q hq=>k9 _ (fun e=>dJ v6 b1 (by decide) (e▸aX hq)) (fun e=>dJ v6 b2 (by decide) (e▸aX hq))
 . rcases mem_append.1 hx with hx|hx
   . obtain⟨m',hf⟩:=h.nd x hx
     refine⟨m',fD.same hf ⟨by omega,fun y hy=>(k9 y ?_ ?_).trans (k7 y (fD.blk hf hy).2 (Jb h.va hf (by decide) (by decide) (by decide) (by decide) hy) fun hh=>?_)⟩⟩
     . rintro rfl
       exact Jc hf h.b1 (by decide) (by decide) (by decide) (by decide) hy
     . rintro rfl
       exact Jc hf h.b2 (by decide) (by decide) (by decide) (by decide) hy
     . obtain⟨q,hq,rfl⟩:=bU hh
       exact h.nb x hx q hq hy
   . obtain rfl:=mem_singleton.1 hx
     exact⟨m,fD.same (NdV.fr hn) ⟨by omega,fun y hy=>hk y (hnb y hy).1 (hnb y hy).2⟩⟩
 . rcases mem_append.1 hx with hx|hx
   . obtain⟨m',hf⟩:=h.nd x hx
     rcases hB5 q hq with h8|h8
     . obtain⟨q2,h2,e⟩:=bU h8
       exact h.nb x hx q2 h2 (e▸hy)
     . have:=(fD.blk hf hy).2
       omega
   . obtain rfl:=mem_singleton.1 hx
     rcases hB5 q hq with h8|h8
     . exact(hnb _ hy).2 (by unfold tW;simp[h8])
     . have:=(hnb _ hy).1
       omega
 . unfold tW at hy ⊢
   simp only[mem_cons,mem_append,List.flatMap_append,List.flatMap_cons,List.flatMap_nil,List.append_nil]at hy ⊢;rcases hy with hy|hy|hy|hy|hy|hy
   . simp[hy]
   . simp[hy]
   . obtain⟨q,hq,rfl⟩:=bU hy
     rcases hA5 q hq with h8|h8
     . simp[h8]
     . exact .inr (.inr h8)
   . obtain⟨q,hq,rfl⟩:=bU hy
     rcases hB5 q hq with h8|h8
     . simp[h8]
     . exact .inr (.inr h8)
   . exact .inl (.inr (.inr (.inr (.inr hy))))
   . exact .inr (.inl (by simpa using hy))
 . exact⟨by rw[<-hw9];exact h7.os.trans (h6.below.os.trans (h5.below.os.trans h1.os)),by rw[<-hw9];exact h7.tape.trans (h6.below.tape.trans (h5.below.tape.trans h1.tape)),by rw[<-hw9];exact h7.output.trans (h6.below.output.trans (h5.below.output.trans h1.output)),by omega,hk⟩
theorem Jd{w:World}{lo g1 g2:Nat}{X:List (Nd × At)}{Bs:List Nat}{A B:Option Addr}{cA cB:Nat}(h:JwS w lo g1 g2 X Bs A B cA cB)(hlo:lo<=w.heap.size)(hg:g1≠g2)(hl:X.length<=1000)(hl2:Bs.length<=1000){n:Nd}{a:At}{m:Nat}(hn:NdV w m n a)(ht:∀y,y∈tW g1 g2 X A B->y<m)(hm:m<=w.heap.size)(b:Nat):Calls Tryz.prog 29 #[.int .u32 (b:Int),.agg (dO n a),g1,g2] w fun e w'=>e=.returned (.bool true)/\∃A' B' cA' cB',JwS w' lo g1 g2 (X++[(n,a)]) (Bs++[b]) A' B' cA' cB'/\(∀y,y∈tW g1 g2 (X++[(n,a)]) A' B'->y∈tW g1 g2 X A B\/y∈kQ n a\/w.heap.size<=y)/\Flow.Into (tW g1 g2 X A B) w w':=by obtain⟨lv,kids,piv,buf,prs⟩:=n;obtain⟨kA,kc,pA,pc,bA,bc,qA,qc⟩:=a;have HN:=hid hn;have HT:=hid ht;have HH:=hid h;have HM:=hid hm;obtain⟨Xn,hXn⟩:=eX X.length;obtain⟨Bn,hBn⟩:=eX Bs.length;have b1:=h.b1;have b2:=h.b2;rw[<-hXn]at b1 hl;rw[<-hBn]at b2 hl2;have HLN:=hid (And.intro hXn.symm hBn.symm);have hb0:Bw w (w.alloc (.cells #[lv,.slice kA kids.length kc,.slice pA piv.length pc,.slice bA buf.length bc,.slice qA prs.length qc] 50)):=bAx;have hx:=aH.new 50 w #[lv,.slice kA kids.length kc,.slice pA piv.length pc,.slice bA buf.length bc,.slice qA prs.length qc];have HG:=hid (And.intro b1.lt b2.lt);have HB1:=hid (b1.kept hb0);have HB2:=hid (b2.kept hb0);unfold dO;simp only;clear h hn ht hXn hBn b1 b2 hm;go_enter Tryz.func29,Tryz.ntmps29;go_upto_region 1 with fail;generalize w.alloc (.cells #[lv,.slice kA kids.length kc,.slice pA piv.length pc,.slice bA buf.length bc,.slice qA prs.length qc] 50)=w1 at*;obtain⟨g,hg9⟩:=eX w.heap.size;rw[<-hg9]at hx;simp only[<-hg9];have HB0:=hid hb0;have HSZ:=hid hg9;have HX:=hid hx;clear hx hb0 hg9;(have hS3:∀k,k∈tA A++tA B->k<w1.heap.size:=fun k hk=>by have hs:=HB0.size;rcases mem_append.1 hk with hk|hk;(. obtain⟨a,ha,rfl⟩:=bU hk;exact Nat.lt_of_lt_of_le (HH.va.at_ a ha).2 hs);. obtain⟨a,ha,rfl⟩:=bU hk;exact Nat.lt_of_lt_of_le (HH.vb.at_ a ha).2 hs);have hn1:g1∉tA A++tA B:=fun hh=>(mem_append.1 hh).elim (dJ HH.va HH.b1 (by decide)) (dJ HH.vb HH.b1 (by decide));have hn2:g2∉tA A++tA B:=fun hh=>(mem_append.1 hh).elim (dJ HH.va HH.b2 (by decide)) (dJ HH.vb HH.b2 (by decide));(have hn3:g∉tA A++tA B:=fun hh=>by have hs:=HSZ.out;rcases mem_append.1 hh with hk|hk;(. obtain⟨a,ha,e⟩:=bU hk;have:=(HH.va.at_ a ha).2;omega);. obtain⟨a,ha,e⟩:=bU hk;have:=(HH.vb.at_ a ha).2;omega);(obtain⟨c0,c1,c2,c3,c4⟩:=bD HX.out;have y1:=fun q:ah.aQ (tA A++tA B) w1 []=>cell (HB1.cell (i:=0) rfl) hn1 q;have y2:=fun q:ah.aQ (tA A++tA B) w1 []=>cell (HB2.cell (i:=0) rfl) hn2 q;have x0:=fun q:ah.aQ (tA A++tA B) w1 []=>cell c0 hn3 q;have x1:=fun q:ah.aQ (tA A++tA B) w1 []=>cell c1 hn3 q;have x2:=fun q:ah.aQ (tA A++tA B) w1 []=>cell c2 hn3 q;have x3:=fun q:ah.aQ (tA A++tA B) w1 []=>cell c3 hn3 q;have x4:=fun q:ah.aQ (tA A++tA B) w1 []=>cell c4 hn3 q;have HL1:Hid (lo<=w1.heap.size):=Nat.le_trans hlo HB0.size;have hm1:Xn+1<=1048576:=by omega);(have hm2:Bn+1<=1048576:=by omega);have HVA:Hid (VK jD w1 lo A cA X):=HH.va.kept HB0.out;have HVB:Hid (VK KdK w1 lo B cB Bs):=HH.vb.kept HB0.out;clear c0 c1 c2 c3 c4 hn1 hn2 hn3 hl hl2 hlo;refine ah.aj (tA A++tA B) [(0,[]),(1,[]),(4,[]),(5,[]),(2,[6]),(3,[6]),(6,[]),(7,[])] [3,7] [2,6] (by kernel_rfl) (by kernel_rfl) hS3 ?_;clear hS3;simp only[ah.pick,ah.aM,ah.dL,List.filterMap_cons];(repeat (refine ah.ak (fun K hK=>?_);go_simp;(refine hK _ ?_;clear hK K)));refine ah.bP rfl (ah.dY rfl (fun b=> .slice (some (b:Nat)) 1 1) (.cells #[.int .u32 (b:Int)] 30) (fun W=>by go_simp) fun _ _=>ah.aC) (fun b=> .slice (some (b:Nat)) 1 1) (.cells #[lv,.slice kA kids.length kc,.slice pA piv.length pc,.slice bA buf.length bc,.slice qA prs.length qc] 50) (fun W=>by go_simp) (fun p1 hp1 hT1=>?_);refine ah.aJ rfl (ah.dY rfl (fun b=> .slice (some (b:Nat)) 1 1) (.cells #[.int .u32 (b:Int)] 30) (fun W=>by go_simp) fun _ _=>ah.aC) (uz jD lo w1 A (Xn+1) (X++[(⟨lv,kids,piv,buf,prs⟩,⟨kA,kc,pA,pc,bA,bc,qA,qc⟩)])) (fun W2 hk hl2=>?_) (fun v w5 hv hI _ hTd=>?_);(. exact gF (K:=jD) Tryz.underlying35 wO rfl (by decide) (by decide) (.tmp 7) (.tmp 9) rfl lo A Xn cA X rfl HLN.1 HVA.out hk p1 1 (⟨lv,kids,piv,buf,prs⟩,⟨kA,kc,pA,pc,bA,bc,qA,qc⟩) rfl (hl2 (p1,(.cells #[lv,.slice kA kids.length kc,.slice pA piv.length pc,.slice bA buf.length bc,.slice qA prs.length qc] 50)) (by simp)) hm1 HL1.out (fun a ha=>List.mem_append_left _ (aX ha)));obtain⟨A5,c5,rfl,hd5⟩:=hv;have HD5:=hid hd5;have RP:Hid (VK KdK w5 lo B cB Bs):=HVB.keep fun q hq=>hd5.block _ (HVB.at_ q hq).2 fun q2 h2=>nQ HVA.out HVB.out (by decide) h2 hq;have HL5:Hid (lo<=w5.heap.size):=Nat.le_trans HL1.out hd5.below.size;clear hI hd5 hTd hT1;refine ah.bP rfl ah.aC (fun b=> .slice (some (b:Nat)) 1 1) (.cells #[.int .u32 (b:Int)] 30) (fun W=>by go_simp) (fun p2 hp2 hT2=>?_);refine ah.aJ rfl ah.aC (uz KdK lo w5 B (Bn+1) (Bs++[b])) (fun W2 hk hl2=>?_) (fun v w6 hv hI _ hTd=>?_);(. exact gF (K:=KdK) Tryz.underlying36 I9 rfl (by decide) (by decide) (.tmp 11) (.tmp 13) rfl lo B Bn cB Bs rfl HLN.2 RP.out hk p2 1 b rfl (hl2 (p2,.cells #[.int .u32 (b:Int)] 30) (by simp)) hm2 HL5.out (fun a ha=>List.mem_append_right _ (aX ha)));obtain⟨B5,d5,rfl,hd6⟩:=hv;have HD6:=hid hd6;clear hI hd6 hTd hT2;refine ah.walk_nil ?_;intro w7 hb7 _;have hs:=JwS.step HH.out hg HN.out HT.out (m:=m) HM.out HB0.out HD5.out HD6.out hb7;(have s7:w7.heap.size>=w.heap.size:=by have:=HB0.size;have:=HD5.below.size;have:=HD6.below.size;have:=hb7.size;omega);have k7:∀y,y<w.heap.size->y∉tA A->y∉tA B->w7.heap[y]? =w.heap[y]? :=fun y hy hA hB=>(hb7.block y (by have:=HB0.size;have:=HD5.below.size;have:=HD6.below.size;omega)).trans ((HD6.block y (by have:=HB0.size;have:=HD5.below.size;omega) fun a ha e=>hB (e▸aX ha)).trans ((HD5.block y (by have:=HB0.size;omega) fun a ha e=>hA (e▸aX ha)).trans (HB0.block y hy)));have b1:aH 35 w7 g1 #[.slice A X.length cA]:=(k7 g1 HG.1 (dJ HH.va HH.b1 (by decide)) (dJ HH.vb HH.b1 (by decide))).trans HH.b1;have b2:aH 36 w7 g2 #[.slice B Bs.length cB]:=(k7 g2 HG.2 (dJ HH.va HH.b2 (by decide)) (dJ HH.vb HH.b2 (by decide))).trans HH.b2;rw[HLN.1,HLN.2]at hs;have HS:=hid hs;have d1:=b1.cell (i:=0) rfl;have d2:=b2.cell (i:=0) rfl;have f1:=b1.free 0;have f2:=b2.free 0;clear hs s7 k7 b1 b2 hb7 y1 y2 x0 x1 x2 x3 x4 HVA HVB RP HL1 HL5 HD5 HD6 HX HB1 HB2;simp only[lC,List.drop_zero,Nat.zero_add,Nat.reduceAdd];go_wp2_with fail;go_ret;exact⟨rfl,A5,B5,c5,d5,HS.out⟩
end Sk
end Go.Proofs.YtmcbidhpkpmalaaGreatDoor
namespace Go.Proofs.YtmcbidhpkpmalaaGreatDoor
open Go.RowKit
open Go.Lib (hid)
open List (mem_append mem_cons mem_singleton)
namespace Sk
open Mem Lx Bu Lf Fa No Sh Bt Po
structure JgS(w:World)(lo g1 g2:Nat)(key:ByteArray)(X:List (Nd × At))(A:Option Addr)(cA:Nat):Prop where
 b1:aH 35 w g1 #[.slice A X.length cA]
 b2:aH 9 w g2 #[.string key]
 va:VK jD w lo A cA X
 nd:∀x,x∈X->∃m,fD w m x.1 x.2
def tG(g1 g2:Nat)(X:List (Nd × At))(A:Option Addr):List Nat:=g1::g2::(tA A++X.flatMap fun x=>kQ x.1 x.2)
section
variable{w w':World}{lo g1 g2:Nat}{key:ByteArray}{X:List (Nd × At)}{A:Option Addr}{cA:Nat}
theorem JgS.same(h:JgS w lo g1 g2 key X A cA)(hs:Same (tG g1 g2 X A) w w'):JgS w' lo g1 g2 key X A cA:=by have hm:∀x,x∈tG g1 g2 X A->w'.heap[x]? =w.heap[x]? :=hs.2;unfold tG at hm;refine⟨(hm g1 (by simp)).trans h.b1,(hm g2 (by simp)).trans h.b2,h.va.keep fun a ha=>hm _ (by simp[aX ha]),fun x hx=>?_⟩;obtain⟨m,hn⟩:=h.nd x hx;exact⟨m,fD.same hn ⟨hs.1,fun y hy=>hm y (by simp only[mem_cons,mem_append,List.mem_flatMap];exact .inr (.inr (.inr ⟨x,hx,hy⟩)))⟩⟩
theorem JgS.lt(h:JgS w lo g1 g2 key X A cA):∀x,x∈tG g1 g2 X A->x<w.heap.size:=fun x hx=>by unfold tG at hx;simp only[mem_cons,mem_append,List.mem_flatMap]at hx;rcases hx with rfl|rfl|hx|⟨y,hy,hx⟩;(. exact h.b1.lt);(. exact h.b2.lt);(. obtain⟨a,ha,rfl⟩:=bU hx;exact(h.va.at_ a ha).2);. obtain⟨m,hn⟩:=h.nd y hy;exact(fD.blk hn hx).2
end
theorem JgS.step{w w1 w5 w7 w10:World}{lo g1 g2 m:Nat}{key:ByteArray}{X:List (Nd × At)}{A A5:Option Addr}{cA c5:Nat}{n:Nd}{a:At}(h:JgS w lo g1 g2 key X A cA)(hg:g1≠g2)(hn:NdV w m n a)(ht:∀y,y∈tG g1 g2 X A->y<m)(_:m<=w.heap.size)(h1:Bw w w1)(h5:jF jD lo w1 w5 A A5 c5 (X++[(n,a)]))(hw7:w7=w5.setCell ⟨g1,0,none⟩ (.slice A5 (X.length+1) c5))(h10:Bw w7 w10):
 JgS w10 lo g1 g2 key (X++[(n,a)]) A5 c5/\(∀y,y∈tG g1 g2 (X++[(n,a)]) A5->y∈tG g1 g2 X A\/y∈kQ n a\/w.heap.size<=y)/\Flow.Into (tG g1 g2 X A) w w10:=by
 have s1:=h1.size;have s5:=h5.below.size;have s7:w7.heap.size=w5.heap.size:=by rw[hw7];simp[World.setCell]
 have s10:=h10.size;have l1:=h.b1.lt;have l2:=h.b2.lt;have k5:∀y,y<w.heap.size->y∉tA A->w5.heap[y]? =w.heap[y]? :=fun y hy hA=>(h5.block y (by omega) fun a ha e=>hA (e▸aX ha)).trans (h1.block y hy)
 have k7:∀y,y≠g1->w7.heap[y]? =w5.heap[y]? :=fun y n1=>by
  rw[hw7];exact aT _ n1
 have b1:aH 35 w5 g1 #[.slice A X.length cA]:=(k5 g1 l1 (dJ h.va h.b1 (by decide))).trans h.b1
 have b1':aH 35 w7 g1 #[.slice A5 (X++[(n,a)]).length c5]:=by
  rw[hw7,List.length_append];exact b1.set 0 _
 have b2:aH 9 w7 g2 #[.string key]:=(k7 g2 (fun e=>hg e.symm)).trans ((k5 g2 l2 (dJ h.va h.b2 (by decide))).trans h.b2);have v7:VK jD w7 lo A5 c5 (X++[(n,a)]):=h5.vo.keep fun q hq=>k7 _ fun e=>dJ h5.vo b1 (by decide) (e▸aX hq)
 have hk:∀y,y<w.heap.size->y∉tG g1 g2 X A->w10.heap[y]? =w.heap[y]? :=fun y hy ht=>by
  unfold tG at ht;simp only[mem_cons,mem_append,not_or]at ht;exact(h10.block y (by omega)).trans ((k7 y ht.1).trans (k5 y hy ht.2.2.1))
 have hnb:∀y,y∈kQ n a->y<w.heap.size/\y∉tG g1 g2 X A:=fun y hy=>by
  have:=fD.blk (NdV.fr hn) hy;exact⟨this.2,fun hh=>by have:=ht y hh;omega⟩
 have hA5:∀q,A5=some q->q.block∈tA A\/w.heap.size<=q.block:=fun q hq=>by
  rcases h5.row q hq with⟨q2,h2,e⟩|e
  . exact .inl (e▸aX h2)
  . exact .inr (by omega)
 refine⟨⟨b1'.kept h10,b2.kept h10,v7.kept h10,fun x hx=>?_⟩,fun y hy=>?_,?_⟩
 . rcases mem_append.1 hx with hx|hx
   . obtain⟨m',hf⟩:=h.nd x hx
     refine⟨m',fD.same hf ⟨by omega,fun y hy=>(h10.block y (by have:=(fD.blk hf hy).2;omega)).trans ((k7 y ?_).trans (k5 y (fD.blk hf hy).2 (Jb h.va hf (by decide) (by decide) (by decide) (by decide) hy)))⟩⟩;rintro rfl;exact Jc hf h.b1 (by decide) (by decide) (by decide) (by decide) hy
   . obtain rfl:=mem_singleton.1 hx
     exact⟨m,fD.same (NdV.fr hn) ⟨by omega,fun y hy=>hk y (hnb y hy).1 (hnb y hy).2⟩⟩
 . unfold tG at hy ⊢
   simp only[mem_cons,mem_append,List.flatMap_append,List.flatMap_cons,List.flatMap_nil,List.append_nil]at hy ⊢;rcases hy with hy|hy|hy|hy|hy
   . simp[hy]
   . simp[hy]
   . obtain⟨q,hq,rfl⟩:=bU hy
     rcases hA5 q hq with h8|h8
     . simp[h8]
     . exact .inr (.inr h8)
   . exact .inl (.inr (.inr (.inr hy)))
   . exact .inr (.inl (by simpa using hy))
 . exact⟨by rw[h10.os,hw7];exact h5.below.os.trans h1.os,by rw[h10.tape,hw7];exact h5.below.tape.trans h1.tape,by rw[h10.output,hw7];exact h5.below.output.trans h1.output,by omega,hk⟩
theorem Je{w:World}{lo g1 g2:Nat}{key:ByteArray}{X:List (Nd × At)}{A:Option Addr}{cA:Nat}(h:JgS w lo g1 g2 key X A cA)(hlo:lo<=w.heap.size)(hg:g1≠g2)(hl:X.length<=1000){n:Nd}{a:At}{m:Nat}(hn:NdV w m n a)(hp:Plain n)(hk:key.size<=1000)(ht:∀y,y∈tG g1 g2 X A->y<m)(hm:m<=w.heap.size)(b:Nat):Calls Tryz.prog 44 #[.int .u32 (b:Int),.agg (dO n a),g1,g2] w fun e w'=>e=.returned (.bool (!(findD n.buf key).isSome))/\∃A' cA',JgS w' lo g1 g2 key (X++[(n,a)]) A' cA'/\(∀y,y∈tG g1 g2 (X++[(n,a)]) A'->y∈tG g1 g2 X A\/y∈kQ n a\/w.heap.size<=y)/\Flow.Into (tG g1 g2 X A) w w':=by have cF:∀w',RC MgK w' a.bA a.bc n.buf->Hid (CB 45 #[.slice a.bA n.buf.length a.bc,.string key] w' (.tuple #[mgV ((findD n.buf key).getD AU),.bool (findD n.buf key).isSome])):=fun w' hr=>zQ hr.1 key hk hp.bk hp.br hp.bl;obtain⟨fm,hfm⟩:=eX ((findD n.buf key).getD AU);obtain⟨fb,hfb⟩:=eX ((findD n.buf key).isSome);simp only[<-hfm,<-hfb]at cF ⊢;obtain⟨lv,kids,piv,buf,prs⟩:=n;obtain⟨kA,kc,pA,pc,bA,bc,qA,qc⟩:=a;have HN:=hid hn;have HT:=hid ht;have HH:=hid h;have HM:=hid hm;obtain⟨Xn,hXn⟩:=eX X.length;have b1:=h.b1;rw[<-hXn]at b1 hl;have HLN:=hid hXn.symm;have hb0:Bw w (w.alloc (.cells #[lv,.slice kA kids.length kc,.slice pA piv.length pc,.slice bA buf.length bc,.slice qA prs.length qc] 50)):=bAx;have hx:=aH.new 50 w #[lv,.slice kA kids.length kc,.slice pA piv.length pc,.slice bA buf.length bc,.slice qA prs.length qc];have HB1:=hid (b1.kept hb0);have HB2:=hid (h.b2.kept hb0);obtain⟨fk,fd,fv⟩:=fm;unfold dO;unfold mgV at cF;simp only at cF ⊢;clear h hn ht hXn b1 hm hp hk hfm hfb;go_enter Tryz.func44,Tryz.ntmps44;go_upto_region 1 with fail;(generalize w.alloc (.cells #[lv,.slice kA kids.length kc,.slice pA piv.length pc,.slice bA buf.length bc,.slice qA prs.length qc] 50)=w1 at*;obtain⟨g,hg9⟩:=eX w.heap.size;rw[<-hg9]at hx;simp only[<-hg9];have HB0:=hid hb0;have HX:=hid hx;have HSZ:=hid hg9;clear hx hb0 hg9;obtain⟨c0,c1,c2,c3,c4⟩:=bD HX.out;have d1:=HB1.cell (i:=0) rfl;have hm1:Xn+1<=1048576:=by omega);have HL1:Hid (lo<=w1.heap.size):=Nat.le_trans hlo HB0.size;have HVA:Hid (VK jD w1 lo A cA X):=HH.va.kept HB0.out;clear hl hlo;go_upto_region 2 with(first|(refine aI (K:=jD) Tryz.underlying35 wO rfl (by decide) (by decide) rfl (.tmp 9) (.tmp 11) rfl lo A Xn cA X rfl HLN.out (HVA.kept (bAx)) _ 1 (⟨lv,kids,piv,buf,prs⟩,⟨kA,kc,pA,pc,bA,bc,qA,qc⟩) rfl (heap_alloc_new _ _) hm1 (Nat.le_trans HL1.out (by simp)) ?_;intro A5 c5 w5 HA5;have hq5:aH 35 w5 g1 #[.slice A Xn cA]:=(HA5.block g1 (Nat.lt_of_lt_of_le HB1.lt (by simp)) fun q hq e=>dJ HH.va HH.b1 (by decide) (e▸aX hq)).trans (HB1.kept (bAx));have e1:=hq5.cell (i:=0) rfl;have f1:=hq5.free 0));have hw1:Bw w (w1.alloc (.cells #[lv,.slice kA kids.length kc,.slice pA piv.length pc,.slice bA buf.length bc,.slice qA prs.length qc] 50)):=HB0.trans ((bAx).mono HB0.size);have HST:∀w10,Below (w5.setCell ⟨g1,0,none⟩ (.slice A5 (Xn+1) c5)).heap.size (w5.setCell ⟨g1,0,none⟩ (.slice A5 (Xn+1) c5)) w10->_:=fun w10 h10=>JgS.step HH.out hg HN.out HT.out HM.out hw1 HA5.out (by rw[HLN.out]) h10;have HSX:=hid HST;have hg0:w.heap.size=g:=HSZ.symm;have h1l:g1<w.heap.size:=HH.b1.lt;have hq6:aH 50 w5 g #[lv,.slice kA kids.length kc,.slice pA piv.length pc,.slice bA buf.length bc,.slice qA prs.length qc]:=(HA5.block g (Nat.lt_of_lt_of_le (show aH 50 w1 g _ from HX.out).lt (by simp)) fun q hq e=>by have:=(HH.va.at_ q hq).2;omega).trans ((show aH 50 w1 g _ from HX.out).kept (bAx));have hq7:aH 50 (w5.setCell ⟨g1,0,none⟩ (.slice A5 (Xn+1) c5)) g #[lv,.slice kA kids.length kc,.slice pA piv.length pc,.slice bA buf.length bc,.slice qA prs.length qc]:=(aT _ (by omega)).trans hq6;obtain⟨hs7,-,-⟩:=HST _ (Below.refl _ _);(have hr7:RC MgK (w5.setCell ⟨g1,0,none⟩ (.slice A5 (Xn+1) c5)) bA bc buf:=by obtain⟨m',hf⟩:=hs7.nd _ (List.mem_append_right _ (mem_singleton.2 rfl));exact hf.buf.rc);have d2:=hs7.b2.cell (i:=0) rfl;clear HST hg0 h1l hq6 hs7 HA5 hw1 hq5 c0 c1 c2 c3 c4 d1 e1 f1 HB1 HB2 HX HVA HL1 HH HN HT HM HB0;generalize w5.setCell ⟨g1,0,none⟩ (.slice A5 (Xn+1) c5)=w7 at*;have c3:=hq7.cell (i:=3) rfl;have cF2:=cF w7 hr7;clear cF hr7 hq7;go_upto_region 3 with(go_at_call 45;refine cF2.mono ?_;rintro e w8 ⟨rfl,hb⟩;have HB8:=hid hb;clear hb cF2 c3 d2);have hb9:Bw w7 (w8.alloc (.cells #[.string fk,.bool fd,.string fv] 73)):=HB8.alloc HB8.size _;have HF:=hid (HSX.out _ hb9);clear hb9 HSX HB8;generalize w8.alloc (.cells #[.string fk,.bool fd,.string fv] 73)=w9 at*;go_wp2_with fail;go_ret;exact⟨rfl,A5,c5,HF.out⟩
structure JsS(w:World)(g1 g2:Nat)(key lo hi:ByteArray)(top:Bool):Prop where
 b1:aH 9 w g1 #[.string key]
 b2:aH 41 w g2 #[.string lo,.string hi,.bool top]
theorem JsS.same{w w':World}{g1 g2:Nat}{key lo hi:ByteArray}{top:Bool}(h:JsS w g1 g2 key lo hi top)(hs:Same [g1,g2] w w'):JsS w' g1 g2 key lo hi top:=⟨(hs.2 g1 (by simp)).trans h.b1,(hs.2 g2 (by simp)).trans h.b2⟩
theorem Fx{w:World}{g1 g2:Nat}{key lo hi:ByteArray}{top:Bool}(h:JsS w g1 g2 key lo hi top)(hg:g1≠g2){n:Nd}{a:At}{m:Nat}(hn:NdV w m n a)(hr:SRi n.piv)(hl:n.piv.length<=1000)(b:Nat):Calls Tryz.prog 30 #[.int .u32 (b:Int),.agg (dO n a),g1,g2] w fun e w'=>e=.returned (.bool true)/\JsS w' g1 g2 key (dN n.piv (bX n.piv key) lo hi top).1.1 (dN n.piv (bX n.piv key) lo hi top).1.2.1 (dN n.piv (bX n.piv key) lo hi top).1.2.2/\Flow.Into [g1,g2] w w':=by have cW:∀w',Bw w w'->Hid (CB 32 #[.slice a.pA n.piv.length a.pc,.string key] w' (.int .i64 (bX n.piv key:Int))):=fun w' hb=>NY ((hn.piv.rc).kept hb) key hr hl;have cS:∀w',Bw w w'->Hid (CB 31 #[.slice a.pA n.piv.length a.pc,(bX n.piv key:Int),.agg #[.string lo,.string hi,.bool top]] w' (.tuple #[.agg #[.string (dN n.piv (bX n.piv key) lo hi top).1.1,.string (dN n.piv (bX n.piv key) lo hi top).1.2.1,.bool (dN n.piv (bX n.piv key) lo hi top).1.2.2],.bool (dN n.piv (bX n.piv key) lo hi top).2])):=fun w' hb=>OB ((hn.piv.rc).kept hb) _ lo hi top hl;generalize dN n.piv (bX n.piv key) lo hi top=R at*;obtain⟨⟨r1,r2,r3⟩,r4⟩:=R;simp only at cS ⊢;generalize bX n.piv key=wy at*;obtain⟨lv,kids,piv,buf,prs⟩:=n;obtain⟨kA,kc,pA,pc,bA,bc,qA,qc⟩:=a;simp only at cS cW hl;obtain⟨kn,hkn⟩:=eX kids.length;obtain⟨pn,hpn⟩:=eX piv.length;obtain⟨bn,hbn⟩:=eX buf.length;obtain⟨qn,hqn⟩:=eX prs.length;unfold dO;simp only[<-hkn,<-hpn,<-hbn,<-hqn]at cS cW ⊢;clear hn hr hl hkn hpn hbn hqn;have hb0:Bw w (w.alloc (.cells #[lv,.slice kA kn kc,.slice pA pn pc,.slice bA bn bc,.slice qA qn qc] 50)):=bAx;have hx:=aH.new 50 w #[lv,.slice kA kn kc,.slice pA pn pc,.slice bA bn bc,.slice qA qn qc];have HB1:=hid (h.b1.kept hb0);have HB2:=hid (h.b2.kept hb0);have HGL:=hid (And.intro h.b1.lt h.b2.lt);clear h;go_enter Tryz.func30,Tryz.ntmps30;go_upto_region 1 with fail;generalize w.alloc (.cells #[lv,.slice kA kn kc,.slice pA pn pc,.slice bA bn bc,.slice qA qn qc] 50)=w1 at*;obtain⟨g,hg9⟩:=eX w.heap.size;rw[<-hg9]at hx;simp only[<-hg9];clear hg9;have HB0:=hid hb0;obtain⟨-,-,c2,-,-⟩:=bD hx;have z2:=ah.tc c2;have k0:=fun q:ah.aQ [] w1 []=>ah.aQ.cell (HB1.cell (i:=0) rfl) (by simp) q;obtain⟨e0,e1,e2⟩:=bW (show w1.heap[g2]? =some (.cells #[.string lo,.string hi,.bool top] 41 (0,0))from HB2.out);have s0:=ah.tc e0;have s1:=ah.tc e1;have s2:=ah.tc e2;clear hb0 hx c2 e0 e1 e2;refine ah.ay [] [(0,[]),(1,[]),(2,[]),(3,[]),(4,[]),(5,[]),(6,[]),(7,[]),(8,[]),(9,[]),(10,[])] [] [] [10] (by kernel_rfl) (by kernel_rfl) (by simp) ?_;simp only[ah.pick,ah.aM,ah.dL];(repeat (refine ah.ak (fun K hK=>?_);go_simp;first|(refine hK _ ?_;clear hK K)|(apply Exists.intro;refine⟨fun q=>?_,hK _ ?_⟩;(first|(go_at_call 32;exact(cW _ (HB0.trans (q.into.below.mono HB0.size))).out)|(go_at_call 31;exact(cS _ (HB0.trans (q.into.below.mono HB0.size))).out));clear hK K)));refine ah.au rfl (.bool r4) (fun W=>by go_simp) ?_;refine ah.walk_nil ?_;intro w2 hb _;have h1:=HB1.kept hb;have h2:=HB2.kept hb;have e0:=h2.cell (i:=0) rfl;have e1:=h2.cell (i:=1) rfl;have e2:=h2.cell (i:=2) rfl;have f0:=h2.free 0;have f1:=h2.free 1;have f2:=h2.free 2;have hE:Hid (JsS (rF w2 g2 (.string r1) (.string r2) (.bool r3)) g1 g2 key r1 r2 r3/\Flow.Into [g1,g2] w (rF w2 g2 (.string r1) (.string r2) (.bool r3))):=⟨⟨((aT _ hg).trans ((aT _ hg).trans (aT _ hg))).trans h1,jQ h2 _ _ _⟩,((Flow.Into.of_below (S:=[g1,g2]) HB0.out).trans (Flow.Into.of_below hb)).trans ((mP _ _ _ _ _).mono fun k hk=>by simp only[mem_singleton]at hk;subst hk;simp)⟩;unfold rF at hE;clear z2 k0 s0 s1 s2 hb h1 h2 cW cS HB0 HB1 HB2;simp only[lC,List.drop_zero,Nat.zero_add,Nat.reduceAdd];go_wp2_with fail;(try rw[Flow.aN]);(try go_wp2_with fail);go_ret;exact⟨rfl,hE.out⟩
end Sk
end Go.Proofs.YtmcbidhpkpmalaaGreatDoor
namespace Go.Proofs.YtmcbidhpkpmalaaGreatDoor
open Go.RowKit
open Go.Lib (hid)
open List (length length_map map map_append take_length take_succ_cons)
namespace Sk
open Mem Lx Bu Lf Fa No Sh Bt Po
structure Bk(W w w':World)(F:List Nat)(z:Ad)(c:Cfg)(tb:List Bool)(kp:Nat)(f:Nat->List UInt8)(K r s R:Nat)(F' T:List Nat)(r' s':Nat):Prop where
 sv:Sv W w' F' z c tb kp (kpF kp) f K r' s'
 io:Flow.Into (z.p::z.b::F) w w'
 gr:Dv.zC w F F'
 ap:Apt z F' T
 lt:∀x,x∈T->w.heap.size<=x/\x<w'.heap.size
 co:(r<=r'/\r'<=r+R)/\s<=s'/\s'<=s+R
def TD(W w w':World)(F:List Nat)(z:Ad)(c:Cfg)(tb:List Bool)(kp:Nat)(f:Nat->List UInt8)(K r s R:Nat)(PP:List (Nd × Nat))(E:Int)(e:Ending):Prop:=∃F' T r' s',Bk W w w' F z c tb kp f K r s R F' T r' s'/\
 ((E=0/\∃X A B cA cB,e=.returned (.tuple #[.slice A PP.length cA,.slice B PP.length cB,(0:Int)])/\X.map (·.1)=PP.map (·.1)/\VK jD w' w.heap.size A cA X/\VK KdK w' w.heap.size B cB (PP.map (·.2))/\(∀x,x∈X->∃m,fD w' m x.1 x.2)/\(∀y,y∈tA A++(tA B++X.flatMap fun x=>kQ x.1 x.2)->y∈T))\/
  (E=12/\e=.returned (.tuple #[(),(),(12:Int)])))
section
variable{W w w1 w':World}{F F' T0 T:List Nat}{z:Ad}{c:Cfg}{tb:List Bool}{kp:Nat}{f:Nat->List UInt8}{K r s rt d NX r' s' root:Nat}{J:Nat->World->List Nat->Prop}{key:ByteArray}{PP:List (Nd × Nat)}
theorem Dn.bk(h:Dn W w1 w' F T0 z c tb kp f K r s rt J d (NX+1) F' T r' s')(hb:Bw w w1)(hT:∀x,x∈T0->w.heap.size<=x):Bk W w w' F z c tb kp f (K+2*(NX+1)) r s (rt+NX) F' T r' s':=
 have hg:∀x,x∈T->w.heap.size<=x:=fun x hx=>(h.gt x hx).elim (hT x) fun h1=>Nat.le_trans hb.size h1
 ⟨h.sv,Dv.bq (Flow.Into.of_below hb) h.io (fun x hx=>(List.mem_append.1 hx).elim (fun h1=> .inr (hT x h1)) .inl),fun x hx=>(h.gr x hx).imp_right fun h1=>Nat.le_trans hb.size h1,h.ap,fun x hx=>⟨hg x hx,(h.lt x hx).1⟩,by have:=h.co;omega⟩
theorem Bk.below{w2:World}{R:Nat}(h:Bk W w w' F z c tb kp f K r s R F' T r' s')(hT:Tab W)(hb:Bw w' w2):Bk W w w2 F z c tb kp f K r s R F' T r' s':=
 ⟨h.sv.kept hT hb,h.io.trans (Flow.Into.of_below hb),h.gr,h.ap,fun x hx=>⟨(h.lt x hx).1,Nat.lt_of_lt_of_le (h.lt x hx).2 hb.size⟩,h.co⟩
theorem iE(w:World)(n:Nat):Bw w (w.drewN n):=⟨rfl,rfl,rfl,Nat.le_refl _,fun _ _=>rfl⟩
def JW(PP:List (Nd × Nat))(lo g1 g2:Nat)(d:Nat)(w:World)(T:List Nat):Prop:=∃X A B cA cB,T=tW g1 g2 X A B/\X.map (·.1)=(PP.take d).map (·.1)/\JwS w lo g1 g2 X ((PP.take d).map (·.2)) A B cA cB
theorem iY{α β:Type}{L:List α}{d:Nat}{x:α}(g:α->β)(hx:L[d]? =some x):(L.take (d+1)).map g=(L.take d).map g++[g x]:=by have hd:=(List.getElem?_eq_some_iff.1 hx).1;rw[List.take_succ_eq_append_getElem hd,map_append,(List.getElem?_eq_some_iff.1 hx).2];rfl
theorem JW.step{lo g1 g2:Nat}(hg:g1≠g2)(hl:PP.length<=900)(d:Nat)(w:World)(T:List Nat)(x:Nd × Nat)(a:At)(m:Nat)(hx:PP[d]? =some x)(hj:JW PP lo g1 g2 d w T)(hlo:lo<=w.heap.size)(hn:NdV w m x.1 a)(ht:∀y,y∈T->y<m)(hm:m<=w.heap.size):Calls Tryz.prog 29 (#[.int .u32 (x.2:Int),.agg (dO x.1 a)]++ #[.pointer (some ⟨g1,0,none⟩),.pointer (some ⟨g2,0,none⟩)]) w fun e w'=>e=.returned (.bool true)/\∃T',JW PP lo g1 g2 (d+1) w' T'/\(∀y,y∈T'->y<w'.heap.size)/\(∀y,y∈T'->y∈T\/y∈kQ x.1 a\/w.heap.size<=y)/\Flow.Into T w w':=by obtain⟨X,A,B,cA,cB,rfl,hX,hs⟩:=hj;have hd:=(List.getElem?_eq_some_iff.1 hx).1;(have hXl:X.length<=900:=by have:=congrArg length hX;simp only[length_map,List.length_take]at this;omega);refine(Jd hs hlo hg (by omega) (by simp;omega) hn ht hm x.2).mono ?_;rintro e w' ⟨rfl,A',B',cA',cB',h1,h2,h3⟩;have e1:=iY (·.1) hx;have e2:=iY (·.2) hx;refine⟨rfl,_,⟨X++[(x.1,a)],A',B',cA',cB',rfl,by rw[map_append,hX,e1];rfl,by rw[e2];exact h1⟩,h1.lt,h2,h3⟩
theorem QG(h:Sv W w F z c tb kp (kpF kp) f K r s)(hc:Okc c)(hT:Tab W)(hP:Path c f key root PP)(h0:0<PP.length)(hl:PP.length<=50)(hK:K+2*PP.length<=900000){E:Int}(hE:∀x,PP[PP.length-1]? =some x->Ends c f key x.1 true PP.length NX E):Calls Tryz.prog 9 #[z.p,.int .u32 (root:Int),.string key] w fun e w'=>TD W w w' F z c tb kp f (K+2*(NX+1)) r s ((if root=kp then 0 else 1)+NX) PP E e:=by
 obtain⟨rt,hrt⟩:=eX ((if root=kp then 0 else 1));have HRT:=hid hrt;simp only[<-hrt];clear hrt;obtain⟨x9,hx9⟩:∃x,PP[PP.length-1]? =some x:=⟨_,List.getElem?_eq_getElem (by omega)⟩
 have hE9:E=0\/E=12:=by
  rcases hE x9 hx9 with⟨h1,-⟩|⟨h1,-⟩
  . exact .inl h1
  . exact .inr h1
 have b1:=aH.new 35 w #[()];have hb1:Bw w (w.alloc (.cells #[()] 35)):=bAx;have b2:=aH.new 36 (w.alloc (.cells #[()] 35)) #[()];have hb2:Below (w.alloc (.cells #[()] 35)).heap.size (w.alloc (.cells #[()] 35)) ((w.alloc (.cells #[()] 35)).alloc (.cells #[()] 36)):=bAx;have hsz:(w.alloc (.cells #[()] 35)).heap.size=w.heap.size+1:=by simp
 have hbb:=hb1.trans (hb2.mono hb1.size);rw[hsz]at b2;have b1':=b1.kept hb2;have HB1:=hid b1';have HB2:=hid b2;have HBB:=hid hbb;have H0:=hid h;clear b1 hb1 b2 hb2 hsz hbb b1' h;go_enter Tryz.func9,Tryz.ntmps9
 go_upto_region 3 with fail
 generalize (w.alloc (.cells #[()] 35)).alloc (.cells #[()] 36)=w1 at*;have b1':=HB1.out;have b2:=HB2.out;have hbb:=HBB.out;have h:=H0.out;have hWw:=h.below.size
 have cD:=qW (G:=29) (CA:= #[.pointer (some ⟨w.heap.size,0,none⟩),.pointer (some ⟨w.heap.size+1,0,none⟩)]) (fun args w=>by kernel_rfl) (h.kept hT hbb) hc hT hP (fun _=>true) h0 (Nat.le_refl _) hl hK (fun _ _=>rfl) hE (fun d w2 T=>JW PP w.heap.size w.heap.size (w.heap.size+1) d w2 T/\w.heap.size<=w2.heap.size) (T:=tW w.heap.size (w.heap.size+1) [] none none)
  (fun d w2 w3 T ⟨⟨X,A,B,cA,cB,e1,e2,e3⟩,e4⟩ hs=>⟨⟨X,A,B,cA,cB,e1,e2,e3.same (e1▸hs)⟩,Nat.le_trans e4 hs.1⟩)
  ⟨⟨[],none,none,0,0,rfl,rfl,b1',b2,VK.nil _ _,VK.nil _ _,(fun x hx=>by cases hx),(fun x hx=>by cases hx)⟩,hbb.size⟩
  (fun x hx=>by
    have l1:=b1'.lt;have l2:=b2.lt;unfold tW tA at hx;simp at hx
    omega)
  (Sv.apt h (fun x hx=>by unfold tW tA at hx;simp at hx;omega))
  (fun d w2 T x a m hx hd ⟨hj,hj2⟩ hn ht hm=>(JW.step (by omega) (by omega) d w2 T x a m hx hj hj2 hn ht hm).mono fun e w' ⟨he,T',g1,g2,g3,g4⟩=>⟨he,T',⟨g1,Nat.le_trans hj2 g4.size⟩,g2,g3,g4⟩)
 obtain⟨N,hN⟩:=eX PP.length;have HN:=hid hN;simp only[<-HRT.out]at cD;have HCD:=hid cD;clear HRT b1' b2 hbb h cD hP hE hl hK hx9 hN HB1 HB2;obtain⟨g1,hg1⟩:=eX w.heap.size;have HG1:=hid hg1;simp only[<-hg1]at HCD ⊢;clear hg1;have cD:=HCD.out;rcases hE9 with rfl|rfl
 . go_upto_region 6 with(go_at_call 28;refine cD.mono ?_;rintro e w2 ⟨rfl,F',T',r',s',hdn⟩;have HD:=hid hdn;clear hdn cD)
   obtain⟨⟨X,A,B,cA,cB,e1,e2,e3⟩,-⟩:=HD.j;have d1:=e3.b1.cell (i:=0) rfl;have d2:=e3.b2.cell (i:=0) rfl
   have hX:X.length=N:=by
    have:=congrArg length e2;simp only[length_map,take_length]at this;rw[HN.out];exact this
   have hB:(map (fun x=>x.2) (List.take PP.length PP)).length=N:=by
    rw[HN.out];simp
   rw[hX]at d1;rw[hB]at d2;have HE1:=hid e1;have HE2:=hid e2;have HE3:=hid e3;clear e1 e2 e3 hX hB HCD
   have hbk:=Dn.bk HD.out HBB.out (fun x hx=>by
    have:=HG1.out;unfold tW tA at hx;simp at hx
    omega)
   have HK:=hid hbk;clear hbk
   go_quiet (fail)
   have hb3:Bw w2 (w2.drewN nq):=iE _ _;go_wp2_with fail
   refine bodyPost_ret (v:= .tuple #[.slice A N cA,.slice B N cB,(0:Int)]) (by simp[results,Tryz.results9,go_sem]) rfl ⟨F',T',r',s',HK.below hT hb3,.inl ⟨rfl,X,A,B,cA,cB,by rw[HN.out],?_,?_,?_,fun x hx=>?_,fun y hy=>?_⟩⟩
   . rw[HE2.out,take_length]
   . rw[HG1.out]at HE3
     exact HE3.va.kept hb3
   . rw[HG1.out]at HE3
     have:=HE3.vb.kept hb3
     rwa [take_length]at this
   . obtain⟨m,hm⟩:=HE3.nd x hx
     exact⟨m,hm.kept hb3⟩
   . rw[HE1.out]
     unfold tW;simp only[List.mem_cons];exact .inr (.inr hy)
 . go_upto_region 5 with(go_at_call 28;refine cD.mono ?_;rintro e w2 ⟨rfl,F',T',r',s',hdn⟩;have HD:=hid hdn;clear hdn cD)
   have hbk:=Dn.bk HD.out HBB.out (fun x hx=>by
    have:=HG1.out;unfold tW tA at hx;simp at hx
    omega)
   have HK:=hid hbk;clear HCD hbk;go_wp2_with fail
   exact bodyPost_ret (v:= .tuple #[(),(),(12:Int)]) (by simp[results,Tryz.results9,go_sem]) rfl ⟨F',T',r',s',HK.out,.inr ⟨rfl,rfl⟩⟩
def JG(PP:List (Nd × Nat))(key:ByteArray)(lo g1 g2:Nat)(d:Nat)(w:World)(T:List Nat):Prop:=∃X A cA,T=tG g1 g2 X A/\X.map (·.1)=(PP.take d).map (·.1)/\JgS w lo g1 g2 key X A cA
def goG(PP:List (Nd × Nat))(key:ByteArray)(d:Nat):Bool:=match PP[d]? with
 |some x=> !(findD x.1.buf key).isSome
 |none=>false
theorem JG.step{lo g1 g2:Nat}(hg:g1≠g2)(hl:PP.length<=900)(hk:key.size<=1000)(d:Nat)(w:World)(T:List Nat)(x:Nd × Nat)(a:At)(m:Nat)(hx:PP[d]? =some x)(hp:Plain x.1)(hj:JG PP key lo g1 g2 d w T)(hlo:lo<=w.heap.size)(hn:NdV w m x.1 a)(ht:∀y,y∈T->y<m)(hm:m<=w.heap.size):Calls Tryz.prog 44 (#[.int .u32 (x.2:Int),.agg (dO x.1 a)]++ #[.pointer (some ⟨g1,0,none⟩),.pointer (some ⟨g2,0,none⟩)]) w fun e w'=>e=.returned (.bool (goG PP key d))/\∃T',JG PP key lo g1 g2 (d+1) w' T'/\(∀y,y∈T'->y<w'.heap.size)/\(∀y,y∈T'->y∈T\/y∈kQ x.1 a\/w.heap.size<=y)/\Flow.Into T w w':=by obtain⟨X,A,cA,rfl,hX,hs⟩:=hj;have hd:=(List.getElem?_eq_some_iff.1 hx).1;(have hXl:X.length<=900:=by have:=congrArg length hX;simp only[length_map,List.length_take]at this;omega);refine(Je hs hlo hg (by omega) hn hp hk ht hm x.2).mono ?_;rintro e w' ⟨rfl,A',cA',h1,h2,h3⟩;have e1:=iY (·.1) hx;refine⟨by unfold goG;rw[hx],_,⟨X++[(x.1,a)],A',cA',rfl,by rw[map_append,hX,e1];rfl,h1⟩,h1.lt,h2,h3⟩
theorem L9(PP:List (Nd × Nat))(key:ByteArray)(h0:0<PP.length):∃D,0<D/\D<=PP.length/\(∀d,d+1<D->goG PP key d=true)/\(goG PP key (D-1)=false\/D=PP.length):=by (have hh:∀k,k<=PP.length->(∃D,0<D/\D<=PP.length/\(∀d,d+1<D->goG PP key d=true)/\(goG PP key (D-1)=false\/D=PP.length))\/∀d,d<k->goG PP key d=true:=by intro k;induction k with|zero=>exact fun _=> .inr fun d hd=>absurd hd (by omega)|succ k ih=>(intro hk;rcases ih (by omega)with h|h;(. exact .inl h);. cases hg:goG PP key k with|false=>exact .inl ⟨k+1,by omega,hk,fun d hd=>h d (by omega),.inl hg⟩|true=>refine .inr fun d hd=>?_;rcases Nat.lt_or_ge d k with h1|h1;(. exact h d h1);. (obtain rfl:d=k:=by omega);exact hg));rcases hh PP.length (Nat.le_refl _)with h|h;(. exact h);. exact⟨PP.length,h0,Nat.le_refl _,fun d hd=>h d (by omega),.inr rfl⟩
theorem wP{key:ByteArray}:∀{L:List Nd} {D:Nat},0<D->(∀(i:Nat) (n:Nd),i+1<D->L[i]? =some n->findD n.buf key=none)->((∃n,L[D-1]? =some n/\findD n.buf key≠none)\/L.length<=D)->nk (L.take D) key=nk L key
 |L,0,h,_,_=>absurd h (by omega)
 |[],D+1,_,_,_=>by simp
 |n::r,1,_,_,h=>by (rcases h with⟨n',h1,h2⟩|h);(. (obtain rfl:n=n':=by simpa using h1);obtain⟨m,hm⟩:=Option.ne_none_iff_exists'.1 h2;rw[take_succ_cons,iW hm,iW hm]);. rw[List.take_of_length_le h]
 |n::[],D+2,_,_,_=>by simp
 |n::n'::r,D+2,_,h1,h=>by have h0:=h1 0 n (by omega) rfl;rw[take_succ_cons,take_succ_cons,iX h0,iX h0,<-take_succ_cons];exact wP (by omega) (fun i m hi hm=>h1 (i+1) m (by omega) (by simpa using hm)) (h.imp (fun⟨m,h2,h3⟩=>⟨m,by simpa using h2,h3⟩) fun h=>by simp only[List.length_cons]at h ⊢;omega)
def TF(W w w':World)(F:List Nat)(z:Ad)(c:Cfg)(tb:List Bool)(kp:Nat)(f:Nat->List UInt8)(K r s R:Nat)(V:Option ByteArray)(e:Ending):Prop:=∃F' r' s',Bk W w w' F z c tb kp f K r s R F' [] r' s'/\e=.returned (.tuple #[.string (V.getD ⟨#[]⟩),.bool V.isSome,(0:Int)])
end
end Sk
end Go.Proofs.YtmcbidhpkpmalaaGreatDoor
namespace Go.Proofs.YtmcbidhpkpmalaaGreatDoor
open Go.RowKit
open Go.Lib (hid)
namespace Sk
open Mem Lx Bu Lf Fa No Sh Bt Po
section
variable{W w w1 w':World}{F F' T0 T:List Nat}{z:Ad}{c:Cfg}{tb:List Bool}{kp:Nat}{f:Nat->List UInt8}{K r s rt d NX r' s' root R:Nat}{J:Nat->World->List Nat->Prop}{key:ByteArray}{PP:List (Nd × Nat)}
theorem Bk.none_(h:Bk W w w' F z c tb kp f K r s R F' T r' s'):Bk W w w' F z c tb kp f K r s R F' [] r' s':=⟨h.sv,h.io,h.gr,fun x hx=>(by cases hx),fun x hx=>(by cases hx),h.co⟩
theorem Bk.mono{K' R':Nat}(h:Bk W w w' F z c tb kp f K r s R F' T r' s')(hK:K<=K')(hR:R<=R'):Bk W w w' F z c tb kp f K' r s R' F' T r' s':=⟨h.sv.mono hK,h.io,h.gr,h.ap,h.lt,by have:=h.co;omega⟩
theorem QH(h:Sv W w F z c tb kp (kpF kp) f K r s)(hc:Okc c)(hT:Tab W)(hP:Path c f key root PP)(h0:0<PP.length)(hl:PP.length<=50)(hK:K+2*PP.length<=900000)(hk:key.size<=1000)(hE:∀x,PP[PP.length-1]? =some x->x.1.lv=0):Calls Tryz.prog 17 #[z.p,.int .u32 (root:Int),.string key] w fun e w'=>TF W w w' F z c tb kp f (K+2*PP.length) r s ((if root=kp then 0 else 1)+(PP.length-1)) (nk (PP.map (·.1)) key) e:=by
 obtain⟨rt,hrt⟩:=eX ((if root=kp then 0 else 1));have HRT:=hid hrt;obtain⟨D,hD0,hDl,hDg,hDe⟩:=L9 PP key h0;obtain⟨V,hV⟩:=eX (nk (PP.map (·.1)) key)
 have hPl:∀x,x∈PP->Plain x.1:=fun x hx=>by
  obtain⟨i,hi⟩:=List.getElem?_of_mem hx;exact(hP.at_ i x hi).plain hc
 have HPL:=hid hPl
 have HVD:Hid (V=nk ((PP.take D).map (·.1)) key):=by
  unfold Hid;rw[hV,List.map_take];refine(wP hD0 (fun i n hi hn=>?_) ?_).symm
  . rw[List.getElem?_map]at hn
    have h1:=hDg i hi;unfold goG at h1;cases hx:PP[i]? with
    |none=>rw[hx]at hn;cases hn
    |some x=>
     rw[hx]at hn h1;(cases hn);simpa using h1
  . rcases hDe with h1|h1
    . left
      unfold goG at h1;obtain⟨x,hx⟩:∃x,PP[D-1]? =some x:=⟨_,List.getElem?_eq_getElem (by omega)⟩
      rw[hx]at h1;refine⟨x.1,by rw[List.getElem?_map,hx];rfl,fun h2=>?_⟩;have h3:(!(findD x.1.buf key).isSome)=false:=h1;rw[h2]at h3;cases h3
    . right
      rw[List.length_map,h1];exact Nat.le_refl _
 have hEn:∀x,PP[D-1]? =some x->Ends c f key x.1 (goG PP key (D-1)) D (D-1) 0:=fun x hx=> .inl ⟨rfl,rfl,by
  rcases hDe with h1|h1
  . exact .inl h1
  . rw[h1]at hx
    exact .inr (hE x hx)⟩
 simp only[<-hrt,<-hV];clear hrt hV hE hDe hPl;have b1:=aH.new 9 w #[.string key];have hb1:Bw w (w.alloc (.cells #[.string key] 9)):=bAx;have b2:=aH.new 35 (w.alloc (.cells #[.string key] 9)) #[()];have hb2:Below (w.alloc (.cells #[.string key] 9)).heap.size (w.alloc (.cells #[.string key] 9)) ((w.alloc (.cells #[.string key] 9)).alloc (.cells #[()] 35)):=bAx;have hsz:(w.alloc (.cells #[.string key] 9)).heap.size=w.heap.size+1:=by simp
 have hbb:=hb1.trans (hb2.mono hb1.size);rw[hsz]at b2;have HB1:=hid (b1.kept hb2);have HB2:=hid b2;have HBB:=hid hbb;have H0:=hid h;clear b1 hb1 b2 hb2 hsz hbb h;go_enter Tryz.func17,Tryz.ntmps17
 go_upto_region 2 with fail
 generalize (w.alloc (.cells #[.string key] 9)).alloc (.cells #[()] 35)=w1 at*;have b1':=HB1.out;have b2:=HB2.out;have hbb:=HBB.out;have h:=H0.out;have hWw:=h.below.size
 have cD:=qW (G:=44) (CA:= #[.pointer (some ⟨w.heap.size+1,0,none⟩),.pointer (some ⟨w.heap.size,0,none⟩)]) (fun args w=>by kernel_rfl) (h.kept hT hbb) hc hT hP (goG PP key) hD0 hDl (by omega) (by omega) hDg hEn (fun d w2 T=>JG PP key w.heap.size (w.heap.size+1) w.heap.size d w2 T/\w.heap.size<=w2.heap.size) (T:=tG (w.heap.size+1) w.heap.size [] none)
  (fun d w2 w3 T ⟨⟨X,A,cA,e1,e2,e3⟩,e4⟩ hs=>⟨⟨X,A,cA,e1,e2,e3.same (e1▸hs)⟩,Nat.le_trans e4 hs.1⟩)
  ⟨⟨[],none,0,rfl,rfl,b2,b1',VK.nil _ _,(fun x hx=>by cases hx)⟩,hbb.size⟩
  (fun x hx=>by
    have l1:=b1'.lt;have l2:=b2.lt;unfold tG tA at hx;simp at hx
    omega)
  (Sv.apt h (fun x hx=>by unfold tG tA at hx;simp at hx;omega))
  (fun d w2 T x a m hx hd ⟨hj,hj2⟩ hn ht hm=>(JG.step (by omega) (by omega) hk d w2 T x a m hx ((hP.at_ d x hx).plain hc) hj hj2 hn ht hm).mono fun e w' ⟨he,T',g1,g2,g3,g4⟩=>⟨he,T',⟨g1,Nat.le_trans hj2 g4.size⟩,g2,g3,g4⟩)
 simp only[<-HRT.out]at cD;have d1:=b1'.cell (i:=0) rfl;have HKY:=hid hk;have HDL:=hid (And.intro hD0 (And.intro hDl hl));clear HRT b1' b2 hbb h hP hl hK hD0 hDl hDg hEn HB1 HB2 h0 hk;obtain⟨g1,hg1⟩:=eX w.heap.size;have HG1:=hid hg1;simp only[<-hg1]at cD d1 ⊢;clear hg1;go_upto_region 5 with(go_at_call 28;refine cD.mono ?_;rintro e w2 ⟨rfl,F',T',r',s',hdn⟩;have HD:=hid hdn;clear hdn cD d1)
 obtain⟨⟨X,A,cA,e1,e2,e3⟩,-⟩:=HD.j
 have hbk:=Dn.bk HD.out HBB.out (fun x hx=>by
  have:=HG1.out;unfold tG tA at hx;simp at hx
  omega)
 have d1:=e3.b1.cell (i:=0) rfl;have d2:=e3.b2.cell (i:=0) rfl
 have hX:X.length<=100:=by
  have:=congrArg List.length e2;simp only[List.length_map,List.length_take]at this;have:=HDL.out;omega
 have cV:=Fv (c:=cA) e3.va.rd (fun x hx=>by obtain⟨m,hm⟩:=e3.nd x hx;exact hm.in_) (fun x hx=>by
  have h1:x.1∈X.map (·.1):=List.mem_map.2 ⟨x,hx,rfl⟩;rw[e2]at h1;obtain⟨y,hy,h2⟩:=List.mem_map.1 h1;rw[<-h2]
  exact HPL.out y (List.mem_of_mem_take hy)) hX key HKY.out
 rw[e2,<-HVD.out]at cV;have HK:Hid (Bk W w w2 F z c tb kp f (K+2*PP.length) r s (rt+(PP.length-1)) F' [] r' s'):=(hbk.mono (by have:=HDL.out;omega) (by have:=HDL.out;omega)).none_;obtain⟨xn,hxn⟩:=eX X.length;rw[<-hxn]at d1 cV;clear hbk e1 e2 e3 hX HD HVD HPL HDL HKY hxn;go_wp2_with (go_at_call 46;refine cV.mono ?_;rintro e w3 ⟨rfl,hb⟩;have HB3:=hid hb;clear hb cV d1 d2)
 exact bodyPost_ret (v:= .tuple #[.string (V.getD ⟨#[]⟩),.bool V.isSome,(0:Int)]) (by simp[results,Tryz.results17,go_sem]) rfl ⟨F',r',s',HK.below hT HB3.out,rfl⟩
theorem Bk.far{w2:World}{g:Nat}(h:Bk W w w' F z c tb kp f K r s R F' [] r' s')(hT:Tab W)(hi:Flow.Into [g] w' w2)(hg:g∉shT z F')(hw:w.heap.size<=g)(hW:W.heap.size<=w.heap.size):Bk W w w2 F z c tb kp f K r s R F' [] r' s':=⟨h.sv.far hT hi hg (Nat.le_trans hW hw),Dv.bq h.io hi (fun x hx=>by simp only[List.mem_singleton]at hx;subst hx;exact .inr hw),h.gr,fun x hx=>(by cases hx),fun x hx=>(by cases hx),h.co⟩
def spn(key:ByteArray)(L:List Nd):ByteArray × ByteArray × Bool:=L.foldl (fun s n=>(dN n.piv (bX n.piv key) s.1 s.2.1 s.2.2).1) (⟨#[]⟩,⟨#[]⟩,true)
theorem kC(key:ByteArray)(L:List Nd)(n:Nd):spn key (L++[n])=(dN n.piv (bX n.piv key) (spn key L).1 (spn key L).2.1 (spn key L).2.2).1:=by unfold spn;rw[List.foldl_append];rfl
def JS(PP:List (Nd × Nat))(key:ByteArray)(g1 g2:Nat)(d:Nat)(w:World)(T:List Nat):Prop:=T=[g1,g2]/\JsS w g1 g2 key (spn key ((PP.take d).map (·.1))).1 (spn key ((PP.take d).map (·.1))).2.1 (spn key ((PP.take d).map (·.1))).2.2
theorem Has.pv{n:Nd}{i:Nat}(h:Has c f i n):SRi n.piv/\n.piv.length<=1000:=by by_cases h0:n.lv=0;(. have o:=h.rt.2.1 h0;have:=List.length_eq_zero_iff.1 o.piv;rw[this];exact⟨.nil,Nat.zero_le _⟩);. exact⟨(h.kid h0 ⟨#[]⟩).1,(h.kid h0 ⟨#[]⟩).2.1⟩
def TG(W w w':World)(F:List Nat)(z:Ad)(c:Cfg)(tb:List Bool)(kp:Nat)(f:Nat->List UInt8)(K r s R:Nat)(S:ByteArray × ByteArray × Bool)(E:Int)(e:Ending):Prop:=∃F' r' s',Bk W w w' F z c tb kp f K r s R F' [] r' s'/\((E=0/\e=.returned (.tuple #[.agg #[.string S.1,.string S.2.1,.bool S.2.2],(0:Int)]))\/(E=12/\e=.returned (.tuple #[.agg #[.string ⟨#[]⟩,.string ⟨#[]⟩,.bool false],(12:Int)])))
theorem OM(h:Sv W w F z c tb kp (kpF kp) f K r s)(hc:Okc c)(hT:Tab W)(hP:Path c f key root PP)(h0:0<PP.length)(hl:PP.length<=50)(hK:K+2*PP.length<=900000){E:Int}(hE:∀x,PP[PP.length-1]? =some x->Ends c f key x.1 true PP.length NX E):Calls Tryz.prog 10 #[z.p,.int .u32 (root:Int),.string key] w fun e w'=>TG W w w' F z c tb kp f (K+2*(NX+1)) r s ((if root=kp then 0 else 1)+NX) (spn key (PP.map (·.1))) E e:=by
 obtain⟨rt,hrt⟩:=eX ((if root=kp then 0 else 1));have HRT:=hid hrt;simp only[<-hrt];clear hrt;obtain⟨x9,hx9⟩:∃x,PP[PP.length-1]? =some x:=⟨_,List.getElem?_eq_getElem (by omega)⟩
 have hE9:E=0\/E=12:=by
  rcases hE x9 hx9 with⟨h1,-⟩|⟨h1,-⟩
  . exact .inl h1
  . exact .inr h1
 have b1:=aH.new 9 w #[.string key];have hb1:Bw w (w.alloc (.cells #[.string key] 9)):=bAx;have b2:=aH.new 41 (w.alloc (.cells #[.string key] 9)) #[.string ⟨#[]⟩,.string ⟨#[]⟩,.bool false];have hb2:Below (w.alloc (.cells #[.string key] 9)).heap.size (w.alloc (.cells #[.string key] 9)) ((w.alloc (.cells #[.string key] 9)).alloc (.cells #[.string ⟨#[]⟩,.string ⟨#[]⟩,.bool false] 41)):=bAx;have hsz:(w.alloc (.cells #[.string key] 9)).heap.size=w.heap.size+1:=by simp
 have hbb:=hb1.trans (hb2.mono hb1.size);have hsz2:((w.alloc (.cells #[.string key] 9)).alloc (.cells #[.string ⟨#[]⟩,.string ⟨#[]⟩,.bool false] 41)).heap.size=w.heap.size+2:=by simp
 rw[hsz]at b2;have HB1:=hid (b1.kept hb2);have HB2:=hid b2;have HBB:=hid hbb;have HSZ:=hid hsz2;have H0:=hid h;clear b1 hb1 b2 hb2 hsz hsz2 hbb h;go_enter Tryz.func10,Tryz.ntmps10
 go_upto_region 1 with fail
 generalize (w.alloc (.cells #[.string key] 9)).alloc (.cells #[.string ⟨#[]⟩,.string ⟨#[]⟩,.bool false] 41)=w1 at*;go_upto_region 2 with fail
 have b3:=aH.new 41 w1 #[.string ⟨#[]⟩,.string ⟨#[]⟩,.bool true];have hb3:Bw w1 (w1.alloc (.cells #[.string ⟨#[]⟩,.string ⟨#[]⟩,.bool true] 41)):=bAx;have b1:=HB1.kept hb3;have b2:=HB2.kept hb3;rw[HSZ.out]at b3;simp only[HSZ.out];have hbb:=HBB.trans (hb3.mono HBB.size);have RQ:(w1.alloc (.cells #[.string ⟨#[]⟩,.string ⟨#[]⟩,.bool true] 41)).heap.size=w.heap.size+3:=by simp[HSZ.out]
 clear hb3 HB1 HB2 HBB HSZ;generalize w1.alloc (.cells #[.string ⟨#[]⟩,.string ⟨#[]⟩,.bool true] 41)=w3 at*;have h:=H0.out;have hWw:=h.below.size;have hF:=h.lt
 have cD:=qW (G:=30) (CA:= #[.pointer (some ⟨w.heap.size,0,none⟩),.pointer (some ⟨w.heap.size+2,0,none⟩)]) (fun args w=>by kernel_rfl) (h.kept hT hbb) hc hT hP (fun _=>true) h0 (Nat.le_refl _) hl hK (fun _ _=>rfl) hE (JS PP key w.heap.size (w.heap.size+2)) (T:=[w.heap.size,w.heap.size+2])
  (fun d w2 w3 T ⟨e1,e2⟩ hs=>⟨e1,e2.same (e1▸hs)⟩)
  ⟨rfl,b1,b3⟩
  (fun x hx=>by simp at hx;omega)
  (Sv.apt h (fun x hx=>by simp at hx;omega))
  (fun d w2 T x a m hx hd ⟨e1,hj⟩ hn ht hm=>by
    subst e1;refine(Fx hj (by omega) hn ((hP.at_ d x hx).pv).1 ((hP.at_ d x hx).pv).2 x.2).mono ?_;rintro e w' ⟨he,h1,h2⟩;have e2:=iY (·.1) hx;refine⟨he,_,⟨rfl,?_⟩,fun y hy=>?_,fun y hy=> .inl hy,h2⟩
    . rw[e2,kC]
      exact h1
    . simp only[List.mem_cons,List.not_mem_nil,or_false]at hy
      rcases hy with rfl|rfl
      . exact h1.b1.lt
      . exact h1.b2.lt)
 simp only[<-HRT.out]at cD;have hpb:z.p<w.heap.size/\z.b<w.heap.size:=⟨hF _ (by simp),hF _ (by simp)⟩;have d1:=b1.cell (i:=0) rfl;have HB2:=hid b2;have HS:=hid (And.intro RQ (And.intro hWw (And.intro hbb hF)));clear HRT b1 b2 b3 hbb h hP hl hK h0 hE hx9 hF hpb H0 RQ hWw;obtain⟨g1,hg1⟩:=eX w.heap.size;have HG1:=hid hg1;simp only[<-hg1]at cD d1 HB2 ⊢;clear hg1;rcases hE9 with rfl|rfl
 all_goals
  go_upto_region 3 with(go_at_call 28;refine cD.mono ?_;rintro e w2 ⟨rfl,F',T',r',s',hdn⟩;have HD:=hid hdn;clear hdn cD d1)
  have hn:g1+1∉shT z F':=fun hx=>by
   have h1:=HS.1;have h2:=HG1.out;have hz:∀y,y∈shT z F->y<w.heap.size:=HS.2.2.2
   unfold shT at hx hz;rcases List.mem_append.1 (show g1+1∈[z.p,z.q,z.r,z.b]++F' from hx)with h3|h3
   . have:=hz (g1+1) (List.mem_append_left F h3)
     omega
   . rcases HD.gr _ h3 with h4|h4
     . have:=hz (g1+1) (List.mem_append_right [z.p,z.q,z.r,z.b] h4)
       omega
     . omega
  have hb2:aH 41 w2 (g1+1) #[.string ⟨#[]⟩,.string ⟨#[]⟩,.bool false]:=(HD.io.block _ HB2.lt fun hx=>by
   have h2:=HG1.out;have hz:∀y,y∈shT z F->y<w.heap.size:=HS.2.2.2
   unfold shT at hz;simp only[List.mem_append,List.mem_cons,List.not_mem_nil,or_false]at hx;rcases hx with(hx|hx)|hx|hx|hx
   . omega
   . omega
   . have:=hz (g1+1) (by simp[hx])
     omega
   . have:=hz (g1+1) (by simp[hx])
     omega
   . have:=hz (g1+1) (by simp[hx])
     omega).trans HB2.out
  have hbk:=(Dn.bk HD.out HS.2.2.1 (fun x hx=>by
   have:=HG1.out;simp at hx
   omega)).none_
  obtain⟨-,hj⟩:=HD.j;rw[List.take_length]at hj;have HK:=hid hbk;have HN:=hid hn;have HJ:=hid hj;have f0:=hb2.free 0;have f1:=hb2.free 1;have f2:=hb2.free 2;have e0:=hb2.cell (i:=0) rfl;have e1:=hb2.cell (i:=1) rfl;have e2:=hb2.cell (i:=2) rfl;have HB9:=hid hb2;clear hbk hn hj hb2
 . obtain⟨S,hS⟩:=eX (spn key (PP.map (·.1)))
   simp only[<-hS]at HJ;have HSS:=hid hS;clear hS;obtain⟨x0,x1,x2⟩:=bW (show w2.heap[g1+2]? =some (.cells #[.string S.1,.string S.2.1,.bool S.2.2] 41 (0,0))from HJ.b2);obtain⟨s1,s2,s3⟩:=S;simp only at x0 x1 x2;have hA:=jQ HB9.out (.string s1) (.string s2) (.bool s3);have hI:=mP w2 (g1+1) (.string s1) (.string s2) (.bool s3);unfold rF at hA hI;have HA:=hid hA;have HI:=hid hI;clear hA hI;go_wp2_with fail
   generalize ((w2.setCell ⟨g1+1,0,none⟩ (.string s1)).setCell ⟨g1+1,1,none⟩ (.string s2)).setCell ⟨g1+1,2,none⟩ (.bool s3)=w9 at*;obtain⟨o0,o1,o2⟩:=bW HA.out;refine bodyPost_ret (v:= .tuple #[.agg #[.string s1,.string s2,.bool s3],(0:Int)]) (by simp[results,Tryz.results10,go_sem,o0,o1,o2]) rfl ⟨F',r',s',HK.far hT HI.out HN.out (by have:=HG1.out;omega) HS.2.1,.inl ⟨rfl,?_⟩⟩;rw[<-HSS.out]
 . have hA:=jQ HB9.out (.string ⟨#[]⟩) (.string ⟨#[]⟩) (.bool false)
   have hI:=mP w2 (g1+1) (.string ⟨#[]⟩) (.string ⟨#[]⟩) (.bool false);unfold rF at hA hI;have HA:=hid hA;have HI:=hid hI;clear hA hI;go_wp2_with fail
   generalize ((w2.setCell ⟨g1+1,0,none⟩ (.string ⟨#[]⟩)).setCell ⟨g1+1,1,none⟩ (.string ⟨#[]⟩)).setCell ⟨g1+1,2,none⟩ (.bool false)=w9 at*;obtain⟨o0,o1,o2⟩:=bW HA.out;exact bodyPost_ret (v:= .tuple #[.agg #[.string ⟨#[]⟩,.string ⟨#[]⟩,.bool false],(12:Int)]) (by simp[results,Tryz.results10,go_sem,o0,o1,o2]) rfl ⟨F',r',s',HK.far hT HI.out HN.out (by have:=HG1.out;omega) HS.2.1,.inr ⟨rfl,rfl⟩⟩
end
end Sk
end Go.Proofs.YtmcbidhpkpmalaaGreatDoor
