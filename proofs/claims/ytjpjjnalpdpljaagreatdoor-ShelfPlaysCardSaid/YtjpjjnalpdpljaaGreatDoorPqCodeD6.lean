import Derived.Test.YtjpjjnalpdpljaaGreatDoorPqCodeD5
set_option maxHeartbeats 8000000
set_option maxRecDepth 100000
namespace Go.Proofs.YtjpjjnalpdpljaaGreatDoor
open Go.RowKit
open Go.Lib (hid)
open ah.aS (cell)
open List (mem_singleton)
namespace No
open Mem Lx Bu Lf Fa
open Wd (be val aD dY isW St bF bC bD bW Only Rd)
structure Nb (c:Cfg) (W:World) (g q:Nat) (X:Array Value) (w:World):Prop where
 r:w.heap[g]? =some (.cells (ji c q) 148 (0,0))
 n:w.heap[g+1]? =some (.cells X 43 (0,0))
 only:Only q W w
 size:g+2<=w.heap.size
 lt:q<W.heap.size
 ge:W.heap.size<=g
section
variable {c:Cfg} {W w w':World} {g q:Nat} {X X':Array Value} {s:St}
theorem Nb.fI (h:Nb c W g q X w) (ho:Only q w w'):Nb c W g q X w':=by
 have h1:=h.lt;have h2:=h.size;have h0:=h.ge;refine ⟨(ho.block _ (by omega) ?_).trans h.r,(ho.block _ (by omega) ?_).trans h.n,h.only.trans ho,Nat.le_trans h2 ho.size,h1,h0⟩
 . simp only [mem_singleton]
   omega
 . simp only [mem_singleton]
   omega
theorem Nb.kept (h:Nb c W g q X w) (hb:Bw w w'):Nb c W g q X w':=h.fI (Wd.Only.of_below hb)
theorem Nb.fill (h:Nb c W g q X w) (ho:Flow.Into [g+1] w w') (hx:w'.heap[g+1]? =some (.cells X' 43 (0,0))):Nb c W g q X' w':=by
 have h1:=h.lt;have h2:=h.size;have h0:=h.ge;refine ⟨(ho.block _ (by omega) ?_).trans h.r,hx,⟨ho.os.trans h.only.os,ho.tape.trans h.only.tape,ho.output.trans h.only.output,Nat.le_trans h.only.size ho.size,fun k hk hn=>(ho.block k (Nat.lt_of_lt_of_le hk h.only.size) ?_).trans (h.only.block k hk hn)⟩,Nat.le_trans h2 ho.size,h1,h0⟩
 . simp only [mem_singleton]
   omega
 . simp only [mem_singleton]
   omega
theorem Nb.rd (h:Nb c W g q X w) (hr:Rd 175 w q s) (ho:Flow.Into [g+1] w w'):Rd 175 w' q s:=oN hr ho (by have:=h.lt;have:=h.ge;omega) h.n (by decide)
theorem Nb.row {α:Type} {K:Kind α} {A:Option Addr} {k:Nat} {L:List α} (h:Nb c W g q X w) (hv:VK K w (g+2) A k L) (ho:Only q w w'):VK K w' (g+2) A k L:=hv.into ho fun a ha hm=>by
 have h1:=(hv.at_ a ha).1;have:=h.lt;have:=h.ge;simp only [mem_singleton] at hm;omega
end
theorem dD {α:Type} {K:Kind α} {w w':World} {g:Nat} {A:Option Addr} {k:Nat} {L:List α} (hv:VK K w (g+2) A k L) (ho:Flow.Into [g+1] w w'):VK K w' (g+2) A k L:=hv.into ho fun a ha hm=>by
 have h1:=(hv.at_ a ha).1;simp only [mem_singleton] at hm;omega
structure NdV (w:World) (B:Nat) (n:Nd) (a:At):Prop where
 kids:VK KdK w B a.kA a.kc n.kids
 piv:VK StK w B a.pA a.pc n.piv
 buf:VK MgK w B a.bA a.bc n.buf
 prs:VK PrK w B a.qA a.qc n.prs
theorem NdV.nd {w:World} {B:Nat} {n:Nd} {a:At} (h:NdV w B n a):gK w n a:=⟨h.kids.rc,h.piv.rc,h.buf.rc,h.prs.rc⟩
theorem NdV.kept {w w':World} {B:Nat} {n:Nd} {a:At} (h:NdV w B n a) (hb:Bw w w'):NdV w' B n a:=⟨h.kids.kept hb,h.piv.kept hb,h.buf.kept hb,h.prs.kept hb⟩
theorem nW {α:Type} {K:Kind α} {w w':World} {B q:Nat} {A:Option Addr} {k:Nat} {L:List α} (hv:VK K w B A k L) (hq:q<B) (ho:Only q w w'):VK K w' B A k L:=hv.into ho fun a ha hm=>by
 have h1:=(hv.at_ a ha).1;simp only [mem_singleton] at hm;omega
theorem zL {α:Type} {K:Kind α} {w w':World} {B b:Nat} {A:Option Addr} {k:Nat} {L:List α} {X:Array Value} {T:TypeId} {f:Nat × Nat} (hv:VK K w B A k L) (hx:w.heap[b]? =some (.cells X T f)) (hT:T≠K.T) (ho:Flow.Into [b] w w'):VK K w' B A k L:=hv.into ho fun a ha hm=>by
 simp only [mem_singleton] at hm;rcases hv.2 with ⟨h6,-⟩|⟨g',cap,cur,he,-,hh,-⟩
 . rw [ha] at h6
   cases h6
 . rw [ha] at he
   (cases he);simp only at hm;rw [hm,hx] at hh;simp only [Option.some.injEq,Obj.cells.injEq] at hh;exact hT hh.2.1
theorem NdV.fI {w w':World} {B q:Nat} {n:Nd} {a:At} (h:NdV w B n a) (hq:q<B) (ho:Only q w w'):NdV w' B n a:=⟨nW h.kids hq ho,nW h.piv hq ho,nW h.buf hq ho,nW h.prs hq ho⟩
theorem NdV.fill {w w':World} {B b:Nat} {n:Nd} {a:At} {X:Array Value} (h:NdV w B n a) (hx:w.heap[b]? =some (.cells X 43 (0,0))) (ho:Flow.Into [b] w w'):NdV w' B n a:=⟨zL h.kids hx (by decide) ho,zL h.piv hx (by decide) ho,zL h.buf hx (by decide) ho,zL h.prs hx (by decide) ho⟩
theorem PO {s s1 s2 s3 s4 s5:St} {mk lv np nm:Nat} (e0:bC s 1=(s1,mk)) (e1:bC s1 1=(s2,lv)) (e2:bC s2 2=(s3,np)) (e3:bC s3 2=(s4,nm)) (e4:bD s4 2=s5):xP s=mk/\hLv s=lv/\fq s=np/\qj s=nm/\hSt s=s5:=by
 unfold xP hLv fq qj hSt;simp only [e0,e1,e2,e3,e4];exact ⟨trivial,trivial,trivial,trivial,trivial⟩
theorem FN (c:Cfg) {F Bf Lf' K V:Nat} (hs:lD c F Bf Lf' K V) {W:World} {q:Nat} {s:St} (h:Rd 175 W q s):Calls Tryz.prog 101 #[.agg (ji c q)] W fun e w'=>∃n z ok s',e=.returned (.tuple #[.agg (bL n z),.bool ok])/\NdV w' W.heap.size n z/\Rd 175 w' q s'/\Only q W w'/\(ok=true->NdP c s n s')/\(ok=false->∀n' s'',¬NdP c s n' s''):=by
 obtain ⟨s1,mk,e0⟩:∃a b,bC s 1=(a,b):=⟨_,_,rfl⟩
 obtain ⟨s2,lv,e1⟩:∃a b,bC s1 1=(a,b):=⟨_,_,rfl⟩
 obtain ⟨s3,np,e2⟩:∃a b,bC s2 2=(a,b):=⟨_,_,rfl⟩
 obtain ⟨s4,nm,e3⟩:∃a b,bC s3 2=(a,b):=⟨_,_,rfl⟩
 obtain ⟨s5,e4⟩:∃a,bD s4 2=a:=⟨_,rfl⟩
 obtain ⟨d0,d1,d2,d3,d4⟩:=PO e0 e1 e2 e3 e4;obtain ⟨m1,hm1⟩:∃m1,m1=(if lv=0 then 1 else 2:Nat):=⟨_,rfl⟩
 obtain ⟨t,ht⟩:=bU (Room c lv np nm)
 have HH:Hid (EK c s↔mk=m1/\t=true):=by
  unfold Hid EK;rw [d0,d1,d2,d3,<-hm1,ht]
 have HNO:Hid (¬(mk=m1/\t=true)->∀n' s'',¬NdP c s n' s''):=fun h1 n' s'' h2=>h1 (HH.out.1 h2.1)
 have cNM:∀w,Hid (CW 138 #[(lv:Int)] w (.int .i64 (m1:Int))):=fun w=>by
  rw [hm1];exact nH lv w
 have cHR:∀w,Hid (CB 139 #[.agg (ji c q),(lv:Int),(np:Int),(nm:Int)] w (.bool t)):=fun w=>xQ c q lv np nm w t ht
 have HLF:Hid (mk=m1->t=true->lv=0->∃Q sq,rdS (kH c) np s5=(sq,Q)/\Q.length=np/\np<=100000/\NdP c s ⟨0,[],[],[],Q⟩ sq):=fun h1 h2 h3=>by
  obtain ⟨sq,Q,hq⟩:∃a b,rdS (kH c) np s5=(a,b):=⟨_,_,rfl⟩
  have hl:=dZ (f:=kH c) np s5;rw [hq] at hl;have hR:=ht.1 h2;have hLl:=hs.l;have hLe:=hs.leaf;refine ⟨Q,sq,hq,hl,?_,HH.out.2 ⟨h1,h2⟩,.inl ⟨by rw [d1];exact h3,?_,?_⟩⟩
  . rcases hR with ⟨-,hr,-⟩|⟨hr,-⟩
    . omega
    . exact absurd h3 hr
  . unfold oQ
    rw [d2,d4,hq]
  . unfold oQ
    rw [d2,d4,hq]
 have HIN:Hid (mk=m1->t=true->lv≠0->∃Ks sk P sp M sm,rdS rdK np s5=(sk,Ks)/\rdS (nI c) (np-1) (bD sk (4*(c.fan-np)))=(sp,P)/\rdS (jU c) nm (bD sp ((1+c.key)*(c.fan-1-((np-1:Nat):Int))))=(sm,M)/\Ks.length=np/\P.length=np-1/\M.length=nm/\1<=np/\np<=F/\nm<=100000/\((∀x∈M,x.1=1\/x.1=2)->NdP c s ⟨lv,Ks,P,M.map (·.2),[]⟩ sm)/\(¬(∀x∈M,x.1=1\/x.1=2)->∀n' s'',¬NdP c s n' s'')):=fun h1 h2 h3=>by
  obtain ⟨sk,Ks,hk⟩:∃a b,rdS rdK np s5=(a,b):=⟨_,_,rfl⟩
  obtain ⟨sp,P,hp⟩:∃a b,rdS (nI c) (np-1) (bD sk (4*(c.fan-np)))=(a,b):=⟨_,_,rfl⟩
  obtain ⟨sm,M,hm⟩:∃a b,rdS (jU c) nm (bD sp ((1+c.key)*(c.fan-1-((np-1:Nat):Int))))=(a,b):=⟨_,_,rfl⟩
  have l1:=dZ (f:=rdK) np s5;have l2:=dZ (f:=nI c) (np-1) (bD sk (4*(c.fan-np)));have l3:=dZ (f:=jU c) nm (bD sp ((1+c.key)*(c.fan-1-((np-1:Nat):Int))));rw [hk] at l1;rw [hp] at l2;rw [hm] at l3;have hR:=ht.1 h2;have hBb:=hs.b;have hBu:=hs.buffer;have hFa:=hs.fan
  have iK':iK s=(sk,Ks):=by
   unfold iK;rw [d2,d4,hk]
  have iP':iP c s=(sp,P):=by
   unfold iP iZ1;rw [iK',d2];exact hp
  have iM':iM c s=(sm,M):=by
   unfold iM iZ2;rw [iP',d2,d3];exact hm
  rcases hR with ⟨hr,-⟩|⟨-,r1,r2,r3⟩
  . exact absurd hr h3
  refine ⟨Ks,sk,P,sp,M,sm,hk,hp,hm,l1,l2,l3,r1,by omega,by omega,fun hg=>⟨HH.out.2 ⟨h1,h2⟩,.inr ⟨by rw [d1];exact h3,by rw [d1,iK',iP',iM'],by rw [iM'],by rw [iM'];exact hg⟩⟩,fun hb n' s'' h9=>?_⟩;rcases h9.2 with ⟨h8,-⟩|⟨-,-,-,h8⟩
  . rw [d1] at h8
    exact h3 h8
  . rw [iM'] at h8
    exact hb h8
 have HR0:=hid h;have hF:=hs.fan;have hK:=hs.key;have hF8:=hs.f;have hK8:=hs.k;obtain ⟨cB,cY,cF,cN,cU,cL,cKy,cV⟩:=c
 try simp only at*
 subst hF;subst hK
 have c0:∀w,Rd 175 w q s->Hid (Calls Tryz.prog 137 #[.agg #[cB,cY,cF,(F:Int),cU,cL,(K:Int),cV,q],(1:Int)] w fun e w'=>e=.returned (mk:Int)/\Rd 175 w' q s1/\Only q w w'):=fun w h=>by
  have h9:Calls Tryz.prog 137 #[.agg #[cB,cY,cF,(F:Int),cU,cL,(K:Int),cV,q],(1:Int)] w fun e w'=>e=.returned ((bC s 1).2:Int)/\Rd 175 w' q (bC s 1).1/\Only q w w':=eD ⟨cB,cY,cF,(F:Int),cU,cL,(K:Int),cV⟩ h 1 rfl (by decide);rw [e0] at h9;exact h9
 have c1:∀w,Rd 175 w q s1->Hid (Calls Tryz.prog 137 #[.agg #[cB,cY,cF,(F:Int),cU,cL,(K:Int),cV,q],(1:Int)] w fun e w'=>e=.returned (lv:Int)/\Rd 175 w' q s2/\Only q w w'):=fun w h=>by
  have h9:Calls Tryz.prog 137 #[.agg #[cB,cY,cF,(F:Int),cU,cL,(K:Int),cV,q],(1:Int)] w fun e w'=>e=.returned ((bC s1 1).2:Int)/\Rd 175 w' q (bC s1 1).1/\Only q w w':=eD ⟨cB,cY,cF,(F:Int),cU,cL,(K:Int),cV⟩ h 1 rfl (by decide);rw [e1] at h9;exact h9
 have c2:∀w,Rd 175 w q s2->Hid (Calls Tryz.prog 137 #[.agg #[cB,cY,cF,(F:Int),cU,cL,(K:Int),cV,q],(2:Int)] w fun e w'=>e=.returned (np:Int)/\Rd 175 w' q s3/\Only q w w'):=fun w h=>by
  have h9:Calls Tryz.prog 137 #[.agg #[cB,cY,cF,(F:Int),cU,cL,(K:Int),cV,q],(2:Int)] w fun e w'=>e=.returned ((bC s2 2).2:Int)/\Rd 175 w' q (bC s2 2).1/\Only q w w':=eD ⟨cB,cY,cF,(F:Int),cU,cL,(K:Int),cV⟩ h 2 rfl (by decide);rw [e2] at h9;exact h9
 have c3:∀w,Rd 175 w q s3->Hid (Calls Tryz.prog 137 #[.agg #[cB,cY,cF,(F:Int),cU,cL,(K:Int),cV,q],(2:Int)] w fun e w'=>e=.returned (nm:Int)/\Rd 175 w' q s4/\Only q w w'):=fun w h=>by
  have h9:Calls Tryz.prog 137 #[.agg #[cB,cY,cF,(F:Int),cU,cL,(K:Int),cV,q],(2:Int)] w fun e w'=>e=.returned ((bC s3 2).2:Int)/\Rd 175 w' q (bC s3 2).1/\Only q w w':=eD ⟨cB,cY,cF,(F:Int),cU,cL,(K:Int),cV⟩ h 2 rfl (by decide);rw [e3] at h9;exact h9
 have cZ:∀w,Rd 175 w q s4->Hid (Calls Tryz.prog 102 #[q,(2:Int)] w fun e w'=>e=.returned (.tuple #[])/\Rd 175 w' q s5/\Only q w w'):=fun w h=>by
  have h9:=Wd.kU q s4 2 w h;rw [e4] at h9;exact h9
 clear h hs d0 d1 d2 d3 d4 hm1 e0 e1 e2 e3 e4 HH ht;unfold ji;go_enter Tryz.func101,Tryz.ntmps101
 go_upto_region 1 with fail
 obtain ⟨g,hg⟩:∃g,g=W.heap.size:=⟨_,rfl⟩
 have hb:Bw W ((W.alloc (.cells #[cB,cY,cF,(F:Int),cU,cL,(K:Int),cV,q] 148)).alloc (.cells #[(0:Int),(),(),(),()] 43)):=(aR W _ _).2.2
 have HB:Hid (Nb (⟨cB,cY,cF,(F:Int),cU,cL,(K:Int),cV⟩:Cfg) W g q #[(0:Int),(),(),(),()] ((W.alloc (.cells #[cB,cY,cF,(F:Int),cU,cL,(K:Int),cV,q] 148)).alloc (.cells #[(0:Int),(),(),(),()] 43))):=by
  subst hg;exact ⟨(aR W _ _).1,(aR W _ _).2.1,Wd.Only.of_below hb,by simp,HR0.out.lt,Nat.le_refl _⟩
 have HR:=hid (HR0.out.keep hb);generalize (W.alloc (.cells #[cB,cY,cF,(F:Int),cU,cL,(K:Int),cV,q] 148)).alloc (.cells #[(0:Int),(),(),(),()] 43)=w1 at*;simp only [<-hg];clear hb hg HR0;obtain ⟨g0,g1,g2,g3,g4,g5,g6,g7,g8⟩:=j4 HB.out.r;go_upto_region 2 with (go_at_call 137;refine (c0 _ HR.out).out.mono ?_;rintro e w2 ⟨rfl,hr,ho⟩;replace HR:=hid hr;replace HB:=hid (HB.out.fI ho);clear hr ho c0)
 clear g0 g1 g2 g3 g4 g5 g6 g7 g8;obtain ⟨g0,g1,g2,g3,g4,g5,g6,g7,g8⟩:=j4 HB.out.r;go_upto_region 3 with (go_at_call 137;refine (c1 _ HR.out).out.mono ?_;rintro e w3 ⟨rfl,hr,ho⟩;replace HR:=hid hr;replace HB:=hid (HB.out.fI ho);clear hr ho c1;obtain ⟨y0,y1,y2,y3,y4⟩:=aG HB.out.n;have fr:=bG HB.out.n 0)
 have hi:=Wd.aV (g:=g+1) (Flow.Into.refl _ w3) 0 (.int .i64 (lv:Int));have hx:(w3.setCell ⟨g+1,0,none⟩ (lv:Int)).heap[g+1]? =some (.cells #[(lv:Int),(),(),(),()] 43 (0,0)):=by simp [World.setCell,Array.getElem?_modify,HB.out.n]
 replace HR:=hid (HB.out.rd HR.out hi);replace HB:=hid (HB.out.fill hi hx);clear hi hx y0 y1 y2 y3 y4 fr g0 g1 g2 g3 g4 g5 g6 g7 g8;generalize w3.setCell ⟨g+1,0,none⟩ (lv:Int)=w4 at*;obtain ⟨g0,g1,g2,g3,g4,g5,g6,g7,g8⟩:=j4 HB.out.r;have hqg:g≠q:=by have:=HB.out.lt;have:=HB.out.ge;omega
 have hS3:∀k,k∈[q]->k<w4.heap.size:=fun k hk=>by
  obtain rfl:k=q:=by simpa using hk
  have:=HB.out.lt;have:=HB.out.ge;have:=HB.out.size;omega
 have hgS:g∉[q]:=by simpa using hqg
 have tg0:=fun t:ah.aS [q] w4 []=>cell g0 hgS t;have tg1:=fun t:ah.aS [q] w4 []=>cell g1 hgS t;have tg2:=fun t:ah.aS [q] w4 []=>cell g2 hgS t;have tg3:=fun t:ah.aS [q] w4 []=>cell g3 hgS t;have tg4:=fun t:ah.aS [q] w4 []=>cell g4 hgS t;have tg5:=fun t:ah.aS [q] w4 []=>cell g5 hgS t;have tg6:=fun t:ah.aS [q] w4 []=>cell g6 hgS t;have tg7:=fun t:ah.aS [q] w4 []=>cell g7 hgS t;have tg8:=fun t:ah.aS [q] w4 []=>cell g8 hgS t;clear g0 g1 g2 g3 g4 g5 g6 g7 g8;refine ah.aj [q] [(0,[]),(2,[]),(1,[]),(3,[])] [1,3] [] (by kernel_rfl) (by kernel_rfl) hS3 ?_;simp only [ah.pick,ah.aO,ah.dL];clear hS3
 repeat (refine ah.ak (fun K hK=>?_);go_simp;(refine hK _ ?_;clear hK K))
 refine ah.aN rfl ah.aF (EvI w4 q np s3) (fun W2 hk9 _=>?_) (fun v w5 hv hI _ hTd=>?_)
 . go_simp
   go_at_call 137
   refine (c2 _ (HR.out.keep hk9)).out.mono ?_;rintro e w' ⟨rfl,hr,ho⟩;exact ⟨_,rfl,⟨rfl,hr,(Wd.Only.of_below hk9).trans ho⟩,ho⟩
 obtain ⟨rfl,hr5,ho5⟩:=hv;clear hI hTd;refine ah.aN rfl ah.aF (EvI w5 q nm s4) (fun W2 hk9 _=>?_) (fun v w6 hv hI _ hTd=>?_)
 . go_simp
   go_at_call 137
   refine (c3 _ (hr5.keep hk9)).out.mono ?_;rintro e w' ⟨rfl,hr,ho⟩;exact ⟨_,rfl,⟨rfl,hr,(Wd.Only.of_below hk9).trans ho⟩,ho⟩
 obtain ⟨rfl,hr6,ho6⟩:=hv;clear hI hTd;refine ah.walk_nil ?_;intro w7 hb7 _;replace HB:=hid (HB.out.fI (ho5.trans (ho6.trans (Wd.Only.of_below hb7))));replace HR:=hid (hr6.keep hb7);clear hr5 hr6 ho5 ho6 hb7 hgS hqg tg0 tg1 tg2 tg3 tg4 tg5 tg6 tg7 tg8 c2 c3;simp only [lC,List.drop_zero,Nat.zero_add,Nat.reduceAdd];obtain ⟨g0,g1,g2,g3,g4,g5,g6,g7,g8⟩:=j4 HB.out.r;go_upto_region 5 with (go_at_call 102;refine (cZ _ HR.out).out.mono ?_;rintro e w8 ⟨rfl,hr,ho⟩;replace HR:=hid hr;replace HB:=hid (HB.out.fI ho);clear hr ho cZ)
 clear g0 g1 g2 g3 g4 g5 g6 g7 g8;obtain ⟨g0,g1,g2,g3,g4,g5,g6,g7,g8⟩:=j4 HB.out.r;obtain ⟨y0,y1,y2,y3,y4⟩:=aG HB.out.n;by_cases hmk:mk=m1
 case neg=>
  have hne:((mk:Int) != (m1:Int))=true:=by
   simp only [bne_iff_ne,ne_eq];omega
  have HB7:=hid (HNO.out fun h=>hmk h.1);clear hmk HNO HLF HIN cHR;go_upto_region 6 with (go_at_call 138;refine (cNM _).out.mono ?_;rintro e w' ⟨rfl,rfl⟩)
  clear y0 y1 y2 y3 y4;obtain ⟨y0,y1,y2,y3,y4⟩:=aG HB.out.n;have f0:=bG HB.out.n 0;have f1:=bG HB.out.n 1;have f2:=bG HB.out.n 2;have f3:=bG HB.out.n 3;have f4:=bG HB.out.n 4
  have hi:=fH w8 (g+1) (.int .i64 (lv:Int)) (.slice none 0 0) (.slice none 0 0) (.slice none 0 0) (.slice none 0 0);have hx:=eP HB.out.n (.int .i64 (lv:Int)) (.slice none 0 0) (.slice none 0 0) (.slice none 0 0) (.slice none 0 0);have HR9:=hid (HB.out.rd HR.out hi);have HB9:=hid (HB.out.fill hi hx);unfold sN at HR9 HB9;clear hi hx HB HR g0 g1 g2 g3 g4 g5 g6 g7 g8;go_wp2_with fail
  generalize ((((w8.setCell ⟨g+1,0,none⟩ (lv:Int)).setCell ⟨g+1,1,none⟩ ()).setCell ⟨g+1,2,none⟩ ()).setCell ⟨g+1,3,none⟩ ()).setCell ⟨g+1,4,none⟩ ()=w91 at*;clear y0 y1 y2 y3 y4 f0 f1 f2 f3 f4;obtain ⟨y0,y1,y2,y3,y4⟩:=aG HB9.out.n;exact bodyPost_ret (v:= .tuple #[.agg #[(lv:Int),(),(),(),()],.bool false]) (by simp [results,Tryz.results101,go_sem,y0,y1,y2,y3,y4]) rfl ⟨⟨(lv:Int),[],[],[],[]⟩,⟨none,0,none,0,none,0,none,0⟩,false,_,rfl,⟨VK.nil _ _,VK.nil _ _,VK.nil _ _,VK.nil _ _⟩,HR9.out,HB9.out.only,fun h=>by (cases h),fun _=>HB7.out⟩
 have hne:((mk:Int) != (m1:Int))=false:=by simp [hmk]
 cases t with
 |false=>
  have HB7:=hid (HNO.out fun h=>by cases h.2);clear hmk HNO HLF HIN
  go_upto_region 6 with (first
   |(go_at_call 138;refine (cNM _).out.mono ?_;rintro e w' ⟨rfl,rfl⟩)
   |(go_at_call 139;refine (cHR _).out.mono ?_;rintro e w9 ⟨rfl,hb⟩;replace HB:=hid (HB.out.kept hb);replace HR:=hid (HR.out.keep hb);clear hb cHR g0 g1 g2 g3 g4 g5 g6 g7 g8 y0 y1 y2 y3 y4;obtain ⟨y0,y1,y2,y3,y4⟩:=aG HB.out.n;obtain ⟨g0,g1,g2,g3,g4,g5,g6,g7,g8⟩:=j4 HB.out.r))
  clear y0 y1 y2 y3 y4;obtain ⟨y0,y1,y2,y3,y4⟩:=aG HB.out.n;have f0:=bG HB.out.n 0;have f1:=bG HB.out.n 1;have f2:=bG HB.out.n 2;have f3:=bG HB.out.n 3;have f4:=bG HB.out.n 4
  have hi:=fH w9 (g+1) (.int .i64 (lv:Int)) (.slice none 0 0) (.slice none 0 0) (.slice none 0 0) (.slice none 0 0);have hx:=eP HB.out.n (.int .i64 (lv:Int)) (.slice none 0 0) (.slice none 0 0) (.slice none 0 0) (.slice none 0 0);have HR9:=hid (HB.out.rd HR.out hi);have HB9:=hid (HB.out.fill hi hx);unfold sN at HR9 HB9;clear hi hx HB HR g0 g1 g2 g3 g4 g5 g6 g7 g8;go_wp2_with fail
  generalize ((((w9.setCell ⟨g+1,0,none⟩ (lv:Int)).setCell ⟨g+1,1,none⟩ ()).setCell ⟨g+1,2,none⟩ ()).setCell ⟨g+1,3,none⟩ ()).setCell ⟨g+1,4,none⟩ ()=w91 at*;clear y0 y1 y2 y3 y4 f0 f1 f2 f3 f4;obtain ⟨y0,y1,y2,y3,y4⟩:=aG HB9.out.n;exact bodyPost_ret (v:= .tuple #[.agg #[(lv:Int),(),(),(),()],.bool false]) (by simp [results,Tryz.results101,go_sem,y0,y1,y2,y3,y4]) rfl ⟨⟨(lv:Int),[],[],[],[]⟩,⟨none,0,none,0,none,0,none,0⟩,false,_,rfl,⟨VK.nil _ _,VK.nil _ _,VK.nil _ _,VK.nil _ _⟩,HR9.out,HB9.out.only,fun h=>by (cases h),fun _=>HB7.out⟩
 |true=>
  replace HLF:=hid (HLF.out hmk rfl);replace HIN:=hid (HIN.out hmk rfl);clear hmk HNO
  go_upto_region 7 with (first
   |(go_at_call 138;refine (cNM _).out.mono ?_;rintro e w' ⟨rfl,rfl⟩)
   |(go_at_call 139;refine (cHR _).out.mono ?_;rintro e w9 ⟨rfl,hb⟩;replace HB:=hid (HB.out.kept hb);replace HR:=hid (HR.out.keep hb);clear hb cHR g0 g1 g2 g3 g4 g5 g6 g7 g8 y0 y1 y2 y3 y4;obtain ⟨y0,y1,y2,y3,y4⟩:=aG HB.out.n;obtain ⟨g0,g1,g2,g3,g4,g5,g6,g7,g8⟩:=j4 HB.out.r))
  clear hne cNM;by_cases h0:lv=0
  . obtain ⟨Q,sq,hq,hql,hnp,hnd⟩:=HLF.out h0
    subst h0;have HND:=hid hnd;have HQL:=hid hql
    have cP:Hid (Calls Tryz.prog 140 #[.agg #[cB,cY,cF,(F:Int),cU,cL,(K:Int),cV,q],(np:Int)] w9 fun e w'=>∃A k,e=.returned (.slice A np k)/\VK PrK w' w9.heap.size A k Q/\Rd 175 w' q sq/\Only q w9 w'):=by
     have h9:=Bz ⟨cB,cY,cF,(F:Int),cU,cL,(K:Int),cV⟩ HR.out np hnp;rw [hq] at h9;exact h9
    clear hq hnp hnd hql HLF HIN;go_upto_region 8 with fail
    go_upto_region 9 with (go_at_call 140;refine cP.out.mono ?_;rintro e w10 ⟨A,k,rfl,hv,hr,ho⟩;replace HR:=hid hr;have HV:=hid (VK.mono hv HB.out.size);replace HB:=hid (HB.out.fI ho);clear hr ho hv cP y0 y1 y2 y3 y4;obtain ⟨y0,y1,y2,y3,y4⟩:=aG HB.out.n;have fr:=bG HB.out.n 4)
    have hi:=Wd.aV (g:=g+1) (Flow.Into.refl _ w10) 4 (.slice A np k);have hx:(w10.setCell ⟨g+1,4,none⟩ (.slice A np k)).heap[g+1]? =some (.cells #[(0:Int),(),(),(),.slice A np k] 43 (0,0)):=(by simp [World.setCell,Array.getElem?_modify,HB.out.n]);replace HR:=hid (HB.out.rd HR.out hi);replace HB:=hid (HB.out.fill hi hx);replace HV:=hid (dD HV.out hi);clear hi hx y0 y1 y2 y3 y4 fr g0 g1 g2 g3 g4 g5 g6 g7 g8;generalize w10.setCell ⟨g+1,4,none⟩ (.slice A np k)=w11 at*;obtain ⟨g0,g1,g2,g3,g4,g5,g6,g7,g8⟩:=j4 HB.out.r;obtain ⟨y0,y1,y2,y3,y4⟩:=aG HB.out.n;(have f0:=bG HB.out.n 0;have f1:=bG HB.out.n 1;have f2:=bG HB.out.n 2;have f3:=bG HB.out.n 3;have f4:=bG HB.out.n 4);have hi:=fH w11 (g+1) (.int .i64 0) (.slice none 0 0) (.slice none 0 0) (.slice none 0 0) (.slice A np k);have hx:=eP HB.out.n (.int .i64 0) (.slice none 0 0) (.slice none 0 0) (.slice none 0 0) (.slice A np k);have HR9:=hid (HB.out.rd HR.out hi);have HB9:=hid (HB.out.fill hi hx);replace HV:=hid (dD HV.out hi);unfold sN at HR9 HB9 HV;clear hi hx HB HR g0 g1 g2 g3 g4 g5 g6 g7 g8;go_wp2_with fail
    generalize ((((w11.setCell ⟨g+1,0,none⟩ (0:Int)).setCell ⟨g+1,1,none⟩ ()).setCell ⟨g+1,2,none⟩ ()).setCell ⟨g+1,3,none⟩ ()).setCell ⟨g+1,4,none⟩ (.slice A np k)=w91 at*;clear y0 y1 y2 y3 y4 f0 f1 f2 f3 f4;obtain ⟨y0,y1,y2,y3,y4⟩:=aG HB9.out.n;exact bodyPost_ret (v:= .tuple #[.agg #[(0:Int),(),(),(),.slice A np k],.bool true]) (by simp [results,Tryz.results101,go_sem,y0,y1,y2,y3,y4]) rfl ⟨⟨0,[],[],[],Q⟩,⟨none,0,none,0,none,0,A,k⟩,true,sq,by unfold bL;simp only;rw [HQL.out];rfl,⟨VK.nil _ _,VK.nil _ _,VK.nil _ _,HV.out.mono (by have:=HB9.out.ge;omega)⟩,HR9.out,HB9.out.only,fun _=>HND.out,fun h=>by (cases h)⟩
  . obtain ⟨Ks,sk,P,sp,M,sm,hk,hp,hm,lk,lp,lm,hn1,hnF,hnm,hgood,hbad⟩:=HIN.out h0
    obtain ⟨p1,hp1⟩:∃p1,p1=np-1:=⟨_,rfl⟩
    obtain ⟨z1,hz1⟩:∃z1,z1=bD sk (4*((F:Int)-(np:Int))):=⟨_,rfl⟩
    obtain ⟨z2,hz2⟩:∃z2,z2=bD sp ((1+(K:Int))*((F:Int)-1-((np-1:Nat):Int))):=⟨_,rfl⟩
    rw [<-hz1] at hp;rw [<-hz2] at hm;rw [<-hp1] at hp lp hz2
    have cK:∀w,Rd 175 w q s5->Hid (Calls Tryz.prog 141 #[.agg #[cB,cY,cF,(F:Int),cU,cL,(K:Int),cV,q],(np:Int)] w fun e w'=>∃A k,e=.returned (.slice A np k)/\VK KdK w' w.heap.size A k Ks/\Rd 175 w' q z1/\Only q w w'):=fun w h=>by
     have h9:=FK ⟨cB,cY,cF,(F:Int),cU,cL,(K:Int),cV⟩ h np rfl hF8.2 hnF;rw [hk,<-hz1] at h9;exact h9
    have cP:∀w,Rd 175 w q z1->Hid (Calls Tryz.prog 142 #[.agg #[cB,cY,cF,(F:Int),cU,cL,(K:Int),cV,q],(p1:Int)] w fun e w'=>∃A k,e=.returned (.slice A p1 k)/\VK StK w' w.heap.size A k P/\Rd 175 w' q z2/\Only q w w'):=fun w h=>by
     have h9:=yh ⟨cB,cY,cF,(F:Int),cU,cL,(K:Int),cV⟩ h p1 rfl rfl hF8.2 hK8.2 (by omega);rw [hp,<-hz2] at h9;exact h9
    have cM:∀w,Rd 175 w q z2->Calls Tryz.prog 143 #[.agg #[cB,cY,cF,(F:Int),cU,cL,(K:Int),cV,q],(nm:Int)] w fun e w'=>((∃A k,e=.returned (.tuple #[.slice A nm k,.bool true])/\VK MgK w' w.heap.size A k (M.map (·.2))/\Rd 175 w' q sm/\∀x∈M,x.1=1\/x.1=2)\/(∃s',e=.returned (.tuple #[(),.bool false])/\Rd 175 w' q s'/\¬ ∀x∈M,x.1=1\/x.1=2))/\Only q w w':=fun w h=>by
     have h9:=FM ⟨cB,cY,cF,(F:Int),cU,cL,(K:Int),cV⟩ h nm hnm;rw [hm] at h9;exact h9
    have HLK:=hid lk;have HLP:=hid lp
    have HLM:Hid ((M.map (·.2)).length=nm):=by
     unfold Hid;rw [List.length_map,lm]
    have hw1:IntKind.i64.wrap ((np:Int)-1)=(p1:Int):=(by rw [IntKind.wrap_i64];omega);have h0':((lv:Int)==0)=false:=(by simpa using h0);have HGD:=hid hgood;have HBD:=hid hbad;clear HLF HIN hk hp hm lk lp lm hn1 hnF hnm hgood hbad hp1 hz1 hz2 hF8 hK8;go_upto_region 10 with fail
    go_upto_region 11 with (go_at_call 141;refine (cK _ HR.out).out.mono ?_;rintro e w10 ⟨A1,k1,rfl,hv,hr,ho⟩;replace HR:=hid hr;have HV1:=hid (VK.mono hv HB.out.size);replace HB:=hid (HB.out.fI ho);clear hr ho hv cK y0 y1 y2 y3 y4;obtain ⟨y0,y1,y2,y3,y4⟩:=aG HB.out.n;have fr:=bG HB.out.n 1)
    have hi:=Wd.aV (g:=g+1) (Flow.Into.refl _ w10) 1 (.slice A1 np k1);have hx:(w10.setCell ⟨g+1,1,none⟩ (.slice A1 np k1)).heap[g+1]? =some (.cells #[(lv:Int),.slice A1 np k1,(),(),()] 43 (0,0)):=(by simp [World.setCell,Array.getElem?_modify,HB.out.n]);replace HR:=hid (HB.out.rd HR.out hi);replace HB:=hid (HB.out.fill hi hx);replace HV1:=hid (dD HV1.out hi);clear hi hx y0 y1 y2 y3 y4 fr g0 g1 g2 g3 g4 g5 g6 g7 g8;generalize w10.setCell ⟨g+1,1,none⟩ (.slice A1 np k1)=w11 at*;obtain ⟨g0,g1,g2,g3,g4,g5,g6,g7,g8⟩:=j4 HB.out.r;obtain ⟨y0,y1,y2,y3,y4⟩:=aG HB.out.n;go_upto_region 12 with (go_at_call 142;refine (cP _ HR.out).out.mono ?_;rintro e w12 ⟨A2,k2,rfl,hv,hr,ho⟩;replace HR:=hid hr;have HV2:=hid (VK.mono hv HB.out.size);replace HV1:=hid (HB.out.row HV1.out ho);replace HB:=hid (HB.out.fI ho);clear hr ho hv cP y0 y1 y2 y3 y4;obtain ⟨y0,y1,y2,y3,y4⟩:=aG HB.out.n;have fr:=bG HB.out.n 2)
    have hi:=Wd.aV (g:=g+1) (Flow.Into.refl _ w12) 2 (.slice A2 p1 k2);have hx:(w12.setCell ⟨g+1,2,none⟩ (.slice A2 p1 k2)).heap[g+1]? =some (.cells #[(lv:Int),.slice A1 np k1,.slice A2 p1 k2,(),()] 43 (0,0)):=(by simp [World.setCell,Array.getElem?_modify,HB.out.n]);replace HR:=hid (HB.out.rd HR.out hi);replace HB:=hid (HB.out.fill hi hx);replace HV1:=hid (dD HV1.out hi);replace HV2:=hid (dD HV2.out hi);clear hi hx y0 y1 y2 y3 y4 fr g0 g1 g2 g3 g4 g5 g6 g7 g8;generalize w12.setCell ⟨g+1,2,none⟩ (.slice A2 p1 k2)=w13 at*;obtain ⟨g0,g1,g2,g3,g4,g5,g6,g7,g8⟩:=j4 HB.out.r;obtain ⟨y0,y1,y2,y3,y4⟩:=aG HB.out.n;by_cases hall:∀x∈M,x.1=1\/x.1=2
    . replace HGD:=hid (HGD.out hall)
      have cMg:∀w,Rd 175 w q z2->Hid (Calls Tryz.prog 143 #[.agg #[cB,cY,cF,(F:Int),cU,cL,(K:Int),cV,q],(nm:Int)] w fun e w'=>(∃A k,e=.returned (.tuple #[.slice A nm k,.bool true])/\VK MgK w' w.heap.size A k (M.map (·.2)))/\Rd 175 w' q sm/\Only q w w'):=fun w h=>(cM w h).mono fun e w' ⟨h1,ho⟩=>by
       rcases h1 with ⟨A,k,rfl,hv,hr,-⟩|⟨s',-,-,hb⟩
       . exact ⟨⟨A,k,rfl,hv⟩,hr,ho⟩
       . exact absurd hall hb
      clear cM HBD hall;go_upto_region 13 with (go_at_call 143;refine (cMg _ HR.out).out.mono ?_;rintro e w14 ⟨⟨A3,k3,rfl,hv⟩,hr,ho⟩;replace HR:=hid hr;have HV3:=hid (VK.mono hv HB.out.size);replace HV1:=hid (HB.out.row HV1.out ho);replace HV2:=hid (HB.out.row HV2.out ho);replace HB:=hid (HB.out.fI ho);clear hr ho hv cMg y0 y1 y2 y3 y4;obtain ⟨y0,y1,y2,y3,y4⟩:=aG HB.out.n;have fr:=bG HB.out.n 3)
      have hi:=Wd.aV (g:=g+1) (Flow.Into.refl _ w14) 3 (.slice A3 nm k3);have hx:(w14.setCell ⟨g+1,3,none⟩ (.slice A3 nm k3)).heap[g+1]? =some (.cells #[(lv:Int),.slice A1 np k1,.slice A2 p1 k2,.slice A3 nm k3,()] 43 (0,0)):=(by simp [World.setCell,Array.getElem?_modify,HB.out.n]);replace HR:=hid (HB.out.rd HR.out hi);replace HB:=hid (HB.out.fill hi hx);replace HV1:=hid (dD HV1.out hi);replace HV2:=hid (dD HV2.out hi);replace HV3:=hid (dD HV3.out hi);clear hi hx y0 y1 y2 y3 y4 fr g0 g1 g2 g3 g4 g5 g6 g7 g8;generalize w14.setCell ⟨g+1,3,none⟩ (.slice A3 nm k3)=w15 at*;obtain ⟨g0,g1,g2,g3,g4,g5,g6,g7,g8⟩:=j4 HB.out.r;obtain ⟨y0,y1,y2,y3,y4⟩:=aG HB.out.n;(have f0:=bG HB.out.n 0;have f1:=bG HB.out.n 1;have f2:=bG HB.out.n 2;have f3:=bG HB.out.n 3;have f4:=bG HB.out.n 4);have hi:=fH w15 (g+1) (.int .i64 (lv:Int)) (.slice A1 np k1) (.slice A2 p1 k2) (.slice A3 nm k3) (.slice none 0 0);have hx:=eP HB.out.n (.int .i64 (lv:Int)) (.slice A1 np k1) (.slice A2 p1 k2) (.slice A3 nm k3) (.slice none 0 0);have HR9:=hid (HB.out.rd HR.out hi);have HB9:=hid (HB.out.fill hi hx);replace HV1:=hid (dD HV1.out hi);replace HV2:=hid (dD HV2.out hi);replace HV3:=hid (dD HV3.out hi);unfold sN at HR9 HB9 HV1 HV2 HV3;clear hi hx HB HR g0 g1 g2 g3 g4 g5 g6 g7 g8;go_wp2_with fail
      generalize ((((w15.setCell ⟨g+1,0,none⟩ (lv:Int)).setCell ⟨g+1,1,none⟩ (.slice A1 np k1)).setCell ⟨g+1,2,none⟩ (.slice A2 p1 k2)).setCell ⟨g+1,3,none⟩ (.slice A3 nm k3)).setCell ⟨g+1,4,none⟩ ()=w91 at*;clear y0 y1 y2 y3 y4 f0 f1 f2 f3 f4;obtain ⟨y0,y1,y2,y3,y4⟩:=aG HB9.out.n;exact bodyPost_ret (v:= .tuple #[.agg #[(lv:Int),.slice A1 np k1,.slice A2 p1 k2,.slice A3 nm k3,()],.bool true]) (by simp [results,Tryz.results101,go_sem,y0,y1,y2,y3,y4]) rfl ⟨⟨(lv:Int),Ks,P,M.map (·.2),[]⟩,⟨A1,k1,A2,k2,A3,k3,none,0⟩,true,sm,by unfold bL;simp only;rw [HLK.out,HLP.out,HLM.out];rfl,⟨HV1.out.mono (by have:=HB9.out.ge;omega),HV2.out.mono (by have:=HB9.out.ge;omega),HV3.out.mono (by have:=HB9.out.ge;omega),VK.nil _ _⟩,HR9.out,HB9.out.only,fun _=>HGD.out,fun h=>by (cases h)⟩
    . replace HBD:=hid (HBD.out hall)
      have cMb:∀w,Rd 175 w q z2->Hid (Calls Tryz.prog 143 #[.agg #[cB,cY,cF,(F:Int),cU,cL,(K:Int),cV,q],(nm:Int)] w fun e w'=>(∃s',e=.returned (.tuple #[(),.bool false])/\Rd 175 w' q s')/\Only q w w'):=fun w h=>(cM w h).mono fun e w' ⟨h1,ho⟩=>by
       rcases h1 with ⟨A,k,rfl,hv,hr,hg⟩|⟨s',he,hr,hb⟩
       . exact absurd hg hall
       . exact ⟨⟨s',he,hr⟩,ho⟩
      clear cM HGD hall HLM;go_upto_region 13 with (go_at_call 143;refine (cMb _ HR.out).out.mono ?_;rintro e w14 ⟨⟨s',rfl,hr⟩,ho⟩;replace HR:=hid hr;replace HV1:=hid (HB.out.row HV1.out ho);replace HV2:=hid (HB.out.row HV2.out ho);replace HB:=hid (HB.out.fI ho);clear hr ho cMb y0 y1 y2 y3 y4;obtain ⟨y0,y1,y2,y3,y4⟩:=aG HB.out.n;have fr:=bG HB.out.n 3)
      have hi:=Wd.aV (g:=g+1) (Flow.Into.refl _ w14) 3 (.slice none 0 0);have hx:(w14.setCell ⟨g+1,3,none⟩ ()).heap[g+1]? =some (.cells #[(lv:Int),.slice A1 np k1,.slice A2 p1 k2,(),()] 43 (0,0)):=(by simp [World.setCell,Array.getElem?_modify,HB.out.n]);replace HR:=hid (HB.out.rd HR.out hi);replace HB:=hid (HB.out.fill hi hx);replace HV1:=hid (dD HV1.out hi);replace HV2:=hid (dD HV2.out hi);clear hi hx y0 y1 y2 y3 y4 fr g0 g1 g2 g3 g4 g5 g6 g7 g8;generalize w14.setCell ⟨g+1,3,none⟩ ()=w15 at*;obtain ⟨g0,g1,g2,g3,g4,g5,g6,g7,g8⟩:=j4 HB.out.r;obtain ⟨y0,y1,y2,y3,y4⟩:=aG HB.out.n;(have f0:=bG HB.out.n 0;have f1:=bG HB.out.n 1;have f2:=bG HB.out.n 2;have f3:=bG HB.out.n 3;have f4:=bG HB.out.n 4);have hi:=fH w15 (g+1) (.int .i64 (lv:Int)) (.slice A1 np k1) (.slice A2 p1 k2) (.slice none 0 0) (.slice none 0 0);have hx:=eP HB.out.n (.int .i64 (lv:Int)) (.slice A1 np k1) (.slice A2 p1 k2) (.slice none 0 0) (.slice none 0 0);have HR9:=hid (HB.out.rd HR.out hi);have HB9:=hid (HB.out.fill hi hx);replace HV1:=hid (dD HV1.out hi);replace HV2:=hid (dD HV2.out hi);unfold sN at HR9 HB9 HV1 HV2;clear hi hx HB HR g0 g1 g2 g3 g4 g5 g6 g7 g8;go_wp2_with fail
      generalize ((((w15.setCell ⟨g+1,0,none⟩ (lv:Int)).setCell ⟨g+1,1,none⟩ (.slice A1 np k1)).setCell ⟨g+1,2,none⟩ (.slice A2 p1 k2)).setCell ⟨g+1,3,none⟩ ()).setCell ⟨g+1,4,none⟩ ()=w91 at*;clear y0 y1 y2 y3 y4 f0 f1 f2 f3 f4;obtain ⟨y0,y1,y2,y3,y4⟩:=aG HB9.out.n;exact bodyPost_ret (v:= .tuple #[.agg #[(lv:Int),.slice A1 np k1,.slice A2 p1 k2,(),()],.bool false]) (by simp [results,Tryz.results101,go_sem,y0,y1,y2,y3,y4]) rfl ⟨⟨(lv:Int),Ks,P,[],[]⟩,⟨A1,k1,A2,k2,none,0,none,0⟩,false,s',by unfold bL;simp only;rw [HLK.out,HLP.out];rfl,⟨HV1.out.mono (by have:=HB9.out.ge;omega),HV2.out.mono (by have:=HB9.out.ge;omega),VK.nil _ _,VK.nil _ _⟩,HR9.out,HB9.out.only,fun h=>by (cases h),fun _=>HBD.out⟩
end No
end Go.Proofs.YtjpjjnalpdpljaaGreatDoor
