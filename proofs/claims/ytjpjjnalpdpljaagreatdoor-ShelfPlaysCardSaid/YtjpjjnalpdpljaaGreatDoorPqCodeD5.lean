import Derived.Test.YtjpjjnalpdpljaaGreatDoorPqCodeD4
import Derived.Test.YtjpjjnalpdpljaaGreatDoorPkAE
import Derived.Test.YtjpjjnalpdpljaaGreatDoorPqCodeC2
set_option maxHeartbeats 8000000
set_option maxRecDepth 100000
namespace Go.Proofs.YtjpjjnalpdpljaaGreatDoor
open Go.RowKit
open Go.Lib (hid)
open ah.aS (cell)
namespace No
open Mem Lx Bu Lf Fa
open Wd (be val aD dY isW St bF bC bD bW Only Rd)
theorem Li {α:Type} {f:St->St × α} {s:St} {k n:Nat} (h:k<=n) {x:α} (hx:x∈(rdS f k s).2):x∈(rdS f n s).2:=by
 induction n with
 |zero=>
  obtain rfl:k=0:=by omega
  exact hx
 |succ n ih=>
  by_cases e:k=n+1
  . subst e
    exact hx
  . exact List.mem_append_left _ (ih (by omega))
section
variable {α:Type} {K:Kind α} {c:Cfg} {W w w':World} {g q cc b:Nat} {A:Option Addr} {L:List α} {s:St}
theorem Lb.fill (h:Lb K c W g q A cc L w) (ho:Flow.Into [b] w w') (hb:g<b) (hA:∀a,A=some a->a.block≠b):Lb K c W g q A cc L w':=by
 have h1:=h.lt;have h2:=h.size;have h0:=h.ge;refine ⟨(ho.block _ (by omega) ?_).trans h.box,h.vk.into ho fun a ha hm=>?_,?_,Nat.le_trans h2 ho.size,h1,h0⟩
 . simp only [List.mem_singleton]
   omega
 . simp only [List.mem_singleton] at hm
   exact hA a ha hm
 . refine ⟨ho.os.trans h.only.os,ho.tape.trans h.only.tape,ho.output.trans h.only.output,Nat.le_trans h.only.size ho.size,fun k hk hn=>(ho.block k (by omega) ?_).trans (h.only.block k hk hn)⟩
   simp only [List.mem_singleton];omega
end
theorem FL (w:World) (b:Nat) (v0 v1 v2:Value):Flow.Into [b] w (Kl w b v0 v1 v2):=by
 unfold Kl;exact Wd.aV (Wd.aV (Wd.aV (Flow.Into.refl _ _) _ _) _ _) _ _
theorem FM (c:Cfg) {W:World} {q:Nat} {s:St} (h:Rd 175 W q s) (n:Nat) (hn9:n<=100000):Calls Tryz.prog 143 #[.agg (ji c q),(n:Int)] W fun e w'=>((∃A k,e=.returned (.tuple #[.slice A n k,.bool true])/\VK MgK w' W.heap.size A k ((rdS (jU c) n s).2.map (·.2))/\Rd 175 w' q (rdS (jU c) n s).1/\∀x∈(rdS (jU c) n s).2,x.1=1\/x.1=2)\/(∃s',e=.returned (.tuple #[(),.bool false])/\Rd 175 w' q s'/\¬ ∀x∈(rdS (jU c) n s).2,x.1=1\/x.1=2))/\Only q W w':=by
 have HR0:=hid h;obtain ⟨cB,cY,cF,cN,cU,cL,cKy,cV⟩:=c
 try simp only at*
 unfold ji;clear h;go_enter Tryz.func143,Tryz.ntmps143
 go_upto_region 1 with fail
 obtain ⟨g,hg⟩:∃g,g=W.heap.size:=⟨_,rfl⟩
 have hb:Bw W (W.alloc (.cells #[cB,cY,cF,cN,cU,cL,cKy,cV,q] 148)):=bAx
 have HL0:Hid (Lb MgK (⟨cB,cY,cF,cN,cU,cL,cKy,cV⟩:Cfg) W g q none 0 [] (W.alloc (.cells #[cB,cY,cF,cN,cU,cL,cKy,cV,q] 148))):=by
  subst hg;exact ⟨heap_alloc_new W _,VK.nil _ _,Wd.Only.of_below hb,by simp,HR0.out.lt,Nat.le_refl _⟩
 replace HR0:=hid (HR0.out.keep hb);generalize W.alloc (.cells #[cB,cY,cF,cN,cU,cL,cKy,cV,q] 148)=w1 at*;simp only [<-hg];have HWG:Hid (W.heap.size<=g):=by unfold Hid;omega
 clear hb hg;go_wp2_with fail
 go_loopg [6,12] n (fun gk lv iv wr=>∃(k:Nat) (A:Option Addr) (cc:Nat),k<=n/\gk=n-k/\iv= .int .i64 (k:Int)/\lv= .slice A k cc/\Hid (Lb MgK (⟨cB,cY,cF,cN,cU,cL,cKy,cV⟩:Cfg) W g q A cc ((rdS (jU ⟨cB,cY,cF,cN,cU,cL,cKy,cV⟩) k s).2.map (·.2)) wr)/\Hid (Rd 175 wr q (rdS (jU ⟨cB,cY,cF,cN,cU,cL,cKy,cV⟩) k s).1)/\Hid (∀x∈(rdS (jU ⟨cB,cY,cF,cN,cU,cL,cKy,cV⟩) k s).2,x.1=1\/x.1=2))
 case atStart=>exact ⟨0,none,0,Nat.zero_le _,rfl,rfl,rfl,HL0,HR0,fun x hx=>absurd hx (by simp [rdS])⟩
 case round=>
  obtain ⟨k,A,cc,hk,rfl,rfl,rfl,HL,HR,HG⟩:=hrel;by_cases hlt:k<n
  . obtain ⟨sk,LL,hrk⟩:∃sk L,rdS (jU ⟨cB,cY,cF,cN,cU,cL,cKy,cV⟩) k s=(sk,L):=⟨_,_,rfl⟩
    have hlen:LL.length=k:=by
     have h9:=dZ (f:=(jU ⟨cB,cY,cF,cN,cU,cL,cKy,cV⟩)) k s;rw [hrk] at h9;exact h9
    rw [hrk] at HL HR HG;simp only at HL HR HG;obtain ⟨L,hL⟩:∃L,L=LL.map (·.2):=⟨_,rfl⟩
    have HLEN:Hid (L.length=k):=by
     unfold Hid;rw [hL,List.length_map,hlen]
    rw [<-hL] at HL;obtain ⟨s0,mk,e0⟩:∃a b,bC sk 1=(a,b):=⟨_,_,rfl⟩
    obtain ⟨s1,n1,e1⟩:∃a b,bC s0 1=(a,b):=⟨_,_,rfl⟩
    obtain ⟨s2,n2,e2⟩:∃a b,bC s1 2=(a,b):=⟨_,_,rfl⟩
    obtain ⟨s3,t3,e3⟩:∃a b,bW s2 (n1:Int) cKy=(a,b):=⟨_,_,rfl⟩
    obtain ⟨s4,t4,e4⟩:∃a b,bW s3 (n2:Int) cV=(a,b):=⟨_,_,rfl⟩
    have hP:jU ⟨cB,cY,cF,cN,cU,cL,cKy,cV⟩ sk=(s4,(mk,strOf t3,decide (mk=2),strOf t4)):=by
     unfold jU kH;simp only [e0,e1,e2,e3,e4]
    obtain ⟨del,hdel⟩:∃d,d=decide (mk=2):=⟨_,rfl⟩
    rw [<-hdel] at hP
    have hnx:rdS (jU ⟨cB,cY,cF,cN,cU,cL,cKy,cV⟩) (k+1) s=(s4,LL++[(mk,strOf t3,del,strOf t4)]):=by
     show (((jU ⟨cB,cY,cF,cN,cU,cL,cKy,cV⟩) (rdS (jU ⟨cB,cY,cF,cN,cU,cL,cKy,cV⟩) k s).1).1,(rdS (jU ⟨cB,cY,cF,cN,cU,cL,cKy,cV⟩) k s).2++[((jU ⟨cB,cY,cF,cN,cU,cL,cKy,cV⟩) (rdS (jU ⟨cB,cY,cF,cN,cU,cL,cKy,cV⟩) k s).1).2])=_;rw [hrk];simp only;rw [hP]
    have c0:∀w,Rd 175 w q sk->Hid (Calls Tryz.prog 137 #[.agg #[cB,cY,cF,cN,cU,cL,cKy,cV,q],(1:Int)] w fun e w'=>e=.returned (mk:Int)/\Rd 175 w' q s0/\Only q w w'):=fun w h=>by
     have h9:Calls Tryz.prog 137 #[.agg #[cB,cY,cF,cN,cU,cL,cKy,cV,q],(1:Int)] w fun e w'=>e=.returned ((bC sk 1).2:Int)/\Rd 175 w' q (bC sk 1).1/\Only q w w':=eD ⟨cB,cY,cF,cN,cU,cL,cKy,cV⟩ h 1 rfl (by decide);rw [e0] at h9;exact h9
    have c1:∀w,Rd 175 w q s0->Hid (Calls Tryz.prog 137 #[.agg #[cB,cY,cF,cN,cU,cL,cKy,cV,q],(1:Int)] w fun e w'=>e=.returned (n1:Int)/\Rd 175 w' q s1/\Only q w w'):=fun w h=>by
     have h9:Calls Tryz.prog 137 #[.agg #[cB,cY,cF,cN,cU,cL,cKy,cV,q],(1:Int)] w fun e w'=>e=.returned ((bC s0 1).2:Int)/\Rd 175 w' q (bC s0 1).1/\Only q w w':=eD ⟨cB,cY,cF,cN,cU,cL,cKy,cV⟩ h 1 rfl (by decide);rw [e1] at h9;exact h9
    have c2:∀w,Rd 175 w q s1->Hid (Calls Tryz.prog 137 #[.agg #[cB,cY,cF,cN,cU,cL,cKy,cV,q],(2:Int)] w fun e w'=>e=.returned (n2:Int)/\Rd 175 w' q s2/\Only q w w'):=fun w h=>by
     have h9:Calls Tryz.prog 137 #[.agg #[cB,cY,cF,cN,cU,cL,cKy,cV,q],(2:Int)] w fun e w'=>e=.returned ((bC s1 2).2:Int)/\Rd 175 w' q (bC s1 2).1/\Only q w w':=eD ⟨cB,cY,cF,cN,cU,cL,cKy,cV⟩ h 2 rfl (by decide);rw [e2] at h9;exact h9
    have c3:∀w,Rd 175 w q s2->Hid (Calls Tryz.prog 170 #[q,(n1:Int),cKy] w fun e w'=>e=.returned (.string (strOf t3))/\Rd 175 w' q s3/\Only q w w'):=fun w h=>by
     have h9:=Wd.kV q s2 (n1:Int) cKy w h;rw [e3] at h9;exact h9
    have c4:∀w,Rd 175 w q s3->Hid (Calls Tryz.prog 170 #[q,(n2:Int),cV] w fun e w'=>e=.returned (.string (strOf t4))/\Rd 175 w' q s4/\Only q w w'):=fun w h=>by
     have h9:=Wd.kV q s3 (n2:Int) cV w h;rw [e4] at h9;exact h9
    obtain ⟨key,hkey⟩:∃x,x=strOf t3:=⟨_,rfl⟩
    obtain ⟨val',hval⟩:∃x,x=strOf t4:=⟨_,rfl⟩
    rw [<-hkey] at c3 hnx;rw [<-hval] at c4 hnx
    have HNX:Hid ((rdS (jU ⟨cB,cY,cF,cN,cU,cL,cKy,cV⟩) (k+1) s).2.map (·.2)=L++[(key,del,val')]/\(rdS (jU ⟨cB,cY,cF,cN,cU,cL,cKy,cV⟩) (k+1) s).1=s4/\(rdS (jU ⟨cB,cY,cF,cN,cU,cL,cKy,cV⟩) (k+1) s).2=LL++[(mk,key,del,val')]):=by
     unfold Hid;rw [hnx,hL];simp
    have hm1:k+1<=1048576:=by omega
    have hd1:((mk:Int)==2)=del:=by
     rw [hdel];by_cases h9:mk=2
     . subst h9;rfl
     . have:((mk:Int)==2)=false:=by simp;omega
       rw [this];simp [h9]
    obtain ⟨m1,hm⟩:∃m1,m1=(pO del).toNat:=⟨_,rfl⟩
    have cM:∀w,Hid (CW 171 #[.bool del] w (.int .i64 (m1:Int))):=fun w=>by
     rw [hm];exact pQ del w
    have HMK:Hid (mk=m1↔mk=1\/mk=2):=by
     unfold Hid;rw [hm,hdel];by_cases h9:mk=2
     . subst h9;decide
     . have h8:(pO (decide (mk=2))).toNat=1:=by
        rw [decide_eq_false h9];rfl
       rw [h8];omega
    clear hkey hval hP e0 e1 e2 e3 e4 hrk hlen hnx hL hdel hm;go_upto_region 4 with fail
    obtain ⟨g0,g1,g2,g3,g4,g5,g6,g7,g8⟩:=j4 HL.out.box;have hqg:g≠q:=by have:=HL.out.lt;have:=HWG.out;omega
    have hS3:∀k,k∈[q]->k<wr.heap.size:=fun k hk=>by
     obtain rfl:k=q:=(by simpa using hk);have:=HL.out.lt;have:=HL.out.ge;have:=HL.out.size;omega
    have hgS:g∉[q]:=(by simpa using hqg);have tg0:=fun t:ah.aS [q] wr []=>cell g0 hgS t;have tg1:=fun t:ah.aS [q] wr []=>cell g1 hgS t;have tg2:=fun t:ah.aS [q] wr []=>cell g2 hgS t;have tg3:=fun t:ah.aS [q] wr []=>cell g3 hgS t;have tg4:=fun t:ah.aS [q] wr []=>cell g4 hgS t;have tg5:=fun t:ah.aS [q] wr []=>cell g5 hgS t;have tg6:=fun t:ah.aS [q] wr []=>cell g6 hgS t;have tg7:=fun t:ah.aS [q] wr []=>cell g7 hgS t;have tg8:=fun t:ah.aS [q] wr []=>cell g8 hgS t;clear g0 g1 g2 g3 g4 g5 g6 g7 g8;refine ah.aj [q] [(0,[]),(2,[]),(4,[]),(1,[]),(3,[]),(5,[])] [1,3,5] [] (by kernel_rfl) (by kernel_rfl) hS3 ?_;simp only [ah.pick,ah.aO,ah.dL];clear hS3
    repeat (refine ah.ak (fun K hK=>?_);go_simp;(refine hK _ ?_;clear hK K))
    refine ah.aN rfl ah.aF (EvI wr q mk s0) (fun W2 hk9 _=>?_) (fun v w1 hv hI _ hTd=>?_)
    . go_simp
      go_at_call 137
      refine (c0 _ (HR.out.keep hk9)).out.mono ?_;rintro e w' ⟨rfl,hr,ho⟩;exact ⟨_,rfl,⟨rfl,hr,(Wd.Only.of_below hk9).trans ho⟩,ho⟩
    obtain ⟨rfl,hr1,ho1⟩:=hv;clear hI hTd;refine ah.aN rfl ah.aF (EvI w1 q n1 s1) (fun W2 hk9 _=>?_) (fun v w2 hv hI _ hTd=>?_)
    . go_simp
      go_at_call 137
      refine (c1 _ (hr1.keep hk9)).out.mono ?_;rintro e w' ⟨rfl,hr,ho⟩;exact ⟨_,rfl,⟨rfl,hr,(Wd.Only.of_below hk9).trans ho⟩,ho⟩
    obtain ⟨rfl,hr2,ho2⟩:=hv;clear hI hTd;refine ah.aN rfl ah.aF (EvI w2 q n2 s2) (fun W2 hk9 _=>?_) (fun v w3 hv hI _ hTd=>?_)
    . go_simp
      go_at_call 137
      refine (c2 _ (hr2.keep hk9)).out.mono ?_;rintro e w' ⟨rfl,hr,ho⟩;exact ⟨_,rfl,⟨rfl,hr,(Wd.Only.of_below hk9).trans ho⟩,ho⟩
    obtain ⟨rfl,hr3,ho3⟩:=hv;clear hI hTd;refine ah.walk_nil ?_;intro w4 hb4 _;replace HL:=hid (HL.out.fI (ho1.trans (ho2.trans (ho3.trans (Wd.Only.of_below hb4)))));replace HR:=hid (hr3.keep hb4);clear hr1 hr2 hr3 ho1 ho2 ho3 hb4 hgS tg0 tg1 tg2 tg3 tg4 tg5 tg6 tg7 tg8 c0 c1 c2;simp only [lC,List.drop_zero,Nat.zero_add,Nat.reduceAdd];go_upto_region 5 with fail
    obtain ⟨-,-,-,-,-,-,g6,g7,g8⟩:=j4 HL.out.box
    have hS3:∀k,k∈[q]->k<w4.heap.size:=fun k hk=>by
     obtain rfl:k=q:=(by simpa using hk);have:=HL.out.lt;have:=HL.out.ge;have:=HL.out.size;omega
    have hgS:g∉[q]:=(by simpa using hqg);have HA4:Hid (∀a,A=some a->a.block<w4.heap.size):=fun a ha=>(HL.out.vk.at_ a ha).2;have HG4:Hid (g<w4.heap.size/\q<w4.heap.size):=⟨Nat.lt_of_lt_of_le (Nat.lt_succ_self _) HL.out.size,by have:=HL.out.lt;have:=HL.out.ge;have:=HL.out.size;omega⟩;have tg6:=fun t:ah.aS [q] w4 []=>cell g6 hgS t;have tg7:=fun t:ah.aS [q] w4 []=>cell g7 hgS t;have tg8:=fun t:ah.aS [q] w4 []=>cell g8 hgS t;clear g6 g7 g8;refine ah.aj [q] [(0,[]),(1,[]),(2,[]),(3,[]),(4,[]),(5,[]),(7,[]),(8,[]),(9,[]),(10,[]),(11,[]),(12,[]),(13,[]),(14,[]),(6,[17]),(15,[17]),(16,[]),(17,[])] [6,15] [17] (by kernel_rfl) (by kernel_rfl) hS3 ?_;simp only [ah.pick,ah.aO,ah.dL];clear hS3
    repeat (refine ah.ak (fun K hK=>?_);go_simp;(refine hK _ ?_;clear hK K))
    refine ah.aN rfl (ah.gQ rfl (fun b=> .pointer (some ⟨b,0,none⟩)) (.cells #[.string ⟨#[]⟩,.bool false,.string ⟨#[]⟩] 91) (fun W=>by go_simp) fun b hb=>ah.aF) (EvT w4 q key s3) (fun W2 hk9 _=>?_) (fun v w5 hv hI _ hTd=>?_)
    . go_simp
      go_at_call 170
      refine (c3 _ (HR.out.keep hk9)).out.mono ?_;rintro e w' ⟨rfl,hr,ho⟩;exact ⟨_,rfl,⟨rfl,hr,(Wd.Only.of_below hk9).trans ho⟩,ho⟩
    obtain ⟨rfl,hr5,ho5⟩:=hv;clear hI hTd;replace HL:=hid (HL.out.fI ho5);replace HR:=hid hr5;clear ho5 hr5;refine ah.aN rfl (ah.gQ rfl (fun b=> .pointer (some ⟨b,0,none⟩)) (.cells #[.string ⟨#[]⟩,.bool false,.string ⟨#[]⟩] 91) (fun W=>by go_simp) fun b hb=>ah.aF) (EvT w5 q val' s4) (fun W2 hk9 _=>?_) (fun v w6 hv hI _ hTd=>?_)
    . go_simp
      go_at_call 170
      refine (c4 _ (HR.out.keep hk9)).out.mono ?_;rintro e w' ⟨rfl,hr,ho⟩;exact ⟨_,rfl,⟨rfl,hr,(Wd.Only.of_below hk9).trans ho⟩,ho⟩
    obtain ⟨rfl,hr6,ho6⟩:=hv;clear hI hTd;replace HL:=hid (HL.out.fI ho6);replace HR:=hid hr6;clear ho6 hr6 c3 c4
    repeat (refine ah.ak (fun K hK=>?_);go_simp;first|(refine hK _ ?_;clear hK K)|(refine ⟨_,fun _=>rfl,hK _ ?_⟩;clear hK K))
    refine ah.dF rfl ah.aF (fun b=> .pointer (some ⟨b,0,none⟩)) (.cells #[.string ⟨#[]⟩,.bool false,.string ⟨#[]⟩] 91) (fun W=>by go_simp) (fun mb hmb hT1=>?_);refine ah.walk_nil ?_;intro w7 hb7 hl7;have hx7:=hl7 (mb,.cells #[.string ⟨#[]⟩,.bool false,.string ⟨#[]⟩] 91) (by simp);replace HL:=hid (HL.out.kept hb7);replace HR:=hid (HR.out.keep hb7);clear hb7 hl7 hT1 hgS tg6 tg7 tg8;have hi8:=FL w7 mb (.string key) (.bool del) (.string val');have hx8:=Km hx7 (.string key) (.bool del) (.string val');have HL8:Hid (Lb MgK (⟨cB,cY,cF,cN,cU,cL,cKy,cV⟩:Cfg) W g q A cc L (Kl w7 mb (.string key) (.bool del) (.string val'))):=HL.out.fill hi8 (Nat.lt_of_lt_of_le HG4.out.1 hmb) (fun a ha=>by have:=HA4.out a ha;omega);have HR8:Hid (Rd 175 (Kl w7 mb (.string key) (.bool del) (.string val')) q s4):=oN HR.out hi8 (by have:=HG4.out.2;omega) hx7 (by decide);have HX8:=hid hx8;obtain ⟨y0,y1,y2⟩:=bR hx7;have fr:=au hx7;unfold Kl at HL8 HR8 HX8;clear HL HR HA4 HG4 hi8 hx8 hx7;simp only [lC,List.drop_zero,Nat.zero_add,Nat.reduceAdd];go_upto_region 6 with fail
    clear y0 y1 y2 fr;generalize ((w7.setCell ⟨mb,0,none⟩ (.string key)).setCell ⟨mb,1,none⟩ (.bool del)).setCell ⟨mb,2,none⟩ (.string val')=w8 at*;obtain ⟨y0,y1,y2⟩:=bR HX8.out;by_cases hgood:mk=m1
    . have hne:((mk:Int) != (m1:Int))=false:=by simp [hgood]
      have HGN:Hid (∀x∈(rdS (jU ⟨cB,cY,cF,cN,cU,cL,cKy,cV⟩) (k+1) s).2,x.1=1\/x.1=2):=fun x hx=>by
       rw [HNX.out.2.2] at hx;rcases List.mem_append.1 hx with hx|hx
       . exact HG.out x hx
       . obtain rfl:=List.mem_singleton.1 hx
         exact HMK.out.1 hgood
      clear hgood;go_upto_region 8 with (go_at_call 171;refine (cM _).out.mono ?_;rintro e w' ⟨rfl,rfl⟩)
      have hcl:=heap_alloc_new w8 (.cells #[.string key,.bool del,.string val'] 91);have hbl:Bw w8 (w8.alloc (.cells #[.string key,.bool del,.string val'] 91)):=bAx;have HCL:=hid hcl;have HL2:=hid (HL8.out.kept hbl);have HR2:=hid (HR8.out.keep hbl);clear hcl hbl cM;go_upto_region 9 with (at_builtin;refine jZ (K:=MgK) Tryz.underlying40 Nh rfl (by decide) (by decide) rfl (.tmp 42) (.tmp 44) rfl (g+1) A k cc L rfl HLEN.out HL2.out.vk w8.heap.size 1 (key,del,val') rfl HCL.out hm1 HL2.out.size ?_;intro A5 c5 w9 hd;have HRN:=hid (zD HR2.out HL2.out (BI.of hd.out) (by decide));have HLN:=hid (HL2.out.app (BI.of hd.out));clear hd HCL HL2 HR2)
      clear y0 y1 y2 HL8 HR8 HX8;go_wp2_with fail
      go_roundg (n-(k+1))
      case measure=>omega
      case rel=>exact ⟨k+1,A5,c5,hlt,rfl,by go_num,rfl,by rw [HNX.out.1];exact HLN,by rw [HNX.out.2.1];exact HRN,HGN⟩
    . have hne:((mk:Int) != (m1:Int))=true:=by
       simp only [bne_iff_ne,ne_eq];omega
      have HBAD:Hid (¬ ∀x∈(rdS (jU ⟨cB,cY,cF,cN,cU,cL,cKy,cV⟩) n s).2,x.1=1\/x.1=2):=fun h9=>by
       have h8:(mk,key,del,val')∈(rdS (jU ⟨cB,cY,cF,cN,cU,cL,cKy,cV⟩) (k+1) s).2:=by
        rw [HNX.out.2.2];exact List.mem_append_right _ (List.mem_singleton.2 rfl)
       exact hgood (HMK.out.2 (h9 _ (Li hlt h8)))
      have HO:=hid HL8.out.only;clear hgood HNX HMK HG HL8;go_wp2_with (go_at_call 171;refine (cM _).out.mono ?_;rintro e w' ⟨rfl,rfl⟩)
      exact bodyPost_ret (v:= .tuple #[(),.bool false]) (by simp [results,Tryz.results143,go_sem]) rfl ⟨.inr ⟨s4,rfl,HR8.out,HBAD.out⟩,HO.out⟩
  . obtain rfl:n=k:=by omega
    have HF:=hid (HL.out.vk.mono (Nat.le_trans HWG.out (Nat.le_succ g)));have HO:=hid HL.out.only;clear HL;go_wp2_with fail
    exact bodyPost_ret (v:= .tuple #[.slice A n cc,.bool true]) (by simp [results,Tryz.results143,go_sem]) rfl ⟨.inl ⟨A,cc,rfl,HF.out,HR.out,HG.out⟩,HO.out⟩
end No
end Go.Proofs.YtjpjjnalpdpljaaGreatDoor
