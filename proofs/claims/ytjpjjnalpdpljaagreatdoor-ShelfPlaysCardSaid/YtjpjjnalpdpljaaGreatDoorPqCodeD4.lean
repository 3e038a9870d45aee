import Derived.Test.YtjpjjnalpdpljaaGreatDoorPkAX
import Derived.Test.YtjpjjnalpdpljaaGreatDoorPkBB
set_option maxHeartbeats 8000000
set_option maxRecDepth 100000
namespace Go.Proofs.YtjpjjnalpdpljaaGreatDoor
open Go.RowKit
open Go.Lib (hid)
open ah (dL)
open ah.aS (cell)
open IntKind (wrap_i64)
open List (drop_zero mem_cons)
namespace No
open Mem Lx Bu Lf Fa
open Wd (be val aD dY isW St bF bC bD bW Only Rd)
theorem Bz (c:Cfg) {W:World} {q:Nat} {s:St} (h:Rd 175 W q s) (n:Nat) (hn9:n<=100000):Calls Tryz.prog 140 #[.agg (ji c q),(n:Int)] W fun e w'=>∃A k,e=.returned (.slice A n k)/\VK PrK w' W.heap.size A k (rdS (kH c) n s).2/\Rd 175 w' q (rdS (kH c) n s).1/\Only q W w':=by
 have HR0:=hid h;obtain ⟨cB,cY,cF,cN,cU,cL,cKy,cV⟩:=c
 try simp only at*
 unfold ji;clear h;go_enter Tryz.func140,Tryz.ntmps140
 go_upto_region 1 with fail
 obtain ⟨g,hg⟩:∃g,g=W.heap.size:=⟨_,rfl⟩
 have hb:Bw W (W.alloc (.cells #[cB,cY,cF,cN,cU,cL,cKy,cV,q] 148)):=bAx
 have HL0:Hid (Lb PrK (⟨cB,cY,cF,cN,cU,cL,cKy,cV⟩:Cfg) W g q none 0 [] (W.alloc (.cells #[cB,cY,cF,cN,cU,cL,cKy,cV,q] 148))):=by
  subst hg;exact ⟨heap_alloc_new W _,VK.nil _ _,Wd.Only.of_below hb,by simp,HR0.out.lt,Nat.le_refl _⟩
 replace HR0:=hid (HR0.out.keep hb);generalize W.alloc (.cells #[cB,cY,cF,cN,cU,cL,cKy,cV,q] 148)=w1 at*;simp only [<-hg];have HWG:Hid (W.heap.size<=g):=by unfold Hid;omega
 clear hb hg;go_wp2_with fail
 go_loopg [5,9] n (fun gk lv iv wr=>∃(k:Nat) (A:Option Addr) (cc:Nat),k<=n/\gk=n-k/\iv= .int .i64 (k:Int)/\lv= .slice A k cc/\Hid (Lb PrK (⟨cB,cY,cF,cN,cU,cL,cKy,cV⟩:Cfg) W g q A cc (rdS (kH ⟨cB,cY,cF,cN,cU,cL,cKy,cV⟩) k s).2 wr)/\Hid (Rd 175 wr q (rdS (kH ⟨cB,cY,cF,cN,cU,cL,cKy,cV⟩) k s).1))
 case atStart=>exact ⟨0,none,0,Nat.zero_le _,rfl,rfl,rfl,HL0,HR0⟩
 case round=>
  obtain ⟨k,A,cc,hk,rfl,rfl,rfl,HL,HR⟩:=hrel;by_cases hlt:k<n
  . obtain ⟨sk,L,hrk⟩:∃sk L,rdS (kH ⟨cB,cY,cF,cN,cU,cL,cKy,cV⟩) k s=(sk,L):=⟨_,_,rfl⟩
    have hlen:L.length=k:=by
     have h9:=dZ (f:=(kH ⟨cB,cY,cF,cN,cU,cL,cKy,cV⟩)) k s;rw [hrk] at h9;exact h9
    have HLEN:=hid hlen;rw [hrk] at HL HR;simp only at HL HR;obtain ⟨s1,n1,e1⟩:∃a b,bC sk 1=(a,b):=⟨_,_,rfl⟩
    obtain ⟨s2,n2,e2⟩:∃a b,bC s1 2=(a,b):=⟨_,_,rfl⟩
    obtain ⟨s3,t3,e3⟩:∃a b,bW s2 (n1:Int) cKy=(a,b):=⟨_,_,rfl⟩
    obtain ⟨s4,t4,e4⟩:∃a b,bW s3 (n2:Int) cV=(a,b):=⟨_,_,rfl⟩
    have hP:kH ⟨cB,cY,cF,cN,cU,cL,cKy,cV⟩ sk=(s4,strOf t3,strOf t4):=by
     unfold kH;simp only [e1,e2,e3,e4]
    have HNX:Hid (rdS (kH ⟨cB,cY,cF,cN,cU,cL,cKy,cV⟩) (k+1) s=(s4,L++[(strOf t3,strOf t4)])):=by
     unfold Hid;show (((kH ⟨cB,cY,cF,cN,cU,cL,cKy,cV⟩) (rdS (kH ⟨cB,cY,cF,cN,cU,cL,cKy,cV⟩) k s).1).1,(rdS (kH ⟨cB,cY,cF,cN,cU,cL,cKy,cV⟩) k s).2++[((kH ⟨cB,cY,cF,cN,cU,cL,cKy,cV⟩) (rdS (kH ⟨cB,cY,cF,cN,cU,cL,cKy,cV⟩) k s).1).2])=_;rw [hrk];simp only;rw [hP]
    have c1:∀w,Rd 175 w q sk->Hid (Calls Tryz.prog 137 #[.agg #[cB,cY,cF,cN,cU,cL,cKy,cV,q],(1:Int)] w fun e w'=>e=.returned (n1:Int)/\Rd 175 w' q s1/\Only q w w'):=fun w h=>by
     have h9:Calls Tryz.prog 137 #[.agg #[cB,cY,cF,cN,cU,cL,cKy,cV,q],(1:Int)] w fun e w'=>e=.returned ((bC sk 1).2:Int)/\Rd 175 w' q (bC sk 1).1/\Only q w w':=eD ⟨cB,cY,cF,cN,cU,cL,cKy,cV⟩ h 1 rfl (by decide);rw [e1] at h9;exact h9
    have c2:∀w,Rd 175 w q s1->Hid (Calls Tryz.prog 137 #[.agg #[cB,cY,cF,cN,cU,cL,cKy,cV,q],(2:Int)] w fun e w'=>e=.returned (n2:Int)/\Rd 175 w' q s2/\Only q w w'):=fun w h=>by
     have h9:Calls Tryz.prog 137 #[.agg #[cB,cY,cF,cN,cU,cL,cKy,cV,q],(2:Int)] w fun e w'=>e=.returned ((bC s1 2).2:Int)/\Rd 175 w' q (bC s1 2).1/\Only q w w':=eD ⟨cB,cY,cF,cN,cU,cL,cKy,cV⟩ h 2 rfl (by decide);rw [e2] at h9;exact h9
    have c3:∀w,Rd 175 w q s2->Hid (Calls Tryz.prog 170 #[q,(n1:Int),cKy] w fun e w'=>e=.returned (.string (strOf t3))/\Rd 175 w' q s3/\Only q w w'):=fun w h=>by
     have h9:=Wd.kV q s2 (n1:Int) cKy w h;rw [e3] at h9;exact h9
    have c4:∀w,Rd 175 w q s3->Hid (Calls Tryz.prog 170 #[q,(n2:Int),cV] w fun e w'=>e=.returned (.string (strOf t4))/\Rd 175 w' q s4/\Only q w w'):=fun w h=>by
     have h9:=Wd.kV q s3 (n2:Int) cV w h;rw [e4] at h9;exact h9
    obtain ⟨key,hkey⟩:∃x,x=strOf t3:=⟨_,rfl⟩
    obtain ⟨val',hval⟩:∃x,x=strOf t4:=⟨_,rfl⟩
    rw [<-hkey] at c3 HNX;rw [<-hval] at c4 HNX;have hm1:k+1<=1048576:=(by omega);clear hkey hval hP e1 e2 e3 e4 hrk hlen;go_upto_region 4 with fail
    obtain ⟨g0,g1,g2,g3,g4,g5,g6,g7,g8⟩:=j4 HL.out.box;have hqg:g≠q:=by have:=HL.out.lt;have:=HWG.out;omega
    have hS3:∀k,k∈[q]->k<wr.heap.size:=fun k hk=>by
     obtain rfl:k=q:=(by simpa using hk);have:=HL.out.lt;have:=HL.out.ge;have:=HL.out.size;omega
    have hgS:g∉[q]:=(by simpa using hqg);have tg0:=fun t:ah.aS [q] wr []=>cell g0 hgS t;have tg1:=fun t:ah.aS [q] wr []=>cell g1 hgS t;have tg2:=fun t:ah.aS [q] wr []=>cell g2 hgS t;have tg3:=fun t:ah.aS [q] wr []=>cell g3 hgS t;have tg4:=fun t:ah.aS [q] wr []=>cell g4 hgS t;have tg5:=fun t:ah.aS [q] wr []=>cell g5 hgS t;have tg6:=fun t:ah.aS [q] wr []=>cell g6 hgS t;have tg7:=fun t:ah.aS [q] wr []=>cell g7 hgS t;have tg8:=fun t:ah.aS [q] wr []=>cell g8 hgS t;clear g0 g1 g2 g3 g4 g5 g6 g7 g8;refine ah.aj [q] [(0,[]),(2,[]),(1,[]),(3,[])] [1,3] [] (by kernel_rfl) (by kernel_rfl) hS3 ?_;simp only [ah.pick,ah.aO,dL];clear hS3
    repeat (refine ah.ak (fun K hK=>?_);go_simp;(refine hK _ ?_;clear hK K))
    refine ah.aN rfl ah.aF (EvI wr q n1 s1) (fun W2 hk9 _=>?_) (fun v w2 hv hI _ hTd=>?_)
    . go_simp
      go_at_call 137
      refine (c1 _ (HR.out.keep hk9)).out.mono ?_;rintro e w' ⟨rfl,hr,ho⟩;exact ⟨_,rfl,⟨rfl,hr,(Wd.Only.of_below hk9).trans ho⟩,ho⟩
    obtain ⟨rfl,hr2,ho2⟩:=hv;clear hI hTd;refine ah.aN rfl ah.aF (EvI w2 q n2 s2) (fun W2 hk9 _=>?_) (fun v w3 hv hI _ hTd=>?_)
    . go_simp
      go_at_call 137
      refine (c2 _ (hr2.keep hk9)).out.mono ?_;rintro e w' ⟨rfl,hr,ho⟩;exact ⟨_,rfl,⟨rfl,hr,(Wd.Only.of_below hk9).trans ho⟩,ho⟩
    obtain ⟨rfl,hr3,ho3⟩:=hv;clear hI hTd;refine ah.walk_nil ?_;intro w4 hb4 _;replace HL:=hid (HL.out.fI (ho2.trans (ho3.trans (Wd.Only.of_below hb4))));replace HR:=hid (hr3.keep hb4);clear hr2 hr3 ho2 ho3 hb4 hgS tg0 tg1 tg2 tg3 tg4 tg5 tg6 tg7 tg8 c1 c2;simp only [lC,drop_zero,Nat.zero_add,Nat.reduceAdd];go_upto_region 5 with fail
    obtain ⟨-,-,-,-,-,-,g6,g7,g8⟩:=j4 HL.out.box;obtain ⟨SS,hS1,hS2⟩:=VK.blocks HL.out.vk
    have hS3:∀k,k∈q::SS->k<w4.heap.size:=fun k hk=>by
     rcases mem_cons.1 hk with rfl|hk
     . have:=HL.out.lt;have:=HL.out.ge;have:=HL.out.size;omega
     . exact (hS2 k hk).2
    have hgS:g∉q::SS:=fun hm=>by
     rcases mem_cons.1 hm with hm|hm
     . exact hqg hm
     . have:=(hS2 g hm).1;omega
    have HS1:Hid (∀a,A=some a->a.block∈q::SS):=fun a ha=>List.mem_cons_of_mem _ (hS1 a ha);have tg6:=fun t:ah.aS (q::SS) w4 []=>cell g6 hgS t;have tg7:=fun t:ah.aS (q::SS) w4 []=>cell g7 hgS t;have tg8:=fun t:ah.aS (q::SS) w4 []=>cell g8 hgS t;clear g6 g7 g8 hS1 hS2;refine ah.aj (q::SS) [(0,[]),(1,[]),(2,[]),(3,[]),(4,[]),(5,[]),(6,[]),(8,[]),(9,[]),(10,[]),(11,[]),(12,[]),(13,[]),(7,[]),(14,[]),(15,[]),(16,[]),(17,[])] [7,14,17] [16] (by kernel_rfl) (by kernel_rfl) hS3 ?_;simp only [ah.pick,ah.aO,dL];clear hS3
    repeat (refine ah.ak (fun K hK=>?_);go_simp;(refine hK _ ?_;clear hK K))
    refine ah.aN rfl ah.aF (EvT w4 q key s3) (fun W2 hk9 _=>?_) (fun v w5 hv hI _ hTd=>?_)
    . go_simp
      go_at_call 170
      refine (c3 _ (HR.out.keep hk9)).out.mono ?_;rintro e w' ⟨rfl,hr,ho⟩;exact ⟨_,rfl,⟨rfl,hr,(Wd.Only.of_below hk9).trans ho⟩,ho.mono (by simp)⟩
    obtain ⟨rfl,hr5,ho5⟩:=hv;clear hI hTd;replace HL:=hid (HL.out.fI ho5);replace HR:=hid hr5;clear ho5 hr5;refine ah.aN rfl ah.aF (EvT w5 q val' s4) (fun W2 hk9 _=>?_) (fun v w6 hv hI _ hTd=>?_)
    . go_simp
      go_at_call 170
      refine (c4 _ (HR.out.keep hk9)).out.mono ?_;rintro e w' ⟨rfl,hr,ho⟩;exact ⟨_,rfl,⟨rfl,hr,(Wd.Only.of_below hk9).trans ho⟩,ho.mono (by simp)⟩
    obtain ⟨rfl,hr6,ho6⟩:=hv;clear hI hTd;replace HL:=hid (HL.out.fI ho6);replace HR:=hid hr6;clear ho6 hr6 c3 c4
    repeat (refine ah.ak (fun K hK=>?_);go_simp;first|(refine hK _ ?_;clear hK K)|(refine ⟨_,fun _=>rfl,hK _ ?_⟩;clear hK K))
    refine ah.dF rfl ah.aF (fun b=> .slice (some ⟨b,0,none⟩) 1 1) (.cells #[.string key,.string val'] 93) (fun W=>by go_simp) (fun b1 hb1 hT1=>?_);refine ah.aN rfl ah.aF (Ko PrK (g+1) w6 A (k+1) (L++[(key,val')])) (fun W2 hk9 hl2=>?_) (fun v w9 hv hI _ hTd=>?_)
    . exact uW (K:=PrK) Tryz.underlying41 Nj rfl (by decide) (by decide) (.tmp 15) (.tmp 31) rfl (g+1) A k cc L rfl HLEN.out HL.out.vk hk9 b1 1 ((key,val')) rfl (hl2 (b1,.cells #[.string key,.string val'] 93) (by simp)) hm1 HL.out.size HS1.out
    obtain ⟨A5,c5,rfl,hd5⟩:=hv;have HRN:=hid (zD HR.out HL.out hd5 (by decide));have HLN:=hid (HL.out.app hd5);clear hI hd5 hTd hT1;refine ah.walk_nil ?_;intro w10 hb6 _;replace HRN:=hid (HRN.out.keep hb6);replace HLN:=hid (HLN.out.kept hb6);clear hb6 HL HR HS1;clear hgS tg6 tg7 tg8;simp only [lC,drop_zero,Nat.zero_add,Nat.reduceAdd];go_wp2_with fail
    go_roundg (n-(k+1))
    case measure=>omega
    case rel=>exact ⟨k+1,A5,c5,hlt,rfl,by go_num,rfl,by rw [HNX.out];exact HLN,by rw [HNX.out];exact HRN⟩
  . obtain rfl:n=k:=by omega
    have HF:=hid (HL.out.vk.mono (Nat.le_trans HWG.out (Nat.le_succ g)));have HO:=hid HL.out.only;clear HL;go_wp2_with fail
    go_ret
    exact ⟨A,cc,rfl,HF.out,HR.out,HO.out⟩
theorem FK (c:Cfg) {W:World} {q:Nat} {s:St} (h:Rd 175 W q s) (n:Nat) {F:Nat} (hF:c.fan=F) (hF9:F<=64) (hn9:n<=F):Calls Tryz.prog 141 #[.agg (ji c q),(n:Int)] W fun e w'=>∃A k,e=.returned (.slice A n k)/\VK KdK w' W.heap.size A k (rdS rdK n s).2/\Rd 175 w' q (bD (rdS rdK n s).1 (4*(c.fan-n)))/\Only q W w':=by
 have HR0:=hid h;obtain ⟨cB,cY,cF,cN,cU,cL,cKy,cV⟩:=c
 try simp only at*
 subst hF;unfold ji;clear h;go_enter Tryz.func141,Tryz.ntmps141
 go_upto_region 1 with fail
 obtain ⟨g,hg⟩:∃g,g=W.heap.size:=⟨_,rfl⟩
 have hb:Bw W (W.alloc (.cells #[cB,cY,cF,(F:Int),cU,cL,cKy,cV,q] 148)):=bAx
 have HL0:Hid (Lb KdK (⟨cB,cY,cF,(F:Int),cU,cL,cKy,cV⟩:Cfg) W g q none 0 [] (W.alloc (.cells #[cB,cY,cF,(F:Int),cU,cL,cKy,cV,q] 148))):=by
  subst hg;exact ⟨heap_alloc_new W _,VK.nil _ _,Wd.Only.of_below hb,by simp,HR0.out.lt,Nat.le_refl _⟩
 replace HR0:=hid (HR0.out.keep hb);generalize W.alloc (.cells #[cB,cY,cF,(F:Int),cU,cL,cKy,cV,q] 148)=w1 at*;simp only [<-hg];have HWG:Hid (W.heap.size<=g):=by unfold Hid;omega
 clear hb hg;go_wp2_with fail
 go_loopg [5,7] n (fun gk lv iv wr=>∃(k:Nat) (A:Option Addr) (cc:Nat),k<=n/\gk=n-k/\iv= .int .i64 (k:Int)/\lv= .slice A k cc/\Hid (Lb KdK (⟨cB,cY,cF,(F:Int),cU,cL,cKy,cV⟩:Cfg) W g q A cc (rdS rdK k s).2 wr)/\Hid (Rd 175 wr q (rdS rdK k s).1))
 case atStart=>exact ⟨0,none,0,Nat.zero_le _,rfl,rfl,rfl,HL0,HR0⟩
 case round=>
  obtain ⟨k,A,cc,hk,rfl,rfl,rfl,HL,HR⟩:=hrel;by_cases hlt:k<n
  . obtain ⟨sk,L,hrk⟩:∃sk L,rdS rdK k s=(sk,L):=⟨_,_,rfl⟩
    have hlen:L.length=k:=by
     have h9:=dZ (f:=rdK) k s;rw [hrk] at h9;exact h9
    have HLEN:=hid hlen;rw [hrk] at HL HR;simp only at HL HR;obtain ⟨s1,n1,e1⟩:∃a b,bC sk 4=(a,b):=⟨_,_,rfl⟩
    have hP:rdK sk=(s1,n1):=e1
    have RO:n1<4294967296:=by
     have h9:=uH sk (w:=4) rfl (by decide);have h8:(bC sk 4).2=n1:=(by rw [e1]);have h7:(bC sk ((4:Nat):Int)).2=n1:=h8;omega
    have HNX:Hid (rdS rdK (k+1) s=(s1,L++[n1])):=by
     unfold Hid;show ((rdK (rdS rdK k s).1).1,(rdS rdK k s).2++[(rdK (rdS rdK k s).1).2])=_;rw [hrk];simp only;rw [hP]
    have c1:∀w,Rd 175 w q sk->Hid (Calls Tryz.prog 169 #[q,(4:Int)] w fun e w'=>e=.returned (.int .u64 (n1:Int))/\Rd 175 w' q s1/\Only q w w'):=fun w h=>by
     have h9:Calls Tryz.prog 169 #[q,(4:Int)] w fun e w'=>e=.returned (.int .u64 ((bC sk 4).2:Int))/\Rd 175 w' q (bC sk 4).1/\Only q w w':=Wd.CK q sk 4 w h;rw [e1] at h9;exact h9
    have hu:IntKind.u32.wrap (n1:Int)=(n1:Int):=(by rw [IntKind.wrap_u32];omega);have hm1:k+1<=1048576:=(by omega);obtain ⟨-,-,-,-,-,-,-,-,g8⟩:=j4 HL.out.box;clear hP e1 hrk hlen RO
    go_upto_region 5 with (first
     |(go_at_call 169;refine (c1 _ HR.out).out.mono ?_;rintro e w2 ⟨rfl,hr,ho⟩;have hcl:=heap_alloc_new w2 (.cells #[.int .u32 (n1:Int)] 25);have hbl:Bw w2 (w2.alloc (.cells #[.int .u32 (n1:Int)] 25)):=bAx;have HCL:=hid hcl;have HL2:=hid ((HL.out.fI ho).kept hbl);have HR2:=hid (hr.keep hbl);clear hcl hbl hr ho c1)
     |(at_builtin;refine jZ (K:=KdK) Tryz.underlying38 Nv rfl (by decide) (by decide) rfl (.tmp 9) (.tmp 14) rfl (g+1) A k cc L rfl HLEN.out HL2.out.vk w2.heap.size 1 n1 rfl HCL.out hm1 HL2.out.size ?_;intro A5 c5 w3 hd;have HRN:=hid (zD HR2.out HL2.out (BI.of hd.out) (by decide));have HLN:=hid (HL2.out.app (BI.of hd.out));clear hd HCL HL2 HR2))
    clear g8 HL HR;go_wp2_with fail
    go_roundg (n-(k+1))
    case measure=>omega
    case rel=>exact ⟨k+1,A5,c5,hlt,rfl,by go_num,rfl,by rw [HNX.out];exact HLN,by rw [HNX.out];exact HRN⟩
  . obtain rfl:n=k:=by omega
    obtain ⟨d,hd⟩:∃d,d=F-n:=⟨_,rfl⟩
    obtain ⟨d4,hd4⟩:∃d4,d4=4*d:=⟨_,rfl⟩
    have hz:(4*((F:Int)-(n:Int)))=(d4:Int):=(by omega);have hw1:IntKind.i64.wrap ((F:Int)-(n:Int))=(d:Int):=(by rw [wrap_i64];omega);have hw2:IntKind.i64.wrap (4*(d:Int))=(d4:Int):=by rw [wrap_i64];omega
    have cZ:Hid (Calls Tryz.prog 102 #[q,(d4:Int)] wr fun e w'=>e=.returned (.tuple #[])/\Rd 175 w' q (bD (rdS rdK n s).1 (4*((F:Int)-(n:Int))))/\Only q wr w'):=by
     rw [hz];exact Wd.kU q _ (d4:Int) wr HR.out
    obtain ⟨-,-,-,g3,-,-,-,-,g8⟩:=j4 HL.out.box;clear hF9 hn9 hd hd4 hz HR;go_upto_region 7 with (go_at_call 102;refine cZ.out.mono ?_;rintro e w2 ⟨rfl,hr,ho⟩;have HR:=hid hr;replace HL:=hid (HL.out.fI ho);clear hr ho cZ g3 g8)
    have HF:=hid (HL.out.vk.mono (Nat.le_trans HWG.out (Nat.le_succ g)));have HO:=hid HL.out.only;clear HL;go_wp2_with fail
    go_ret
    exact ⟨A,cc,rfl,HF.out,HR.out,HO.out⟩
theorem yh (c:Cfg) {W:World} {q:Nat} {s:St} (h:Rd 175 W q s) (n:Nat) {F K:Nat} (hF:c.fan=F) (hK:c.key=K) (hF9:F<=64) (hK9:K<=64) (hn9:n+1<=F):Calls Tryz.prog 142 #[.agg (ji c q),(n:Int)] W fun e w'=>∃A k,e=.returned (.slice A n k)/\VK StK w' W.heap.size A k (rdS (nI c) n s).2/\Rd 175 w' q (bD (rdS (nI c) n s).1 ((1+c.key)*(c.fan-1-n)))/\Only q W w':=by
 have HR0:=hid h;obtain ⟨cB,cY,cF,cN,cU,cL,cKy,cV⟩:=c
 try simp only at*
 subst hF;subst hK;unfold ji;clear h;go_enter Tryz.func142,Tryz.ntmps142
 go_upto_region 1 with fail
 obtain ⟨g,hg⟩:∃g,g=W.heap.size:=⟨_,rfl⟩
 have hb:Bw W (W.alloc (.cells #[cB,cY,cF,(F:Int),cU,cL,(K:Int),cV,q] 148)):=bAx
 have HL0:Hid (Lb StK (⟨cB,cY,cF,(F:Int),cU,cL,(K:Int),cV⟩:Cfg) W g q none 0 [] (W.alloc (.cells #[cB,cY,cF,(F:Int),cU,cL,(K:Int),cV,q] 148))):=by
  subst hg;exact ⟨heap_alloc_new W _,VK.nil _ _,Wd.Only.of_below hb,by simp,HR0.out.lt,Nat.le_refl _⟩
 replace HR0:=hid (HR0.out.keep hb);generalize W.alloc (.cells #[cB,cY,cF,(F:Int),cU,cL,(K:Int),cV,q] 148)=w1 at*;simp only [<-hg];have HWG:Hid (W.heap.size<=g):=by unfold Hid;omega
 clear hb hg;go_wp2_with fail
 go_loopg [5,7] n (fun gk lv iv wr=>∃(k:Nat) (A:Option Addr) (cc:Nat),k<=n/\gk=n-k/\iv= .int .i64 (k:Int)/\lv= .slice A k cc/\Hid (Lb StK (⟨cB,cY,cF,(F:Int),cU,cL,(K:Int),cV⟩:Cfg) W g q A cc (rdS (nI ⟨cB,cY,cF,(F:Int),cU,cL,(K:Int),cV⟩) k s).2 wr)/\Hid (Rd 175 wr q (rdS (nI ⟨cB,cY,cF,(F:Int),cU,cL,(K:Int),cV⟩) k s).1))
 case atStart=>exact ⟨0,none,0,Nat.zero_le _,rfl,rfl,rfl,HL0,HR0⟩
 case round=>
  obtain ⟨k,A,cc,hk,rfl,rfl,rfl,HL,HR⟩:=hrel;by_cases hlt:k<n
  . obtain ⟨sk,L,hrk⟩:∃sk L,rdS (nI ⟨cB,cY,cF,(F:Int),cU,cL,(K:Int),cV⟩) k s=(sk,L):=⟨_,_,rfl⟩
    have hlen:L.length=k:=by
     have h9:=dZ (f:=(nI ⟨cB,cY,cF,(F:Int),cU,cL,(K:Int),cV⟩)) k s;rw [hrk] at h9;exact h9
    have HLEN:=hid hlen;rw [hrk] at HL HR;simp only at HL HR;obtain ⟨s1,n1,e1⟩:∃a b,bC sk 1=(a,b):=⟨_,_,rfl⟩
    obtain ⟨s2,t2,e2⟩:∃a b,bW s1 (n1:Int) (K:Int)=(a,b):=⟨_,_,rfl⟩
    have hP:nI ⟨cB,cY,cF,(F:Int),cU,cL,(K:Int),cV⟩ sk=(s2,strOf t2):=by
     unfold nI;simp only [e1,e2]
    have HNX:Hid (rdS (nI ⟨cB,cY,cF,(F:Int),cU,cL,(K:Int),cV⟩) (k+1) s=(s2,L++[strOf t2])):=by
     unfold Hid;show (((nI ⟨cB,cY,cF,(F:Int),cU,cL,(K:Int),cV⟩) (rdS (nI ⟨cB,cY,cF,(F:Int),cU,cL,(K:Int),cV⟩) k s).1).1,(rdS (nI ⟨cB,cY,cF,(F:Int),cU,cL,(K:Int),cV⟩) k s).2++[((nI ⟨cB,cY,cF,(F:Int),cU,cL,(K:Int),cV⟩) (rdS (nI ⟨cB,cY,cF,(F:Int),cU,cL,(K:Int),cV⟩) k s).1).2])=_;rw [hrk];simp only;rw [hP]
    have c1:∀w,Rd 175 w q sk->Hid (Calls Tryz.prog 137 #[.agg #[cB,cY,cF,(F:Int),cU,cL,(K:Int),cV,q],(1:Int)] w fun e w'=>e=.returned (n1:Int)/\Rd 175 w' q s1/\Only q w w'):=fun w h=>by
     have h9:Calls Tryz.prog 137 #[.agg #[cB,cY,cF,(F:Int),cU,cL,(K:Int),cV,q],(1:Int)] w fun e w'=>e=.returned ((bC sk 1).2:Int)/\Rd 175 w' q (bC sk 1).1/\Only q w w':=eD ⟨cB,cY,cF,(F:Int),cU,cL,(K:Int),cV⟩ h 1 rfl (by decide);rw [e1] at h9;exact h9
    have c2:∀w,Rd 175 w q s1->Hid (Calls Tryz.prog 170 #[q,(n1:Int),(K:Int)] w fun e w'=>e=.returned (.string (strOf t2))/\Rd 175 w' q s2/\Only q w w'):=fun w h=>by
     have h9:=Wd.kV q s1 (n1:Int) (K:Int) w h;rw [e2] at h9;exact h9
    obtain ⟨key,hkey⟩:∃x,x=strOf t2:=⟨_,rfl⟩
    rw [<-hkey] at c2 HNX;have hm1:k+1<=1048576:=(by omega);clear hkey hP e1 e2 hrk hlen;go_upto_region 4 with fail
    obtain ⟨g0,g1,g2,g3,g4,g5,g6,g7,g8⟩:=j4 HL.out.box;have hqg:g≠q:=(by have:=HL.out.lt;have:=HWG.out;omega);obtain ⟨SS,hS1,hS2⟩:=VK.blocks HL.out.vk
    have hS3:∀k,k∈q::SS->k<wr.heap.size:=fun k hk=>by
     rcases mem_cons.1 hk with rfl|hk
     . have:=HL.out.lt;have:=HL.out.ge;have:=HL.out.size;omega
     . exact (hS2 k hk).2
    have hgS:g∉q::SS:=fun hm=>by
     rcases mem_cons.1 hm with hm|hm
     . exact hqg hm
     . have:=(hS2 g hm).1;omega
    have HS1:Hid (∀a,A=some a->a.block∈q::SS):=fun a ha=>List.mem_cons_of_mem _ (hS1 a ha);have tg0:=fun t:ah.aS (q::SS) wr []=>cell g0 hgS t;have tg1:=fun t:ah.aS (q::SS) wr []=>cell g1 hgS t;have tg2:=fun t:ah.aS (q::SS) wr []=>cell g2 hgS t;have tg3:=fun t:ah.aS (q::SS) wr []=>cell g3 hgS t;have tg4:=fun t:ah.aS (q::SS) wr []=>cell g4 hgS t;have tg5:=fun t:ah.aS (q::SS) wr []=>cell g5 hgS t;have tg6:=fun t:ah.aS (q::SS) wr []=>cell g6 hgS t;have tg7:=fun t:ah.aS (q::SS) wr []=>cell g7 hgS t;have tg8:=fun t:ah.aS (q::SS) wr []=>cell g8 hgS t;clear g0 g1 g2 g3 g4 g5 g6 g7 g8 hS1 hS2;refine ah.aj (q::SS) [(0,[]),(1,[]),(2,[]),(3,[]),(5,[]),(6,[]),(7,[]),(4,[]),(8,[]),(9,[]),(10,[])] [4,8,10] [9] (by kernel_rfl) (by kernel_rfl) hS3 ?_;simp only [ah.pick,ah.aO,dL];clear hS3
    repeat (refine ah.ak (fun K hK=>?_);go_simp;(refine hK _ ?_;clear hK K))
    refine ah.aN rfl ah.aF (EvI wr q n1 s1) (fun W2 hk9 _=>?_) (fun v w5 hv hI _ hTd=>?_)
    . go_simp
      go_at_call 137
      refine (c1 _ (HR.out.keep hk9)).out.mono ?_;rintro e w' ⟨rfl,hr,ho⟩;exact ⟨_,rfl,⟨rfl,hr,(Wd.Only.of_below hk9).trans ho⟩,ho.mono (by simp)⟩
    obtain ⟨rfl,hr5,ho5⟩:=hv;clear hI hTd;replace HL:=hid (HL.out.fI ho5);replace HR:=hid hr5;clear ho5 hr5;refine ah.aN rfl ah.aF (EvT w5 q key s2) (fun W2 hk9 _=>?_) (fun v w6 hv hI _ hTd=>?_)
    . go_simp
      go_at_call 170
      refine (c2 _ (HR.out.keep hk9)).out.mono ?_;rintro e w' ⟨rfl,hr,ho⟩;exact ⟨_,rfl,⟨rfl,hr,(Wd.Only.of_below hk9).trans ho⟩,ho.mono (by simp)⟩
    obtain ⟨rfl,hr6,ho6⟩:=hv;clear hI hTd;replace HL:=hid (HL.out.fI ho6);replace HR:=hid hr6;clear ho6 hr6 c1 c2;refine ah.dF rfl ah.aF (fun b=> .slice (some ⟨b,0,none⟩) 1 1) (.cells #[.string key] 9) (fun W=>by go_simp) (fun b1 hb1 hT1=>?_);refine ah.aN rfl ah.aF (Ko StK (g+1) w6 A (k+1) (L++[key])) (fun W2 hk9 hl2=>?_) (fun v w9 hv hI _ hTd=>?_)
    . exact uW (K:=StK) Tryz.underlying39 Nw rfl (by decide) (by decide) (.tmp 9) (.tmp 18) rfl (g+1) A k cc L rfl HLEN.out HL.out.vk hk9 b1 1 (key) rfl (hl2 (b1,.cells #[.string key] 9) (by simp)) hm1 HL.out.size HS1.out
    obtain ⟨A5,c5,rfl,hd5⟩:=hv;have HRN:=hid (zD HR.out HL.out hd5 (by decide));have HLN:=hid (HL.out.app hd5);clear hI hd5 hTd hT1;refine ah.walk_nil ?_;intro w10 hb6 _;replace HRN:=hid (HRN.out.keep hb6);replace HLN:=hid (HLN.out.kept hb6);clear hb6 HL HR HS1;clear hgS tg0 tg1 tg2 tg3 tg4 tg5 tg6 tg7 tg8;simp only [lC,drop_zero,Nat.zero_add,Nat.reduceAdd];go_wp2_with fail
    go_roundg (n-(k+1))
    case measure=>omega
    case rel=>exact ⟨k+1,A5,c5,hlt,rfl,by go_num,rfl,by rw [HNX.out];exact HLN,by rw [HNX.out];exact HRN⟩
  . obtain rfl:n=k:=by omega
    obtain ⟨d,hd⟩:∃d,d=F-1-n:=⟨_,rfl⟩
    obtain ⟨k1,hk1⟩:∃k1,k1=1+K:=⟨_,rfl⟩
    obtain ⟨f1,hf1⟩:∃f1,f1=F-1:=⟨_,rfl⟩
    obtain ⟨kd,hkd⟩:∃kd,kd=k1*d:=⟨_,rfl⟩
    have hz:((1+(K:Int))*((F:Int)-1-(n:Int)))=(kd:Int):=by
     rw [show (1+(K:Int))=(k1:Int) by omega,show ((F:Int)-1-(n:Int))=(d:Int) by omega,<-Int.natCast_mul,<-hkd]
    have Ov:kd<=65*64:=by
     rw [hkd];exact Nat.mul_le_mul (by omega) (by omega)
    have hw1:IntKind.i64.wrap (1+(K:Int))=(k1:Int):=(by rw [wrap_i64];omega);have hw2:IntKind.i64.wrap ((F:Int)-1)=(f1:Int):=(by rw [wrap_i64];omega);have hw3:IntKind.i64.wrap ((f1:Int)-(n:Int))=(d:Int):=by rw [wrap_i64];omega
    have hw4:IntKind.i64.wrap ((k1:Int)*(d:Int))=(kd:Int):=by
     rw [<-Int.natCast_mul,<-hkd,wrap_i64];omega
    have cZ:Hid (Calls Tryz.prog 102 #[q,(kd:Int)] wr fun e w'=>e=.returned (.tuple #[])/\Rd 175 w' q (bD (rdS (nI ⟨cB,cY,cF,(F:Int),cU,cL,(K:Int),cV⟩) n s).1 ((1+(K:Int))*((F:Int)-1-(n:Int))))/\Only q wr w'):=by
     rw [hz];exact Wd.kU q _ (kd:Int) wr HR.out
    obtain ⟨-,-,-,g3,-,-,g6,-,g8⟩:=j4 HL.out.box;clear hF9 hn9 hd hk1 hf1 hkd hz Ov HR;go_upto_region 7 with (go_at_call 102;refine cZ.out.mono ?_;rintro e w2 ⟨rfl,hr,ho⟩;have HR:=hid hr;replace HL:=hid (HL.out.fI ho);clear hr ho cZ g3 g6 g8)
    have HF:=hid (HL.out.vk.mono (Nat.le_trans HWG.out (Nat.le_succ g)));have HO:=hid HL.out.only;clear HL;go_wp2_with fail
    go_ret
    exact ⟨A,cc,rfl,HF.out,HR.out,HO.out⟩
end No
end Go.Proofs.YtjpjjnalpdpljaaGreatDoor
