import Derived.Test.YtmcbidhpkpmalaaGreatDoorPkBN
set_option maxHeartbeats 8000000
set_option maxRecDepth 100000
namespace Go.Proofs.YtmcbidhpkpmalaaGreatDoor
open Go.RowKit
open Go.Lib (hid)
open ah (dL)
open ah.aQ (cell)
open IntKind (wrap_i64)
open List (drop_nil length_append length_eq_zero_iff length_map map_append mem_append)
namespace Sk
open Mem Lx Bu Lf Fa No Sh Bt Po
def LvP(w w':World)(pn mn:Nat)(e:Ending):Prop:=(∃(TT:List (List (Nd × At))) (S:List (Option Addr × Nat × Nat)) (A:Option Addr) (cc:Nat) (L0:List Pr) (R0:List (List Nd)) (lo hi:List ByteArray) (k:Nat),e=.returned (.slice A TT.length cc)/\TrW w' w.heap.size A cc S TT/\PRi L0/\Lay L0 R0 lo hi/\lo.length<=1/\R0.length<=7/\Lad R0 (nds TT) k/\(k<=100/\k<=mn)/\L0.length<=pn)/\Bw w w'
structure CfL(c:Cfg):Prop where
 fan:8<=c.fan/\c.fan<=64
 leaf:1<=c.leaf/\c.leaf<=2000
theorem Q6{n c:Nat}{A:Option Addr}{P:List Pr}(h:P.length=n):(jD.cs (⟨0,[],[],[],P⟩,⟨none,0,none,0,none,0,A,c⟩)).toArray= #[.int .i64 0,.slice none 0 0,.slice none 0 0,.slice none 0 0,.slice A n c]:=by subst h;rfl
theorem BK{w:World}{c:Cfg}{x:Sp}(h:SpW w x)(hc:CfL c)(hkP:∀(i:Nat) (p:Pr),i<150->x.P[i]? =some p->p.1.size<=200)(hkM:∀(i:Nat) (m:Mg),i<100->x.M[i]? =some m->m.1.size<=200):Calls Tryz.prog 26 #[.agg (bC c),.agg (jE x)] w fun e w'=>LvP w w' x.P.length x.M.length e:=by
 have cKe:∀w',Bw w w'->Hid (Calls Tryz.prog 55 #[.agg (bC c),.agg (jE x)] w' fun e w''=>(∃A' c' L,e=.returned (.slice A' L.length c')/\VK PrK w'' w'.heap.size A' c' L/\PRi L/\L.length<=150/\(∀p,p∈L->p.1.size<=200)/\L.length<=x.P.length)/\Bw w' w''):=fun w' hb=>JE (h.kept hb) hkP
 have cMs:∀w',Bw w w'->Hid (Calls Tryz.prog 59 #[.agg (bC c),.agg (jE x)] w' fun e w''=>(∃A' c' L,e=.returned (.slice A' L.length c')/\VK MgK w'' w'.heap.size A' c' L/\L.length<=100/\(∀m,m∈L->m.1.size<=200)/\L.length<=x.M.length)/\Bw w' w''):=fun w' hb=>JF (h.kept hb) hkM
 have cCu:∀w',Bw w w'->∀i most:Nat,1<=most->most<=1000000->Hid (CB 56 #[.agg (jE x),(i:Int),(most:Int)] w' (.int .i64 (cutV x.C i most:Int))):=fun w' hb i most h1 h2=>MG (h.kept hb) i most h1 h2
 have HD:=hid h.d;have HC:=hid (CxB.new w (bC c) (jE x));have HCF:=hid hc;obtain⟨F,hF⟩:∃F:Nat,c.fan=(F:Int):=⟨c.fan.toNat,by have:=hc.fan;omega⟩
 obtain⟨Lf,hLf⟩:∃F:Nat,c.leaf=(F:Int):=⟨c.leaf.toNat,by have:=hc.leaf;omega⟩
 have hFF:8<=F/\F<=64:=by have:=hc.fan;omega
 have hLL:1<=Lf/\Lf<=2000:=by have:=hc.leaf;omega
 have HCu:Hid (∀w',Bw w w'->∀i most:Nat,1<=most->most<=1000000->∃v:Nat,(1<=v/\v<=most)/\Hid (CB 56 #[.agg (jE x),(i:Int),(most:Int)] w' (.int .i64 (v:Int)))):=fun w' hb i most h1 h2=>⟨_,MF _ _ _ h1,cCu w' hb i most h1 h2⟩;obtain⟨pA,pc,P,mA,mc,M,dA,dc,D,cA,cc,C⟩:=x;obtain⟨cB,cY,cF,cN,cU,cL,cKy,cV⟩:=c;simp only at hF hLf;subst hF hLf;unfold bC jE at*;simp only at*;obtain⟨dn,hdn⟩:=eX D.length;have HDN:=hid hdn;simp only[<-hdn]at HC cKe cMs HCu ⊢;obtain⟨pn,hpn⟩:=eX P.length;obtain⟨mn,hmn⟩:=eX M.length;obtain⟨cn,hcn⟩:=eX C.length;simp only[<-hpn,<-hmn,<-hcn]at HC cKe cMs HCu ⊢;clear h hc hkP hkM cCu hdn hpn hmn hcn;go_enter Tryz.func26,Tryz.ntmps26
 go_upto_region 1 with fail
 generalize (w.alloc (.cells #[cB,cY,cF,(F:Int),cU,(Lf:Int),cKy,cV] 23)).alloc (.cells #[.slice pA pn pc,.slice mA mn mc,.slice dA dn dc,.slice cA cn cc] 28)=w1 at*;obtain⟨g,hg⟩:=eX w.heap.size;have HG:=hid hg;simp only[<-hg];clear hg;obtain⟨c0,c1,c2,c3,c4,c5,c6,c7⟩:=aU (show w1.heap[w.heap.size]? =some (.cells #[cB,cY,cF,(F:Int),cU,(Lf:Int),cKy,cV] 23 (0,0))from HC.c);rw[<-HG.out]at c0 c1 c2 c3 c4 c5 c6 c7;have x0:w1.cell? ⟨g+1,0,none⟩=some (.slice pA pn pc):=by rw[HG.out];exact HC.x.cell (i:=0) rfl
 have x1:w1.cell? ⟨g+1,1,none⟩=some (.slice mA mn mc):=by rw[HG.out];exact HC.x.cell (i:=1) rfl
 have x2:w1.cell? ⟨g+1,2,none⟩=some (.slice dA dn dc):=by rw[HG.out];exact HC.x.cell (i:=2) rfl
 have x3:w1.cell? ⟨g+1,3,none⟩=some (.slice cA cn cc):=by rw[HG.out];exact HC.x.cell (i:=3) rfl
 go_upto_region 2 with(go_at_call 55;refine(cKe _ HC.below).mono ?_;rintro e w2 ⟨⟨lA,lc,L0,rfl,hv,hr,hl,hs⟩,hb⟩;have HV2:=hid hv;have HL0:=hid (And.intro hr (And.intro hl hs));have HC2:=hid (HC.kept hb);have MR:=hid (And.intro HC.below.size hb.size);clear hv hr hl hs hb cKe HC c0 c1 c2 c3 c4 c5 c6 c7 x0 x1 x2 x3)
 obtain⟨Ln,hLn⟩:=eX L0.length;have HLn:=hid hLn;rw[<-hLn];have Uc:Ln<=150:=by rw[hLn];exact HL0.2.1
 clear hLn;go_upto_block 0 with fail
 have hb3:Bw w2 (((w2.alloc (.cells #[] 50)).alloc (.cells #[] 9)).alloc (.cells #[] 9)):=((bAx).alloc (by simp) _).alloc (by simp;omega) _
 have M0:Me1 w #[cB,cY,cF,(F:Int),cU,(Lf:Int),cKy,cV] #[.slice pA pn pc,.slice mA mn mc,.slice dA dn dc,.slice cA cn cc] w2.heap.size L0 lA lc [] (some ⟨w2.heap.size,0,none⟩) 0 [] (some ⟨w2.heap.size+1,0,none⟩) 0 [] (some ⟨w2.heap.size+2,0,none⟩) 0 (((w2.alloc (.cells #[] 50)).alloc (.cells #[] 9)).alloc (.cells #[] 9)):=by
  have s1:(w2.alloc (.cells #[] 50)).heap.size=w2.heap.size+1:=by simp
  have s2:((w2.alloc (.cells #[] 50)).alloc (.cells #[] 9)).heap.size=w2.heap.size+2:=by simp
  have r1:VK jD (w2.alloc (.cells #[] 50)) w2.heap.size (some ⟨w2.heap.size,0,none⟩) 0 []:=VK.lit w2 w2.heap.size (Nat.le_refl _);have r2:VK StK ((w2.alloc (.cells #[] 50)).alloc (.cells #[] 9)) w2.heap.size (some ⟨(w2.alloc (.cells #[] 50)).heap.size,0,none⟩) 0 []:=VK.lit _ w2.heap.size (by omega);have r3:VK StK (((w2.alloc (.cells #[] 50)).alloc (.cells #[] 9)).alloc (.cells #[] 9)) w2.heap.size (some ⟨((w2.alloc (.cells #[] 50)).alloc (.cells #[] 9)).heap.size,0,none⟩) 0 []:=VK.lit _ w2.heap.size (by omega);rw[s1]at r2;rw[s2]at r3;have al:∀(w:World) (o:Obj),Bw w (w.alloc o):=fun w o=>bAx
  refine⟨HC2.kept hb3,(Fr.mono (Fr.iN HV2.out) MR.1).kept hb3,⟨(r1.kept (al _ _)).kept (al _ _),(fun y hy=>by cases hy),⟨r2.kept (al _ _),r3,fun a b ha hb=>?_⟩,fun y hy=>by cases hy⟩,⟨HC2.lt,hb3.size⟩,fun z hz=>(Fr.blk (Fr.iN HV2.out) hz).2⟩;cases ha
  cases hb
  simp
 have HM0:=hid M0;clear M0 hb3 HV2 HC2 MR;generalize (((w2.alloc (.cells #[] 50)).alloc (.cells #[] 9)).alloc (.cells #[] 9))=w3 at*;obtain⟨B,hB⟩:=eX w2.heap.size;simp only[<-hB]at HM0 ⊢;clear hB
 go_cut[5,6,7,8,9] (fun s5 s6 s7 s8 s9 wx=>(∃A n c,s5= .slice A n c)/\∃(X:List (Nd × At)) (lo hi:List ByteArray) (rA aA bA:Option Addr) (rc ac bc rn:Nat),s6= .slice rA rn rc/\s7= .slice aA rn ac/\s8= .slice bA rn bc/\s9= .int .i64 (rn:Int)/\1<=rn/\rn<=151/\Hid (X.length=rn/\lo.length=rn)/\Hid (Lay L0 [X.map (·.1)] lo hi)/\Hid (RwS wx B w.heap.size X rA rc lo aA ac hi bA bc)/\Hid (CxB w #[cB,cY,cF,(F:Int),cU,(Lf:Int),cKy,cV] #[.slice pA pn pc,.slice mA mn mc,.slice dA dn dc,.slice cA cn cc] wx)/\Hid (w.heap.size+2<=B/\B<=wx.heap.size))
 case first=>
  clear cMs HD HDN;go_wp2_with fail
  go_loopg[5,6,7,8,9] (Ln+1) (fun gk s5 s6 s7 s8 s9 wr=>∃(q:Nat) (X:List (Nd × At)) (lo hi:List ByteArray) (lA rA aA bA:Option Addr) (lc rc ac bc ln rn z:Nat),q+ln=Ln/\gk=ln+z/\(rn=0->z=1)/\(rn≠0->z=0)/\s5= .slice lA ln lc/\s6= .slice rA rn rc/\s7= .slice aA rn ac/\s8= .slice bA rn bc/\s9= .int .i64 (rn:Int)/\rn<=151/\Hid (X.length=rn)/\Hid (LfS L0 q (X.map (·.1)) lo hi)/\Hid (Me1 w #[cB,cY,cF,(F:Int),cU,(Lf:Int),cKy,cV] #[.slice pA pn pc,.slice mA mn mc,.slice dA dn dc,.slice cA cn cc] B (L0.drop q) lA lc X rA rc lo aA ac hi bA bc wr))
  case atStart=>exact⟨0,[],[],[],lA,_,_,_,lc,0,0,0,Ln,0,1,by omega,rfl,fun _=>rfl,fun h=>absurd rfl h,rfl,rfl,rfl,rfl,rfl,by decide,rfl,LfS.start L0,HM0.out⟩
  case round=>
   clear HM0;obtain⟨q,X,lo,hi,lA,rA,aA,bA,lc,rc,ac,bc,ln,rn,z,hq,rfl,hz1,hz0,rfl,rfl,rfl,rfl,rfl,hrn,HX,HF,HM⟩:=hrel;by_cases hgo:0<ln\/rn=0
   . obtain⟨v,⟨hv1,hv2⟩,cQ⟩:=HCu.out wr HM.cx.below rn Lf hLL.1 (by omega)
     have x0:wr.cell? ⟨g+1,0,none⟩=some (.slice pA pn pc):=(by rw[HG.out];exact HM.cx.x.cell (i:=0) rfl);have x1:wr.cell? ⟨g+1,1,none⟩=some (.slice mA mn mc):=(by rw[HG.out];exact HM.cx.x.cell (i:=1) rfl);have x2:wr.cell? ⟨g+1,2,none⟩=some (.slice dA dn dc):=(by rw[HG.out];exact HM.cx.x.cell (i:=2) rfl);have x3:wr.cell? ⟨g+1,3,none⟩=some (.slice cA cn cc):=(by rw[HG.out];exact HM.cx.x.cell (i:=3) rfl);have c5:wr.cell? ⟨g,5,none⟩=some (.int .i64 (Lf:Int)):=(by rw[HG.out];exact HM.cx.c.cell (i:=5) rfl);have hkt:IntKind.i64.wrap ((rn:Int)+1)=((rn+1:Nat):Int):=(by rw[wrap_i64];omega);rcases Nat.eq_zero_or_pos ln with hl0|hl0
     . obtain rfl:ln=0:=hl0
       obtain rfl:rn=0:=(by omega);clear hgo hkt;go_upto_region 6 with fail
       go_cut[10] (fun s10 wx=>s10= .int .i64 0/\Hid (Me1 w #[cB,cY,cF,(F:Int),cU,(Lf:Int),cKy,cV] #[.slice pA pn pc,.slice mA mn mc,.slice dA dn dc,.slice cA cn cc] B (L0.drop q) lA lc X rA rc lo aA ac hi bA bc wx))
       case first=>
        have hI:(0:Int)<=(v:Int):=(by omega);go_wp2_with (go_at_call 56;refine cQ.mono ?_;rintro e w4 ⟨rfl,hb⟩;have HM4:=hid (HM.kept hb);clear hb cQ x0 x1 x2 x3 c5)
        go_meet
        first
         |exact⟨rfl,HM4⟩
         |exact⟨congrArg (Value.int .i64) (by omega),HM4⟩
       case rest=>
        clear HM cQ x0 x1 x2 x3 c5;obtain⟨rfl,HM⟩:=hcut;obtain rfl:X=[]:=length_eq_zero_iff.1 HX.out
        have Ud:L0.length=q:=by
         rw[<-HLn.out];omega
        obtain rfl:lo=[]:=length_eq_zero_iff.1 HF.len.symm;obtain rfl:hi=[]:=length_eq_zero_iff.1 HF.seg.len.symm
        have hLe:L0=[]:=by
         have:=HF.fl;rw[List.take_of_length_le (by omega)]at this;exact this.symm
        have HLe:=hid hLe;have hdr:L0.drop q=[]:=(by rw[hLe];exact drop_nil);rw[hdr]at HM;have r1:∀w,(Instr.slice 24 (.slice lA 0 lc) none (some (.int .i64 0)) none).run Tryz.prog w= .ok (.slice lA 0 lc) w:=fun w=>qK lA 0 lc 0 (Nat.zero_le _) w
        obtain⟨lA',hlA⟩:=eX (yU 2 lA lc 0)
        have r2:∀w,(Instr.slice 24 (.slice lA 0 lc) (some (.int .i64 0)) none none).run Tryz.prog w= .ok (.slice lA' 0 lc) w:=fun w=>by
         rw[hlA];exact oW lA 0 lc 0 (Nat.zero_le _) w
        have hm1:0+1<=1048576:=(by decide);have HB2:Hid (B<=wc.heap.size):=hid HM.bel.2;clear hLe Ud hdr;go_upto_region 9 with(refine aI (K:=jD) Tryz.underlying35 wO rfl (by decide) (by decide) rfl (.tmp 45) (.tmp 50) rfl B rA 0 rc [] rfl rfl (HM.rw_.row.kept (bAx)) _ 1 (⟨0,[],[],[],[]⟩,⟨none,0,none,0,none,0,lA,lc⟩) rfl (heap_alloc_new _ _) hm1 (Nat.le_trans HB2.out (by simp)) ?_;intro r5 k5 w5 HA5)
        have HM5:=hid (HM.node 0 (jc.pre (jF.Gp HA5.out) (bAx) HB2.out));clear HM HA5 HB2;have HB5:Hid (B<=w5.heap.size):=hid HM5.bel.2;go_upto_region 11 with fail
        go_upto_region 12 with(first
         |(refine aI (K:=StK) Tryz.underlying48 oq rfl (by decide) (by decide) rfl (.tmp 70) (.tmp 71) rfl B aA 0 ac [] rfl rfl (HM5.rw_.two.v1.kept (bAx)) _ 1 ⟨#[]⟩ rfl (heap_alloc_new _ _) hm1 (Nat.le_trans HB5.out (by simp)) ?_;intro aA6 ac6 w6 HA6;have J9:Hid (VK StK w6 B bA bc []):=hid ((HM5.rw_.two.v2.kept (bAx)).keep fun b hb=>HA6.block _ ((HM5.rw_.two.v2.kept (bAx)).at_ b hb).2 fun a ha e=>HM5.rw_.two.ne a b ha hb e);have HB6:Hid (B<=w6.heap.size):=hid (Nat.le_trans (Nat.le_trans HB5.out (by simp)) HA6.below.size))
         |(refine aI (K:=StK) Tryz.underlying48 oq rfl (by decide) (by decide) rfl (.tmp 73) (.tmp 74) rfl B bA 0 bc [] rfl rfl (J9.kept (bAx)) _ 1 ⟨#[]⟩ rfl (heap_alloc_new _ _) hm1 (Nat.le_trans HB6.out (by simp)) ?_;intro bA7 bc7 w7 HA7))
        have HM7:=hid ((HM5.ends (jc.pre (jF.Gp HA6.out) (bAx) HB5.out) (jc.pre (jF.Gp HA7.out) (bAx) HB6.out)).cut 0);rw[<-hlA]at HM7;clear HM5 HA6 HA7 J9 HB5 HB6 hlA;go_wp2_with fail
        go_roundg 0
        case measure=>omega
        case rel=>
         obtain rfl:=HLe.out;exact⟨0,[(⟨0,[],[],[],[]⟩,⟨none,0,none,0,none,0,lA,lc⟩)],_,_,lA',r5,aA6,bA7,_,k5,ac6,bc7,0,1,0,by have:=HLn.out;simp at this;omega,rfl,fun h=>absurd h (by omega),fun _=>rfl,rfl,rfl,rfl,rfl,rfl,by decide,rfl,LfS.empty,HM7.out⟩
     . have ht:(0:Int)<(ln:Int):=by omega
       clear hgo;go_upto_region 6 with fail
       go_cut[10] (fun s10 wx=>∃n:Nat,s10= .int .i64 (n:Int)/\n<=ln/\0<n/\Hid (Me1 w #[cB,cY,cF,(F:Int),cU,(Lf:Int),cKy,cV] #[.slice pA pn pc,.slice mA mn mc,.slice dA dn dc,.slice cA cn cc] B (L0.drop q) lA lc X rA rc lo aA ac hi bA bc wx))
       case first=>
        have hI:(ln:Int)<=(v:Int)\/¬(ln:Int)<=(v:Int):=(by omega);rcases hI with hI|hI
        all_goals
         go_wp2_with (go_at_call 56;refine cQ.mono ?_;rintro e w4 ⟨rfl,hb⟩;have HM4:=hid (HM.kept hb);clear hb cQ x0 x1 x2 x3 c5)
         go_meet
         first
          |exact⟨ln,congrArg (Value.int .i64) (if_pos hI),Nat.le_refl _,hl0,HM4⟩
          |exact⟨v,congrArg (Value.int .i64) (if_neg hI),by omega,by omega,HM4⟩
          |exact⟨ln,rfl,Nat.le_refl _,hl0,HM4⟩
          |exact⟨v,rfl,by omega,by omega,HM4⟩
          |exact⟨v,congrArg (Value.int .i64) (by omega),by omega,by omega,HM4⟩
          |exact⟨ln,congrArg (Value.int .i64) (by omega),Nat.le_refl _,hl0,HM4⟩
       case rest=>
        clear HM cQ x0 x1 x2 x3 c5;obtain⟨n,rfl,hnl,hn0,HM⟩:=hcut;have HLD:Hid ((L0.drop q).length=ln):=hid (by rw[List.length_drop,<-HLn.out];omega)
        have hnc:n<=lc:=by
         have:=HM.l.rc.2;rw[HLD.out]at this;omega
        have HPL:Hid (((L0.drop q).take n).length=n):=hid (by rw[List.length_take,HLD.out];omega);have r1:=fun w=>qK lA ln lc n hnc w;have r2:=fun w=>oW lA ln lc n hnl w;have hm1:rn+1<=1048576:=(by omega);have HB2:Hid (B<=wc.heap.size):=hid HM.bel.2;have hng:(0:Int)<(n:Int):=(by omega);clear ht;go_upto_region 9 with(refine aI (K:=jD) Tryz.underlying35 wO rfl (by decide) (by decide) rfl (.tmp 45) (.tmp 50) rfl B rA rn rc X rfl HX.out (HM.rw_.row.kept (bAx)) _ 1 (⟨0,[],[],[],(L0.drop q).take n⟩,⟨none,0,none,0,none,0,lA,lc⟩) rfl (by rw[Q6 HPL.out];exact heap_alloc_new _ _) hm1 (Nat.le_trans HB2.out (by simp)) ?_;intro r5 k5 w5 HA5)
        have HM5:=hid (HM.node n (jc.pre (jF.Gp HA5.out) (bAx) HB2.out));clear HM HA5 HB2;obtain⟨Y,hY⟩:=eX (X++[((⟨0,[],[],[],(L0.drop q).take n⟩,⟨none,0,none,0,none,0,lA,lc⟩):Nd × At)]);rw[<-hY]at HM5;have HY:=hid hY;clear hY
        have HLE:Hid (lo.length=rn/\hi.length=rn):=hid (by
         have h1:=HF.len;have h2:=HF.seg.len;rw[length_map,HX.out]at h1
         omega)
        obtain⟨m,rfl⟩:∃m,n=m+1:=⟨n-1,by omega⟩
        obtain⟨x,hx⟩:∃x,(L0.drop q)[0]? =some x:=⟨_,List.getElem?_eq_getElem (by rw[HLD.out];omega)⟩
        obtain⟨y,hy⟩:∃y,(L0.drop q)[m]? =some y:=⟨_,List.getElem?_eq_getElem (by rw[HLD.out];omega)⟩
        obtain⟨lb,lo2,el,-,p0,-⟩:=RdK.pair HM5.l.rc.1 hx;subst el;obtain⟨lb2,lo3,el,-,p1,-⟩:=RdK.pair HM5.l.rc.1 hy;(cases el);have HXY:=hid (And.intro hx hy);clear hx hy
        have hS3:∀k,k∈tA aA++tA bA->k<w5.heap.size:=fun k hk=>by
         rcases mem_append.1 hk with hk|hk
         . obtain⟨a,ha,rfl⟩:=bU hk
           exact(HM5.rw_.two.v1.at_ a ha).2
         . obtain⟨a,ha,rfl⟩:=bU hk
           exact(HM5.rw_.two.v2.at_ a ha).2
        have hnb:lb∉tA aA++tA bA:=fun hh=>by
         have h1:=HM5.lB lb (qU (by rw[HLD.out];omega) rfl);rcases mem_append.1 hh with hk|hk
         . obtain⟨a,ha,e⟩:=bU hk
           have:=(HM5.rw_.two.v1.at_ a ha).1;omega
         . obtain⟨a,ha,e⟩:=bU hk
           have:=(HM5.rw_.two.v2.at_ a ha).1;omega
        rw[Nat.zero_mul,Nat.add_zero]at p0;have y0:=fun q:ah.aQ (tA aA++tA bA) w5 []=>cell p0 hnb q;have y1:=fun q:ah.aQ (tA aA++tA bA) w5 []=>cell p1 hnb q;have hml:m<ln:=(by omega);have hk1:IntKind.i64.wrap (m:Int)=(m:Int):=(by rw[wrap_i64];omega);have HB5:Hid (B<=w5.heap.size):=hid HM5.bel.2;clear p0 p1 hnb;go_upto_region 10 with fail
        refine ah.aj (tA aA++tA bA) [(0,[]),(1,[]),(2,[]),(3,[]),(4,[]),(7,[]),(8,[]),(9,[]),(10,[]),(11,[]),(12,[]),(13,[]),(5,[14]),(6,[14]),(14,[]),(15,[]),(16,[]),(17,[])] [6,15] [5,14] (by kernel_rfl) (by kernel_rfl) hS3 ?_;clear hS3;simp only[ah.pick,ah.aM,dL,List.filterMap_cons]
        repeat (refine ah.ak (fun K hK=>?_);go_simp;(refine hK _ ?_;clear hK K))
        refine ah.bP rfl (ah.dY rfl (fun b=> .slice (some (b:Nat)) 1 1) (.cells #[.string y.1] 9) (fun W=>by go_simp) fun _ _=>ah.aC) (fun b=> .slice (some (b:Nat)) 1 1) (.cells #[.string x.1] 9) (fun W=>by go_simp) (fun p1 hp1 hT1=>?_);refine ah.aJ rfl (ah.dY rfl (fun b=> .slice (some (b:Nat)) 1 1) (.cells #[.string y.1] 9) (fun W=>by go_simp) fun _ _=>ah.aC) (uz StK B w5 aA (rn+1) (lo++[x.1])) (fun W2 hk hl2=>?_) (fun v w6 hv hI _ hTd=>?_)
        . exact gF (K:=StK) Tryz.underlying48 oq rfl (by decide) (by decide) (.tmp 54) (.tmp 59) rfl B aA rn ac lo rfl HLE.1 HM5.rw_.two.v1 hk p1 1 (x.1) rfl (hl2 (p1,.cells #[.string x.1] 9) (by simp)) hm1 HB5.out (fun a ha=>List.mem_append_left _ (aX ha))
        obtain⟨aA6,ac6,rfl,hd6⟩:=hv;have HD6:=hid hd6;have J9:Hid (VK StK w6 B bA bc hi):=hid (HM5.rw_.two.v2.keep fun b hb=>hd6.block _ (HM5.rw_.two.v2.at_ b hb).2 fun a ha e=>HM5.rw_.two.ne a b ha hb e);have HL6:Hid (B<=w6.heap.size):=hid (Nat.le_trans HB5.out hd6.below.size);clear hI hd6 hTd hT1;refine ah.bP rfl ah.aC (fun b=> .slice (some (b:Nat)) 1 1) (.cells #[.string y.1] 9) (fun W=>by go_simp) (fun p2 hp2 hT2=>?_);refine ah.aJ rfl ah.aC (uz StK B w6 bA (rn+1) (hi++[y.1])) (fun W2 hk hl2=>?_) (fun v w7 hv hI _ hTd=>?_)
        . exact gF (K:=StK) Tryz.underlying48 oq rfl (by decide) (by decide) (.tmp 61) (.tmp 68) rfl B bA rn bc hi rfl HLE.2 J9.out hk p2 1 (y.1) rfl (hl2 (p2,.cells #[.string y.1] 9) (by simp)) hm1 HL6.out (fun a ha=>List.mem_append_right _ (aX ha))
        obtain⟨bA7,bc7,rfl,hd7⟩:=hv;have HD7:=hid hd7;clear hI hd7 hTd hT2
        repeat (refine ah.ak (fun K hK=>?_);go_simp;first|(refine hK _ ?_;clear hK K)|(refine⟨_,fun _=>rfl,hK _ ?_⟩;clear hK K))
        refine ah.walk_nil ?_;intro w8 hb8 _;have HM8:=hid ((((HM5.ends HD6.out HD7.out).kept hb8)).cut (m+1));clear hb8 HD6 HD7 J9 HL6 HM5 HB5 y0 y1;simp only[lC,drop_nil,Nat.zero_add,Nat.reduceAdd];clear r1 r2;generalize (some (⟨lb,lo2,none⟩:Addr))=lA at*;obtain⟨lA',hlA⟩:=eX (yU 2 lA lc (m+1))
        have r2:∀w,(Instr.slice 24 (.slice lA ln lc) (some (.int .i64 ((m:Int)+1))) none none).run Tryz.prog w= .ok (.slice lA' (ln-(m+1)) (lc-(m+1))) w:=fun w=>by
         rw[hlA];exact oW lA ln lc (m+1) hnl w
        rw[<-hlA]at HM8;clear hlA;go_wp2_with fail
        go_roundg (ln-(m+1))
        case measure=>omega
        case rel=>
         have hx:=HXY.1;have hy:=HXY.2;rw[List.getElem?_drop]at hx hy;have hL:=HL0.out
         have hqn:q+(m+1)<=L0.length:=by
          rw[<-HLn.out];omega
         have hF2:=HF.next hL.1 hL.2.2.1 hL.2.1 hn0 hqn hx hy
         have hYm:Y.map (·.1)=X.map (·.1)++[⟨0,[],[],[],(L0.drop q).take (m+1)⟩]:=by
          rw[HY.out,map_append];rfl
         rw[<-hYm]at hF2;have hYl:Y.length=rn+1:=(by rw[HY.out,length_append,HX.out];rfl);have hcn:=hF2.cnt;rw[length_map,hYl]at hcn;have hM8:=HM8.out;rw[List.drop_drop]at hM8;exact⟨q+(m+1),Y,_,_,lA',r5,aA6,bA7,_,k5,ac6,bc7,ln-(m+1),rn+1,0,by omega,rfl,fun h=>absurd h (by omega),fun _=>rfl,rfl,rfl,rfl,rfl,rfl,by omega,hYl,hF2,hM8⟩
   . have h1:ln=0:=by omega
     have h2:0<rn:=(by omega);have Sc:=HF.lay (by rw[<-HLn.out];omega) (by rw[length_map,HX.out];exact h2);have Gc:=hid Sc;have hll:=HF.len;rw[length_map,HX.out]at hll;have HLL:=hid hll;have ht1:(ln:Int)<=0:=(by omega);have ht2:((rn:Int)==0)=false:=(by simp;omega);clear Sc hll hgo h1;go_wp2_with fail
     go_meet
     exact⟨⟨_,_,_,rfl⟩,X,lo,hi,rA,aA,bA,rc,ac,bc,rn,rfl,rfl,rfl,rfl,h2,hrn,⟨HX.out,HLL.symm⟩,Gc.out,HM.rw_,HM.cx,HM.bel⟩
 case rest=>
  obtain⟨⟨lA2,ln2,lc2,rfl⟩,X,lo,hi,rA,aA,bA,rc,ac,bc,rn,rfl,rfl,rfl,rfl,h1,Q7,HX,Gc,HR,HC,HB⟩:=hcut;clear HM0;go_upto_region 14 with fail
  have HM:=hid (Me2.start HX.1 HR.out HC.out (by have:=HB.1;omega));clear HR HC HB;generalize (wc.alloc (.cells #[.slice rA rn rc] 35))=w4 at HM ⊢;generalize (some (⟨wc.heap.size,0,none⟩:Addr))=oA at HM ⊢
  go_loopg[6,7,8,9,11] 5 (fun gk s6 s7 s8 s9 s11 wr=>∃(S:List (Option Addr × Nat × Nat)) (TT:List (List (Nd × At))) (X:List (Nd × At)) (lo hi:List ByteArray) (rA aA bA oA:Option Addr) (rc ac bc oc rn t tn:Nat),gk=6-tn/\1<=tn/\tn<=6/\s6= .slice rA rn rc/\s7= .slice aA rn ac/\s8= .slice bA rn bc/\s9= .int .i64 (t:Int)/\t<=151*tn/\s11= .slice oA tn oc/\1<=rn/\rn<=151/\Hid (X.length=rn/\TT.length=tn/\lo.length=rn/\hi.length=rn)/\Hid (Lay L0 (nds TT) lo hi)/\Hid (Me2 w #[cB,cY,cF,(F:Int),cU,(Lf:Int),cKy,cV] #[.slice pA pn pc,.slice mA mn mc,.slice dA dn dc,.slice cA cn cc] S oA oc TT X rA rc lo aA ac hi bA bc wr))
  case atStart=>exact⟨[(rA,rn,rc)],[X],X,lo,hi,rA,aA,bA,oA,rc,ac,bc,1,rn,rn,1,rfl,by decide,by decide,rfl,rfl,rfl,rfl,by omega,rfl,h1,Q7,⟨HX.1,rfl,HX.2,by rw[<-Gc.seg.len];exact HX.2⟩,Gc.out,HM.out⟩
  case round=>
   clear HM Gc HX h1 Q7;obtain⟨S,TT,X,lo,hi,rA,aA,bA,oA,rc,ac,bc,oc,rn,t,tn,rfl,ht1,ht6,rfl,rfl,rfl,rfl,ht,rfl,h1,Q7,HX,Gc,HM⟩:=hrel;by_cases hgo:1<rn/\tn<6
   . have hg1:(1:Int)<(rn:Int):=by omega
     have hg2:(tn:Int)<6:=(by omega);obtain⟨W3,hW3⟩:=eX wr;subst hW3;go_upto_region 17 with fail
     have HR0:Hid (RwS _ W3.heap.size W3.heap.size [] _ 0 [] _ 0 [] _ 0):=hid (RwS.start W3);have HB0:Hid (Bw W3 (((W3.alloc (.cells #[] 50)).alloc (.cells #[] 9)).alloc (.cells #[] 9))):=hid (((bAx).alloc (by simp) _).alloc (by simp;omega) _);generalize (((W3.alloc (.cells #[] 50)).alloc (.cells #[] 9)).alloc (.cells #[] 9))=w5 at HR0 HB0 ⊢;generalize (some (⟨W3.heap.size,0,none⟩:Addr))=uA0 at HR0 ⊢;generalize (some (⟨W3.heap.size+1,0,none⟩:Addr))=pA0 at HR0 ⊢;generalize (some (⟨W3.heap.size+1+1,0,none⟩:Addr))=qA0 at HR0 ⊢;go_wp2_with fail
     go_loopg[9,12,13,14,15] rn (fun gk s9 s12 s13 s14 s15 wr=>∃(U:List (Nd × At)) (a b:List ByteArray) (uA eA fA:Option Addr) (uc ec fc un i t:Nat),gk=rn-i/\i<=rn/\s9= .int .i64 (t:Int)/\t<=151*tn+i/\s12= .slice uA un uc/\s13= .slice eA un ec/\s14= .slice fA un fc/\s15= .int .i64 (i:Int)/\un<=i/\Hid (U.length=un/\a.length=un/\b.length=un)/\Hid (UpS (tn:Int) lo hi i (U.map (·.1)) a b)/\Hid (Bw W3 wr)/\Hid (RwS wr W3.heap.size W3.heap.size U uA uc a eA ec b fA fc))
     case atStart=>exact⟨[],[],[],uA0,pA0,qA0,0,0,0,0,0,t,rfl,Nat.zero_le _,rfl,by omega,rfl,rfl,rfl,rfl,Nat.le_refl _,⟨rfl,rfl,rfl⟩,UpS.start _ _ _,HB0.out,HR0.out⟩
     case round=>
      clear HR0 HB0 ht;obtain⟨U,a,b,uA,eA,fA,uc,ec,fc,un,i,t,rfl,hi1,rfl,ht,rfl,rfl,rfl,rfl,hun,HU,HUp,HBl,HRw⟩:=hrel;by_cases hil:i<rn
      . have HM4:=hid (HM.kept HBl.out)
        obtain⟨v,⟨hv1,hv2⟩,cQ⟩:=HCu.out wr HM4.cx.below t F (by omega) (by omega);have x0:wr.cell? ⟨g+1,0,none⟩=some (.slice pA pn pc):=(by rw[HG.out];exact HM4.cx.x.cell (i:=0) rfl);have x1:wr.cell? ⟨g+1,1,none⟩=some (.slice mA mn mc):=(by rw[HG.out];exact HM4.cx.x.cell (i:=1) rfl);have x2:wr.cell? ⟨g+1,2,none⟩=some (.slice dA dn dc):=(by rw[HG.out];exact HM4.cx.x.cell (i:=2) rfl);have x3:wr.cell? ⟨g+1,3,none⟩=some (.slice cA cn cc):=(by rw[HG.out];exact HM4.cx.x.cell (i:=3) rfl);have c3:wr.cell? ⟨g,3,none⟩=some (.int .i64 (F:Int)):=(by rw[HG.out];exact HM4.cx.c.cell (i:=3) rfl);obtain⟨r,hr⟩:=eX (rn-i);have hkw:IntKind.i64.wrap ((rn:Int)-(i:Int))=(r:Int):=(by rw[wrap_i64];omega);have Ue:(i:Int)<(rn:Int):=(by omega);clear HM4;go_upto_region 19 with fail
        clear Ue
        go_cut[16] (fun s16 wx=>∃n:Nat,s16= .int .i64 (n:Int)/\1<=n/\n<=80/\i+n<=rn/\Hid (Bw wr wx))
        case first=>
         go_wp2_with (go_at_call 56;refine cQ.mono ?_;rintro e w6 ⟨rfl,hb⟩;have HB6:=hid hb;clear hb cQ x0 x1 x2 x3 c3)
         go_meet
         exact⟨min (rn-i) (max 2 v),congrArg (Value.int .i64) (by omega),by omega,by omega,by omega,HB6.out⟩
        case rest=>
         clear cQ x0 x1 x2 x3 c3 hkw hr;obtain⟨n,rfl,hn1,Uf,hin,HBc⟩:=hcut;have HB4:Hid (Bw W3 wc):=hid (HBl.trans (HBc.mono HBl.size));have HR4:=hid (HRw.kept HBc.out);clear HBl HBc HRw;obtain⟨W4,hW4⟩:=eX wc;subst hW4;have hkt:IntKind.i64.wrap ((t:Int)+1)=((t+1:Nat):Int):=(by rw[wrap_i64];omega);go_upto_region 22 with fail
         have P6:=hid (Me4.start W4 (tn:Int));generalize (W4.alloc (.cells #[(tn:Int),(),(),(),()] 50))=w8 at P6 ⊢;obtain⟨g4,hg4⟩:=eX W4.heap.size;simp only[<-hg4]at P6 ⊢;have HG4:=hid hg4;clear hg4 hkt;go_wp2_with fail
         go_loopg[18] n (fun gk s18 wr=>∃(j:Nat) (kA pA:Option Addr) (kc pc:Nat) (P:List ByteArray),gk=n-j/\j<=n/\s18= .int .i64 (j:Int)/\Hid (PvS lo hi i j P)/\Hid (Me4 W4 g4 (tn:Int) (kdS i j) kA kc P pA pc wr))
         case atStart=>exact⟨0,none,none,0,0,[],rfl,Nat.zero_le _,rfl,wT lo hi i (by decide),P6.out⟩
         case round=>
          clear P6;obtain⟨j,kA,pA4,kc,pc4,P4,rfl,hjn,rfl,HPv,HM4⟩:=hrel;by_cases hjl:j<n
          . have Ug:(j:Int)<(n:Int):=by omega
            have d1:wr.cell? ⟨g4,1,none⟩=some (.slice kA j kc):=by
             have:=HM4.box.cell (i:=1) rfl
             rwa [jV]at this
            have hk1:IntKind.i64.wrap ((i:Int)+(j:Int))=(i:Int)+(j:Int):=(by rw[wrap_i64];omega);have hk2:IntKind.i64.wrap ((i:Int)+(j:Int)+1)=(i:Int)+(j:Int)+1:=(by rw[wrap_i64];omega);have hk3:IntKind.u32.wrap ((i:Int)+(j:Int)+1)=(i:Int)+(j:Int)+1:=(by rw[IntKind.wrap_u32];omega);have HW:Hid (W4.heap.size<=wr.heap.size):=hid HM4.bel.size;have hm1:j+1<=1048576:=(by omega);go_upto_region 25 with fail
            clear Ug;go_upto_region 26 with(refine aI (K:=KdK) Tryz.underlying36 I9 rfl (by decide) (by decide) rfl (.tmp 118) (.tmp 124) rfl W4.heap.size kA j kc (kdS i j) rfl (jV i j) (HM4.kd.kept (bJ _ _)) _ 1 (i+j+1) rfl (by exact heap_alloc_new _ _) hm1 (Nat.le_trans HW.out (by simp)) ?_;intro kA5 kc5 w6 HA6;have b6:=((HA6.block g4 (Nat.lt_of_lt_of_le HM4.box.lt (by simp)) fun a ha e=>dJ HM4.kd HM4.box (by decide) (e▸aX ha)).trans (HM4.box.kept (bJ _ _)));have f6:=aH.free (U:=50) b6 1;have d6:=aH.cell (U:=50) (i:=1) b6 rfl;rw[jV]at d6;clear b6)
            have hm6:=HM4.kid (k:=i+j+1) (jc.pre (jF.Gp HA6.out) (bJ _ _) HW.out);rw[jV,<-Jf]at hm6;have HM6:=hid hm6;clear hm6 HA6 HM4 HW d1 f6 d6 hk1 hk2 hk3 hm1;generalize (w6.setCell ⟨g4,1,none⟩ (.slice kA5 (j+1) kc5))=w7 at HM6 ⊢;have hkj:IntKind.i64.wrap ((j:Int)+1)=((j+1:Nat):Int):=(by rw[wrap_i64];omega);rcases Nat.eq_zero_or_pos j with hj0|hj0
            . obtain rfl:j=0:=hj0
              obtain rfl:P4=[]:=length_eq_zero_iff.1 HPv.len;clear hkj;go_wp2_with fail
              go_roundg (n-1)
              case measure=>omega
              case rel=>exact⟨1,kA5,pA4,kc5,pc4,[],rfl,hjl,rfl,wT lo hi i (Nat.le_refl _),HM6.out⟩
            . obtain⟨m,hm⟩:∃m,i+j=m+1:=⟨i+j-1,by omega⟩
              have hj1:(0:Int)<(j:Int):=(by omega);have hb7:=HB4.trans (HM6.bel.mono HB4.size);obtain⟨x,y,pv,po,bg,ag,hx,hy,eb,ea,c1,c2,cC,hl1,hl2,hps⟩:=(HM.kept hb7).two.mid (m:=m) Gc.seg (by rw[HX.2.2.2];omega) (by rw[HX.2.2.1];omega);have HPn:=hid (HPv.next hj0 (a:=x) (b:=y) (p:=pv) (by rw[show i+j-1=m from by omega];exact hx) (by rw[hm];exact hy) hl1 hl2 hps);obtain⟨q,hq⟩:=eX (m+1);rw[<-hq]at c2;clear hx hy hl1 hl2 hps hb7;subst eb ea;have hk1:IntKind.i64.wrap ((i:Int)+(j:Int))=(q:Int):=(by rw[wrap_i64];omega);have hk2:IntKind.i64.wrap ((q:Int)-1)=(m:Int):=(by rw[wrap_i64];omega);have hm1:m<rn:=(by omega);have hm2:q<rn:=(by omega);have y1:=ah.tc c1;have y2:=ah.tc c2;clear c1 c2 hm hq;go_upto_region 27 with fail
              clear hj1;refine ah.aj [] [(0,[]),(1,[]),(2,[]),(3,[]),(4,[]),(5,[]),(6,[]),(7,[]),(8,[]),(9,[]),(10,[]),(11,[]),(12,[]),(13,[]),(14,[]),(15,[]),(16,[]),(17,[]),(18,[])] [] [] (by kernel_rfl) (by kernel_rfl) (by simp) ?_;simp only[ah.pick,ah.aM,dL]
              repeat (refine ah.ak (fun K hK=>?_);go_simp;first|(refine hK _ ?_;clear hK K)|(apply Exists.intro;refine⟨fun q=>?_,hK _ ?_⟩;(go_at_call 57;exact(cC _).out);clear hK K)|(refine⟨_,fun _=>rfl,hK _ ?_⟩;clear hK K))
              refine ah.walk_nil ?_;intro w9 hb9 _;simp only[lC,drop_nil,Nat.zero_add,Nat.reduceAdd];have HM9:=hid (HM6.kept hb9);obtain⟨pl,hpl⟩:=eX P4.length;have HPL:=hid hpl.symm
              have hpj:pl+1=j:=by
               have:=HPv.len;omega
              have d2:w9.cell? ⟨g4,2,none⟩=some (.slice pA4 pl pc4):=by
               have:=HM9.box.cell (i:=2) rfl
               rwa [<-hpl]at this
              have HW9:Hid (W4.heap.size<=w9.heap.size):=hid HM9.bel.size;have hmp:pl+1<=1048576:=(by omega);clear hpl hk1 hk2 hm1 hm2 y1 y2 HM6 hb9;go_upto_region 24 with(refine aI (K:=StK) Tryz.underlying48 oq rfl (by decide) (by decide) rfl (.tmp 147) (.tmp 149) rfl W4.heap.size pA4 pl pc4 P4 rfl HPL.out (HM9.pv.kept (bJ _ _)) _ 1 pv rfl (heap_alloc_new _ _) hmp (Nat.le_trans HW9.out (by simp)) ?_;intro pA5 pc5 w10 Q8;have b10:=((Q8.block g4 (Nat.lt_of_lt_of_le HM9.box.lt (by simp)) fun a ha e=>dJ HM9.pv HM9.box (by decide) (e▸aX ha)).trans (HM9.box.kept (bJ _ _)));have f10:=aH.free (U:=50) b10 2;have d10:=aH.cell (U:=50) (i:=2) b10 rfl;rw[HPL.out]at d10;clear b10)
              have MU:=HM9.piv (p:=pv) (jc.pre (jF.Gp Q8.out) (bJ _ _) HW9.out);rw[HPL.out,hpj]at MU;have Sd:=hid MU;clear MU Q8 HM9 HW9 d2 f10 d10;generalize (w10.setCell ⟨g4,2,none⟩ (.slice pA5 j pc5))=w11 at Sd ⊢;go_wp2_with fail
              go_roundg (n-(j+1))
              case measure=>omega
              case rel=>exact⟨j+1,kA5,pA5,kc5,pc5,P4++[pv],rfl,hjl,rfl,HPn.out,Sd.out⟩
          . have Uh:j=n:=by omega
            subst Uh;obtain⟨pl,hpl⟩:=eX P4.length;have HPL:=hid hpl.symm;have hbx:=HM4.box;rw[jV,<-hpl]at hbx;obtain⟨e0,e1,e2,e3,e4⟩:=bD hbx;have HR5:=hid (HR4.kept HM4.bel);have HW5:Hid (W3.heap.size<=wr.heap.size):=hid (Nat.le_trans HB4.size HM4.bel.size);have hmu:un+1<=1048576:=(by omega);clear hpl hbx;go_upto_region 30 with(refine aI (K:=jD) Tryz.underlying35 wO rfl (by decide) (by decide) rfl (.tmp 152) (.tmp 154) rfl W3.heap.size uA un uc U rfl HU.1 (HR5.row.kept (bJ _ _)) _ 1 (⟨(tn:Int),kdS i j,P4,[],[]⟩,⟨kA,kc,pA4,pc4,none,0,none,0⟩) rfl (by rw[QL (jV _ _) HPL.out];exact heap_alloc_new _ _) hmu (Nat.le_trans HW5.out (by simp)) ?_;intro uA5 uc5 w9 HA9)
            have HR9:=hid (RwS.node4 HR4.out HB4.size HM4.out (jc.pre (jF.Gp HA9.out) (bJ _ _) HW5.out));have HB9:Hid (Bw W3 w9):=hid (((HB4.trans (HM4.bel.mono HB4.size)).trans ((bJ _ _).mono HW5.out)).trans HA9.below);clear HA9 HR5 HW5 HM4 e0 e1 e2 e3 e4;obtain⟨e,he⟩:∃e,i+j=e+1:=⟨i+j-1,by omega⟩
            obtain⟨q,hq⟩:=eX (i+j);have hM9:=HM.kept HB9.out;obtain⟨x,y,ag,bg,hx,hy,ea,eb,c1,c2⟩:=hM9.two.out (i:=i) (e:=e) (by rw[HX.2.2.1];omega) (by rw[HX.2.2.2];omega);have Q9:=(HM.two.v1.at_ _ ea).2;have Ra:=(HM.two.v2.at_ _ eb).2;simp only at Q9 Ra
            have hS3:∀k,k∈tA eA++tA fA->k<w9.heap.size:=fun k hk=>by
             rcases mem_append.1 hk with hk|hk
             . obtain⟨a,ha,rfl⟩:=bU hk
               exact(HR9.two.v1.at_ a ha).2
             . obtain⟨a,ha,rfl⟩:=bU hk
               exact(HR9.two.v2.at_ a ha).2
            have hnot:∀z,z<W3.heap.size->z∉tA eA++tA fA:=fun z hz hh=>by
             rcases mem_append.1 hh with hk|hk
             . obtain⟨a,ha,e⟩:=bU hk
               have:=(HR9.two.v1.at_ a ha).1;omega
             . obtain⟨a,ha,e⟩:=bU hk
               have:=(HR9.two.v2.at_ a ha).1;omega
            have y1:=fun q:ah.aQ (tA eA++tA fA) w9 []=>cell c1 (hnot ag Q9) q;have y2:=fun q:ah.aQ (tA eA++tA fA) w9 []=>cell c2 (hnot bg Ra) q;have HXY:=hid (And.intro hx hy);subst ea eb;have hk1:IntKind.i64.wrap ((i:Int)+(j:Int))=(q:Int):=(by rw[wrap_i64];omega);have hk2:IntKind.i64.wrap ((q:Int)-1)=(e:Int):=(by rw[wrap_i64];omega);have hm2:e<rn:=(by omega);have Rb:Hid (W3.heap.size<=w9.heap.size):=hid HB9.size;have HQ:=hid hq;have HE:=hid he;clear hM9 hx hy Q9 Ra hnot c1 c2 hq he;refine ah.aj (tA eA++tA fA) [(0,[]),(1,[]),(2,[]),(3,[]),(4,[]),(7,[]),(8,[]),(9,[]),(10,[]),(11,[]),(12,[]),(13,[]),(14,[]),(5,[15]),(6,[15]),(15,[]),(16,[]),(17,[]),(18,[])] [6,16] [5,15] (by kernel_rfl) (by kernel_rfl) hS3 ?_;clear hS3;simp only[ah.pick,ah.aM,dL,List.filterMap_cons]
            repeat (refine ah.ak (fun K hK=>?_);go_simp;(refine hK _ ?_;clear hK K))
            refine ah.bP rfl (ah.dY rfl (fun b=> .slice (some (b:Nat)) 1 1) (.cells #[.string y] 9) (fun W=>by go_simp) fun _ _=>ah.aC) (fun b=> .slice (some (b:Nat)) 1 1) (.cells #[.string x] 9) (fun W=>by go_simp) (fun p1 hp1 hT1=>?_);refine ah.aJ rfl (ah.dY rfl (fun b=> .slice (some (b:Nat)) 1 1) (.cells #[.string y] 9) (fun W=>by go_simp) fun _ _=>ah.aC) (uz StK W3.heap.size w9 eA (un+1) (a++[x])) (fun W2 hk hl2=>?_) (fun v w10 hv hI _ hTd=>?_)
            . exact gF (K:=StK) Tryz.underlying48 oq rfl (by decide) (by decide) (.tmp 156) (.tmp 161) rfl W3.heap.size eA un ec a rfl HU.2.1 HR9.two.v1 hk p1 1 x rfl (hl2 (p1,.cells #[.string x] 9) (by simp)) hmu Rb.out (fun a ha=>List.mem_append_left _ (aX ha))
            obtain⟨eA6,ec6,rfl,hd6⟩:=hv;have HD6:=hid hd6;have J9:Hid (VK StK w10 W3.heap.size fA fc b):=hid (HR9.two.v2.keep fun b hb=>hd6.block _ (HR9.two.v2.at_ b hb).2 fun a ha e=>HR9.two.ne a b ha hb e);have HL6:Hid (W3.heap.size<=w10.heap.size):=hid (Nat.le_trans Rb.out hd6.below.size);clear hI hd6 hTd hT1;refine ah.bP rfl ah.aC (fun b=> .slice (some (b:Nat)) 1 1) (.cells #[.string y] 9) (fun W=>by go_simp) (fun p2 hp2 hT2=>?_);refine ah.aJ rfl ah.aC (uz StK W3.heap.size w10 fA (un+1) (b++[y])) (fun W2 hk hl2=>?_) (fun v w11 hv hI _ hTd=>?_)
            . exact gF (K:=StK) Tryz.underlying48 oq rfl (by decide) (by decide) (.tmp 163) (.tmp 171) rfl W3.heap.size fA un fc b rfl HU.2.2 J9.out hk p2 1 y rfl (hl2 (p2,.cells #[.string y] 9) (by simp)) hmu HL6.out (fun a ha=>List.mem_append_right _ (aX ha))
            obtain⟨fA7,fc7,rfl,hd7⟩:=hv;have HD7:=hid hd7;clear hI hd7 hTd hT2
            repeat (refine ah.ak (fun K hK=>?_);go_simp;first|(refine hK _ ?_;clear hK K)|(refine⟨_,fun _=>rfl,hK _ ?_⟩;clear hK K))
            refine ah.walk_nil ?_;intro w12 Ka _;have Ui:=hid ((HR9.ends HD6.out HD7.out).kept Ka);have MH:Hid (Bw W3 w12):=hid (((HB9.trans HD6.below).trans HD7.below).trans (Ka.mono (Nat.le_trans HL6.out HD7.below.size)));clear Ka HD6 HD7 J9 HL6 HR9 HB9 Rb y1 y2 hk2 hm2;simp only[lC,drop_nil,Nat.zero_add,Nat.reduceAdd];go_wp2_with fail
            go_roundg (rn-(i+j))
            case measure=>omega
            case rel=>
             obtain rfl:=HQ.out;have he:=HE.out;have hup:=HUp.next Gc.seg (by omega) Uf (by rw[HX.2.2.1];exact hin) (by rw[HX.2.2.1];omega) HPv.out HXY.1 (by rw[show i+j-1=e from by omega];exact HXY.2);refine⟨U++[((⟨(tn:Int),kdS i j,P4,[],[]⟩:Nd),(⟨kA,kc,pA4,pc4,none,0,none,0⟩:At))],a++[x],b++[y],uA5,eA6,fA7,uc5,ec6,fc7,un+1,i+j,t+1,rfl,by omega,rfl,by omega,rfl,rfl,rfl,rfl,by omega,⟨by rw[length_append,HU.1];rfl,by rw[length_append,HU.2.1];rfl,by rw[length_append,HU.2.2];rfl⟩,?_,MH.out,Ui.out⟩;rw[map_append];exact hup
      . obtain rfl:i=rn:=by omega
        have hU0:=HUp.pos (by omega);rw[length_map,HU.1]at hU0;have HSl:Hid (S.length=tn):=hid (by rw[HM.tr.len,HX.2.1]);have HM4:=hid (HM.kept HBl.out);have hm1:tn+1<=1048576:=(by omega);have HW4:Hid (w.heap.size<=wr.heap.size):=hid HM4.cx.below.size;clear HCu HD cMs;go_wp2_with (refine aI (K:=SsK) Tryz.underlying31 QI rfl (by decide) (by decide) rfl (.tmp 179) (.tmp 181) rfl w.heap.size oA tn oc S rfl HSl.out (HM4.tr.row.kept (bAx)) _ 1 (uA,un,uc) rfl (heap_alloc_new _ _) hm1 (Nat.le_trans HW4.out (by simp)) ?_;intro oA5 oc5 w6 HA6)
        have HM6:Hid (Me2 w #[cB,cY,cF,(F:Int),cU,(Lf:Int),cKy,cV] #[.slice pA pn pc,.slice mA mn mc,.slice dA dn dc,.slice cA cn cc] (S++[(uA,un,uc)]) oA5 oc5 (TT++[U]) U uA uc a eA ec b fA fc w6):=hid (by
         have h6:=jF.Gp HA6.out;have hb:=HBl.trans (bJ wr (.cells #[.slice uA un uc] 35) |>.mono HBl.size);have hr:=HRw.kept (bJ wr (.cells #[.slice uA un uc] 35));obtain rfl:=HU.1
         exact HM.app hb hr h6)
        clear HA6 HM4 HRw HW4
        go_roundg (5-tn)
        case measure=>omega
        case rel=>
         have hnl:(nds TT).length=tn:=(by rw[dW,HX.2.1]);have hL:=Gc.next (U:=U.map (·.1)) (a:=a) (b:=b) (by rw[hnl,HX.2.2.1];exact HUp.out) (by have:=HX.2.2.1;have:=hgo.1;omega);have hnd:nds (TT++[U])=nds TT++[U.map (·.1)]:=(by unfold nds;rw[map_append];rfl);rw[<-hnd]at hL;exact⟨S++[(uA,un,uc)],TT++[U],U,a,b,uA,eA,fA,oA5,uc,ec,fc,oc5,un,t,tn+1,by omega,by omega,by omega,rfl,rfl,rfl,rfl,by omega,rfl,hU0,by omega,⟨HU.1,by rw[length_append,HX.2.1];rfl,HU.2.1,HU.2.2⟩,hL,HM6.out⟩
   . have HLo:=hid HX.2.2.1
     have HTn:=hid HX.2.1;by_cases hone:rn<=1
     . obtain rfl:rn=1:=by omega
       have c0:wr.cell? ⟨g,0,none⟩=some (.int .i64 cB):=(by rw[HG.out];exact HM.cx.c.cell (i:=0) rfl);have c1:wr.cell? ⟨g,1,none⟩=some (.int .i64 cY):=(by rw[HG.out];exact HM.cx.c.cell (i:=1) rfl);have c2:wr.cell? ⟨g,2,none⟩=some (.int .i64 cF):=(by rw[HG.out];exact HM.cx.c.cell (i:=2) rfl);have c3:wr.cell? ⟨g,3,none⟩=some (.int .i64 (F:Int)):=(by rw[HG.out];exact HM.cx.c.cell (i:=3) rfl);have c4:wr.cell? ⟨g,4,none⟩=some (.int .i64 cU):=(by rw[HG.out];exact HM.cx.c.cell (i:=4) rfl);have c5:wr.cell? ⟨g,5,none⟩=some (.int .i64 (Lf:Int)):=(by rw[HG.out];exact HM.cx.c.cell (i:=5) rfl);have c6:wr.cell? ⟨g,6,none⟩=some (.int .i64 cKy):=(by rw[HG.out];exact HM.cx.c.cell (i:=6) rfl);have c7:wr.cell? ⟨g,7,none⟩=some (.int .i64 cV):=(by rw[HG.out];exact HM.cx.c.cell (i:=7) rfl);have x0:wr.cell? ⟨g+1,0,none⟩=some (.slice pA pn pc):=(by rw[HG.out];exact HM.cx.x.cell (i:=0) rfl);have x1:wr.cell? ⟨g+1,1,none⟩=some (.slice mA mn mc):=(by rw[HG.out];exact HM.cx.x.cell (i:=1) rfl);have x2:wr.cell? ⟨g+1,2,none⟩=some (.slice dA dn dc):=(by rw[HG.out];exact HM.cx.x.cell (i:=2) rfl);have x3:wr.cell? ⟨g+1,3,none⟩=some (.slice cA cn cc):=(by rw[HG.out];exact HM.cx.x.cell (i:=3) rfl);clear hgo;go_upto_region 36 with fail
       have hTt:=HM.tr;have HTR:Hid (TrW wr w.heap.size oA oc S TT):=hid hTt;have hLw:=Gc.wf (by rw[HLo.out];exact Nat.le_refl _) (by rw[dW,HTn.out];omega);have HWF:=hid (And.intro hLw.1 hLw.2.1);have HLA:=hid hLw.2.2.1;have hS3:∀k,k∈rwS S->k<wr.heap.size:=fun k hk=>(hTt.rws hk).2
       have hbw:=HM.cx.below;have HBW:=hid hbw
       have hg1:g∉rwS S:=fun hh=>by
        have h3:=(hTt.rws hh).1;rw[HG.out]at hh;obtain⟨s,hs,hx⟩:=List.mem_flatMap.1 hh;obtain⟨k,hk⟩:=List.getElem?_of_mem hs;obtain⟨T,hT⟩:∃T,TT[k]? =some T:=⟨_,List.getElem?_eq_getElem (by rw[<-hTt.len];exact(List.getElem?_eq_some_iff.1 hk).1)⟩
        exact dJ (hTt.rows k s T hk hT).2 HM.cx.c (by decide) hx
       have hg2:g+1∉rwS S:=fun hh=>by
        rw[HG.out]at hh;obtain⟨s,hs,hx⟩:=List.mem_flatMap.1 hh;obtain⟨k,hk⟩:=List.getElem?_of_mem hs;obtain⟨T,hT⟩:∃T,TT[k]? =some T:=⟨_,List.getElem?_eq_getElem (by rw[<-hTt.len];exact(List.getElem?_eq_some_iff.1 hk).1)⟩
        exact dJ (hTt.rows k s T hk hT).2 HM.cx.x (by decide) hx
       have yc0:=fun q:ah.aQ (rwS S) wr []=>cell c0 hg1 q;have yc1:=fun q:ah.aQ (rwS S) wr []=>cell c1 hg1 q;have yc2:=fun q:ah.aQ (rwS S) wr []=>cell c2 hg1 q;have yc3:=fun q:ah.aQ (rwS S) wr []=>cell c3 hg1 q;have yc4:=fun q:ah.aQ (rwS S) wr []=>cell c4 hg1 q;have yc5:=fun q:ah.aQ (rwS S) wr []=>cell c5 hg1 q;have yc6:=fun q:ah.aQ (rwS S) wr []=>cell c6 hg1 q;have yc7:=fun q:ah.aQ (rwS S) wr []=>cell c7 hg1 q;have yx0:=fun q:ah.aQ (rwS S) wr []=>cell x0 hg2 q;have yx1:=fun q:ah.aQ (rwS S) wr []=>cell x1 hg2 q;have yx2:=fun q:ah.aQ (rwS S) wr []=>cell x2 hg2 q;have yx3:=fun q:ah.aQ (rwS S) wr []=>cell x3 hg2 q;clear c0 c1 c2 c3 c4 c5 c6 c7 x0 x1 x2 x3 hg1 hg2 hTt hLw hbw HCu;refine ah.aj (rwS S) [(0,[]),(1,[]),(2,[]),(4,[]),(5,[]),(6,[]),(7,[]),(3,[]),(8,[]),(9,[])] [3,8] [] (by kernel_rfl) (by kernel_rfl) hS3 ?_;clear hS3;simp only[ah.pick,ah.aM,dL]
       repeat (refine ah.ak (fun K hK=>?_);go_simp;(refine hK _ ?_;clear hK K))
       refine ah.aJ rfl ah.aC (TK w.heap.size mn wr) (fun W2 hk9 _=>?_) (fun v w5 hv hI _ hTd=>?_)
       . go_simp
         go_at_call 59
         refine(cMs W2 (HBW.trans ((show Bw wr W2 from hk9).mono HBW.size))).mono ?_;rintro e w' ⟨⟨A2,c2,L,rfl,h1,h2,h3,h5⟩,h4⟩;exact⟨_,rfl,⟨A2,c2,L,rfl,h1.mono (Nat.le_trans HBW.size hk9.size),h2,h3,h5,(show Bw wr W2 from hk9).trans (h4.mono hk9.size)⟩,Flow.Into.of_below h4⟩
       obtain⟨mA5,mc5,L5,rfl,hm5,hml,hms,Sg,hb5⟩:=hv;obtain⟨ml5,P7⟩:=eX L5.length;have HML:=hid P7;rw[<-P7];rw[<-P7]at hml Sg;have HM5:=hid hm5;have HMS:=hid hms;have HB5:=hid hb5;clear hm5 hms hb5 hI hTd P7;refine ah.aJ rfl ah.aC (TL w.heap.size mn wr (nds TT) S oA oc tn) (fun W2 hk9 _=>?_) (fun v w6 hv hI _ hTd=>?_)
       . go_simp
         have hb2:=HB5.trans ((show Bw w5 W2 from hk9).mono HB5.size);have hsz:=Nat.le_trans HBW.size hb2.size;have hT2:=HTR.FI hb2;have hd2:=(HD.below HBW.out).below hb2;have hp:=FC (cd:=dc) hT2 hsz HWF.1 HWF.2 HLA.out (HM5.kept hk9) (by rw[<-HML.out];exact hml) HMS.out hd2 (fun a h0 ha=>HD.lt h0 a ha) cU;rw[HTn.out,<-HML.out,<-HDN.out]at hp;refine hp.mono ?_;rintro e w' ⟨rfl,⟨TT',h1,h2,h3⟩,h4⟩;exact⟨_,rfl,⟨rfl,TT',ml5,h1,h2,h3,⟨hml,Sg⟩,(hb2.mono HBW.size).trans (hT2.into hsz h4)⟩,h4⟩
       obtain⟨rfl,TT',k5,hT',hl',hL',hk',hb'⟩:=hv;have HT':=hid (And.intro hT' (And.intro hl' (And.intro hL' (And.intro hk' hb'))));clear hI hTd hT' hl' hL' hk' hb'
       repeat (refine ah.ak (fun K hK=>?_);go_simp;first|(refine hK _ ?_;clear hK K)|(refine⟨_,fun _=>rfl,hK _ ?_⟩;clear hK K))
       refine ah.walk_nil ?_;intro w7 hb7 _;simp only[lC,drop_nil,Nat.zero_add,Nat.reduceAdd];go_wp2_with fail
       go_ret
       have hT7:=HT'.1.FI hb7;have hbe:=HT'.2.2.2.2;refine⟨⟨TT',S,oA,oc,L0,nds TT,lo,hi,k5,by (show Ending.returned (.slice oA tn oc)=_);rw[HT'.2.1],hT7,HL0.1,Gc.out,by rw[HLo.out];exact Nat.le_refl _,by rw[dW,HTn.out];omega,HT'.2.2.1,HT'.2.2.2.1,HL0.2.2.2⟩,(HBW.trans hbe).trans (hb7.mono (Nat.le_trans HBW.size hbe.size))⟩
     . have hg1:(1:Int)<(rn:Int):=by omega
       have hg2:¬(tn:Int)<6:=(by omega);clear hgo hone HCu HD cMs;have HBW:=hid HM.cx.below;go_wp2_with fail
       go_ret
       refine⟨⟨[[(⟨0,[],[],[],[]⟩,⟨none,0,none,0,none,0,none,0⟩)]],_,_,1,[],[[⟨0,[],[],[],[]⟩]],_,_,0,rfl,TrW.void wr HBW.size,.nil,LfS.empty.lay (Nat.le_refl _) (by decide),by decide,by decide,Lad.start fun j T n hT hn=>?_,⟨by decide,Nat.zero_le _⟩,Nat.zero_le _⟩,HBW.trans (((Below.refl _ _).alloc HBW.size _).alloc (by have:=HBW.size;simp;omega) _)⟩;have hj:=(List.getElem?_eq_some_iff.1 hT).1;obtain rfl:j=0:=(by simpa using hj);(cases hT);obtain rfl:=List.mem_singleton.1 hn;rfl
end Sk
end Go.Proofs.YtmcbidhpkpmalaaGreatDoor
