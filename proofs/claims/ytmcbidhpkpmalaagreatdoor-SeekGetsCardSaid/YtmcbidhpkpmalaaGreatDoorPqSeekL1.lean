import Derived.Test.YtmcbidhpkpmalaaGreatDoorPkBL
set_option maxHeartbeats 4000000
set_option maxRecDepth 100000
namespace Go.Proofs.YtmcbidhpkpmalaaGreatDoor
open Go.RowKit
open Go.Lib (hid)
open ah (dL)
open IntKind (wrap_i64)
open List (drop_nil)
namespace Sk
open Mem Lx Bu Lf Fa No Sh Bt Po
structure Sp where
 pA:Option Addr
 pc:Nat
 P:List Pr
 mA:Option Addr
 mc:Nat
 M:List Mg
 dA:Option Addr
 dc:Nat
 D:List UInt8
 cA:Option Addr
 cc:Nat
 C:List UInt8
def jE(x:Sp):Array Value:= #[.slice x.pA x.P.length x.pc,.slice x.mA x.M.length x.mc,.slice x.dA x.D.length x.dc,.slice x.cA x.C.length x.cc]
structure SpW(w:World)(x:Sp):Prop where
 p:RdK PrK w x.pA x.P
 m:RdK MgK w x.mA x.M
 d:BL w x.dA x.D
 c:BL w x.cA x.C
theorem SpW.kept{w w':World}{x:Sp}(h:SpW w x)(hb:Bw w w'):SpW w' x:=⟨h.p.kept hb,h.m.kept hb,h.d.below hb,h.c.below hb⟩
def cutV(C:List UInt8)(i most:Nat):Nat:=if C.length=0 then most else 1+((C[i % C.length]?).getD 0).toNat % most
theorem MF(C:List UInt8)(i most:Nat)(h:1<=most):1<=cutV C i most/\cutV C i most<=most:=by unfold cutV;split;(. exact⟨h,Nat.le_refl _⟩);. have:=Nat.mod_lt ((C[i % C.length]?).getD 0).toNat (show most>0 by omega);omega
theorem MG{w:World}{x:Sp}(h:SpW w x)(i most:Nat)(h1:1<=most)(h2:most<=1000000):CB 56 #[.agg (jE x),(i:Int),(most:Int)] w (.int .i64 (cutV x.C i most:Int)):=by obtain⟨V,hV⟩:=eX (cutV x.C i most);rw[<-hV];unfold cutV at hV;obtain⟨pA,pc,P,mA,mc,M,dA,dc,D,cA,cc,C⟩:=x;have hc:=h.c;simp only at hc;unfold jE;simp only;obtain⟨cn,hcn⟩:=eX C.length;have hb1:Bw w (w.alloc (.cells #[.slice pA P.length pc,.slice mA M.length mc,.slice dA D.length dc,.slice cA C.length cc] 28)):=bAx;have hx1:=aH.new 28 w #[.slice pA P.length pc,.slice mA M.length mc,.slice dA D.length dc,.slice cA C.length cc];generalize P.length=pn at*;generalize M.length=mn at*;generalize D.length=dn at*;rw[<-hcn]at hx1 hb1 ⊢;have HB1:=hid hb1;have HX1:=hid hx1;have hc1:=hc.keep (w':=w.alloc (.cells #[.slice pA pn pc,.slice mA mn mc,.slice dA dn dc,.slice cA cn cc] 28)) fun h0 a ha=>hb1.block _ (hc.lt h0 a ha);clear h hx1 hb1 hc;by_cases h0:cn=0;(. (have hz:((cn:Int)==0)=true:=by simp[h0]);(have hVm:V=most:=by rw[hV];exact if_pos (by simp only;omega));subst hVm;clear hV;clear hc1 hcn h0;go_enter Tryz.func56,Tryz.ntmps56;go_upto_region 1 with fail;generalize w.alloc (.cells #[.slice pA pn pc,.slice mA mn mc,.slice dA dn dc,.slice cA cn cc] 28)=w1 at*;have c3:=HX1.cell (i:=3) rfl;go_wp2_with fail;go_ret;exact⟨rfl,HB1.out⟩);. (have hz:((cn:Int)==0)=false:=by simpa using h0);have hil:i % cn<C.length:=(by rw[<-hcn];exact Nat.mod_lt _ (by omega));obtain⟨b,o,e,cd⟩:=hc1.at_ hil;subst e;(have hVm:V=1+(C[i % cn]).toNat % most:=by rw[hV,if_neg (by simp only;omega)];simp only;rw[<-hcn,List.getElem?_eq_getElem hil,Option.getD_some]);clear hV;generalize C[i % cn]=y at*;have hyl:y.toNat<=255:=(by have:=UInt8.toNat_lt y;omega);obtain⟨yn,hyn⟩:=eX y.toNat;rw[<-hyn]at cd hyl hVm;have hyw:IntKind.i64.wrap (yn:Int)=(yn:Int):=(by rw[wrap_i64];omega);have t1:(i:Int).tmod (cn:Int)=((i % cn:Nat):Int):=rfl;have t2:(yn:Int).tmod (most:Int)=((yn % most:Nat):Int):=rfl;have z1:(cn:Int)≠0:=(by omega);have z2:(most:Int)≠0:=(by omega);have z3:cn≠0:=h0;have z4:most≠0:=(by omega);have hlt:=Nat.mod_lt yn (show most>0 by omega);rw[<-hcn]at hil;generalize i % cn=ix at*;generalize yn % most=r at*;have hrw:IntKind.i64.wrap (1+(r:Int))=((1+r:Nat):Int):=(by rw[wrap_i64];omega);subst hVm;clear hc1 hcn h0 hyn hlt;go_enter Tryz.func56,Tryz.ntmps56;go_upto_region 1 with fail;generalize w.alloc (.cells #[.slice pA pn pc,.slice mA mn mc,.slice dA dn dc,.slice (some ⟨b,o,none⟩) cn cc] 28)=w1 at*;have c3:=HX1.cell (i:=3) rfl;go_upto_region 3 with fail;have y3:=ah.tc c3;have yc:=ah.tc cd;clear c3 cd;refine ah.aj [] [(0,[]),(1,[]),(2,[]),(3,[]),(4,[]),(5,[]),(6,[]),(7,[]),(8,[]),(9,[]),(10,[]),(11,[]),(12,[]),(13,[])] [] [] (by kernel_rfl) (by kernel_rfl) (by simp) ?_;simp only[ah.pick,ah.aM,dL];(repeat (refine ah.ak (fun K hK=>?_);go_simp;(refine hK _ ?_;clear hK K)));refine ah.walk_nil ?_;intro w3 hb _;simp only[lC,drop_nil,Nat.zero_add,Nat.reduceAdd];have HB3:Hid (Bw w w3):=HB1.trans (hb.mono HB1.size);go_wp2_with fail;go_ret;exact⟨rfl,HB3.out⟩
structure CxB(W:World)(X Y:Array Value)(w:World):Prop where
 below:Bw W w
 c:aH 23 w W.heap.size X
 x:aH 28 w (W.heap.size+1) Y
theorem CxB.kept{W w w':World}{X Y:Array Value}(h:CxB W X Y w)(hb:Bw w w'):CxB W X Y w':=⟨h.below.trans (hb.mono h.below.size),h.c.kept hb,h.x.kept hb⟩
theorem CxB.new(W:World)(X Y:Array Value):CxB W X Y ((W.alloc (.cells X 23)).alloc (.cells Y 28)):=⟨(eY _ _ _).2.2,(eY _ _ _).1,(eY _ _ _).2.1⟩
def Ub{α:Type}(K:Kind α)(B n:Nat)(W:World)(X:List α)(v:Value)(w:World):Prop:=∃A' c',v= .slice A' n c'/\VK K w B A' c' X/\Bw W w
theorem JE{w:World}{c:Cfg}{x:Sp}(h:SpW w x)(hk:∀(i:Nat) (p:Pr),i<150->x.P[i]? =some p->p.1.size<=200):Calls Tryz.prog 55 #[.agg (bC c),.agg (jE x)] w fun e w'=>(∃A' c' L,e=.returned (.slice A' L.length c')/\VK PrK w' w.heap.size A' c' L/\PRi L/\L.length<=150/\(∀p,p∈L->p.1.size<=200)/\L.length<=x.P.length)/\Bw w w':=by have HP:=hid h.p;have HK:=hid hk;have cK:∀(key:ByteArray) (w:World),Hid (CB 95 #[.agg (bC c),.string key] w (.bool (nH c key))):=fun key w=>zy c key w;generalize nH c=kb at*;have HC:=hid (CxB.new w (bC c) (jE x));obtain⟨pA,pc,P,mA,mc,M,dA,dc,D,cA,cc,C⟩:=x;obtain⟨cB,cY,cF,cN,cU,cL,cKy,cV⟩:=c;unfold bC jE at*;simp only at*;obtain⟨pn,hpn⟩:=eX P.length;have HPN:=hid hpn;rw[<-hpn]at HC ⊢;generalize M.length=mn at*;generalize D.length=dn at*;generalize C.length=cn at*;clear h hk hpn;go_enter Tryz.func55,Tryz.ntmps55;go_upto_region 1 with fail;generalize (w.alloc (.cells #[cB,cY,cF,cN,cU,cL,cKy,cV] 23)).alloc (.cells #[.slice pA pn pc,.slice mA mn mc,.slice dA dn dc,.slice cA cn cc] 28)=w1 at*;obtain⟨g,hg⟩:=eX w.heap.size;have HG:=hid hg;simp only[<-hg];clear hg;go_upto_region 3 with fail;have hv1:VK PrK (w1.alloc (.cells #[] 71)) w.heap.size (some ⟨w1.heap.size,0,none⟩) 0 []:=VK.lit w1 w.heap.size HC.below.size;replace HC:=hid (HC.kept ((Below.refl w1.heap.size w1).alloc (Nat.le_refl _) (.cells #[] 71)));generalize w1.alloc (.cells #[] 71)=w2 at*;generalize w1.heap.size=g1 at*;have HV:=hid hv1;clear hv1;go_loopg[5,6] 150 (fun gk s5 s6 wr=>∃(k:Nat) (L:List Pr) (A':Option Addr) (c' ln:Nat),k<=150/\gk=150-k/\s5= .slice A' ln c'/\s6= .int .i64 (k:Int)/\(ln<=k/\k<=pn)/\Hid (L.length=ln)/\Hid (VK PrK wr w.heap.size A' c' L)/\Hid (PRi L)/\Hid (∀p,p∈L->p.1.size<=200)/\Hid (CxB w #[cB,cY,cF,cN,cU,cL,cKy,cV] #[.slice pA pn pc,.slice mA mn mc,.slice dA dn dc,.slice cA cn cc] wr));(case atStart=>exact⟨0,[],some ⟨g1,0,none⟩,0,0,by decide,rfl,rfl,rfl,⟨Nat.le_refl _,Nat.zero_le _⟩,rfl,HV.out,.nil,(fun p hp=>by cases hp),HC.out⟩);case round=>clear HV HC;obtain⟨k,L,A',c',ln,hk,rfl,rfl,rfl,⟨hln,hkp⟩,HL,HV,HR,HS,HC⟩:=hrel;(have x0:wr.cell? ⟨g+1,0,none⟩=some (.slice pA pn pc):=by rw[HG.out];exact HC.x.cell (i:=0) rfl);by_cases hlt:k<pn/\k<150;(. obtain⟨hlt1,hlt2⟩:=hlt;obtain⟨p,hp⟩:∃p,P[k]? =some p:=⟨_,List.getElem?_eq_getElem (by rw[<-HPN.out];exact hlt1)⟩;obtain⟨b,o,e,-,p0,p1⟩:=RdK.pair (HP.below HC.below (Nat.le_refl _)) hp;subst e;have hps:=HK.out k p hlt2 hp;have cK2:=cK p.1;obtain⟨c0,c1,c2,c3,c4,c5,c6,c7⟩:=aU (show wr.heap[w.heap.size]? =some (.cells #[cB,cY,cF,cN,cU,cL,cKy,cV] 23 (0,0))from HC.c);rw[<-HG.out]at c0 c1 c2 c3 c4 c5 c6 c7;have hw2:IntKind.i64.wrap ((k:Int)+1)=((k+1:Nat):Int):=(by rw[wrap_i64];omega);have HPP:=hid (And.intro hp hps);obtain⟨kv,hkv⟩:=eX (kb p.1);rw[<-hkv]at cK2;obtain⟨key,val⟩:=p;simp only at p0 p1 cK2;have yc0:=ah.tc c0;have yc1:=ah.tc c1;have yc2:=ah.tc c2;have yc3:=ah.tc c3;have yc4:=ah.tc c4;have yc5:=ah.tc c5;have yc6:=ah.tc c6;have yc7:=ah.tc c7;have yx0:=ah.tc x0;have yp0:=ah.tc p0;have yp1:=ah.tc p1;clear hp hps cK hkv;go_upto_region 5 with fail;clear c0 c1 c2 c3 c4 c5 c6 c7 p0 p1 x0;have HTT:Hid True:=trivial;cases kv with|false=>refine ah.aj [] [(0,[]),(1,[]),(2,[]),(3,[]),(4,[]),(5,[]),(6,[]),(7,[]),(8,[]),(9,[]),(10,[]),(11,[]),(12,[]),(13,[]),(14,[]),(15,[]),(16,[]),(17,[]),(18,[]),(19,[])] [] [] (by kernel_rfl) (by kernel_rfl) (by simp) ?_;simp only[ah.pick,ah.aM,dL];(repeat (refine ah.ak (fun K hK=>?_);go_simp;first|(refine hK _ ?_;clear hK K)|(apply Exists.intro;refine⟨fun q=>?_,hK _ ?_⟩;(go_at_call 95;exact(cK2 _).out);clear hK K)));refine ah.walk_nil ?_;intro w3 hb _;simp only[lC,drop_nil,Nat.zero_add,Nat.reduceAdd];have HC3:=hid (HC.kept hb);have HV3:=hid (HV.kept hb);clear yc0 yc1 yc2 yc3 yc4 yc5 yc6 yc7 yx0 yp0 yp1 hb HC HV;clear HTT;go_wp2_with fail;go_roundg (150-(k+1));(case measure=>omega);case rel=>exact⟨k+1,L,A',c',ln,hlt2,rfl,rfl,by go_num,by omega,HL,HV3,HR,HS,HC3⟩|true=>by_cases hle:(val.size:Int)<=cV;(. refine ah.aj [] [(0,[]),(1,[]),(2,[]),(3,[]),(4,[]),(5,[]),(6,[]),(7,[]),(8,[]),(9,[]),(10,[]),(11,[]),(12,[]),(13,[]),(14,[]),(15,[]),(16,[]),(17,[]),(18,[]),(19,[])] [] [] (by kernel_rfl) (by kernel_rfl) (by simp) ?_;simp only[ah.pick,ah.aM,dL];(repeat (refine ah.ak (fun K hK=>?_);go_simp;first|(refine hK _ ?_;clear hK K)|(apply Exists.intro;refine⟨fun q=>?_,hK _ ?_⟩;(go_at_call 95;exact(cK2 _).out);clear hK K)));refine ah.walk_nil ?_;intro w3 hb _;simp only[lC,drop_nil,Nat.zero_add,Nat.reduceAdd];have HC3:=hid (HC.kept hb);have HV3:=hid (HV.kept hb);clear yc0 yc1 yc2 yc3 yc4 yc5 yc6 yc7 yx0 yp0 yp1 hb HC HV;(have x0:w3.cell? ⟨g+1,0,none⟩=some (.slice (some ⟨b,o,none⟩) pn pc):=by rw[HG.out];exact HC3.x.cell (i:=0) rfl);obtain⟨b2,o2,e2,-,p0,p1⟩:=RdK.pair (HP.below HC3.below (Nat.le_refl _)) HPP.1;(cases e2);simp only at p0 p1;obtain⟨L2,hL2⟩:=eX (Bl L key val);(have hl2:L2.length<=ln+1:=by rw[hL2,<-HL.out];exact zR _ _ _);(have HP2:Hid (PRi L2/\∀p,p∈L2->p.1.size<=200):=by rw[hL2];refine⟨HR.put key val,fun p hp=>?_⟩;rcases o8.1 hp with rfl|⟨h1,-⟩;(. exact HPP.2);. exact HS.out p h1);(have cP:∀W2,Bw w3 W2->Hid (Calls Tryz.prog 82 #[.slice A' ln c',.string key,.string val] W2 fun e w'=>(∃A2 c2,e=.returned (.slice A2 L2.length c2)/\VK PrK w' W2.heap.size A2 c2 L2)/\Bw W2 w'):=fun W2 hb=>by have h1:=sJ (c:=c') (HV3.kept hb).rd key val (fun x hx=>Nat.le_trans (HS.out x hx) (by decide)) (by rw[HL.out];omega);rw[HL.out,<-hL2]at h1;exact h1);obtain⟨l2n,Q0⟩:=eX L2.length;have HL2:=hid Q0.symm;simp only[<-Q0]at cP hl2;have yx0:=ah.tc x0;have yp0:=ah.tc p0;have yp1:=ah.tc p1;clear x0 p0 p1 hL2 Q0 hle HPP HR HS HL;go_upto_region 6 with fail;refine ah.aj [] [(0,[]),(1,[]),(2,[]),(3,[]),(4,[]),(5,[]),(6,[]),(7,[]),(8,[]),(9,[]),(10,[]),(11,[]),(12,[]),(13,[]),(14,[])] [13] [] (by kernel_rfl) (by kernel_rfl) (by simp) ?_;simp only[ah.pick,ah.aM,dL];(repeat (refine ah.ak (fun K hK=>?_);go_simp;(refine hK _ ?_;clear hK K)));refine ah.aJ rfl ah.aC (Ub PrK w.heap.size l2n w3 L2) (fun W2 hk9 _=>?_) (fun v w4 hv hI _ hTd=>?_);(. go_simp;go_at_call 82;refine(cP W2 hk9).mono ?_;rintro e w' ⟨⟨A2,c2,rfl,h1⟩,h2⟩;exact⟨_,rfl,⟨A2,c2,rfl,h1.mono (Nat.le_trans HC3.below.size hk9.size),(show Bw w3 W2 from hk9).trans (h2.mono hk9.size)⟩,Flow.Into.of_below h2⟩);obtain⟨A4,c4',rfl,hv4,hb4⟩:=hv;have HV4:=hid hv4;have HC4:=hid (HC3.kept hb4);clear hv4 hb4 hI hTd;(repeat (refine ah.ak (fun K hK=>?_);go_simp;(refine hK _ ?_;clear hK K)));refine ah.walk_nil ?_;intro w5 hb5 _;replace HV4:=hid (HV4.kept hb5);replace HC4:=hid (HC4.kept hb5);clear hb5 HV3 HC3 yx0 yp0 yp1 cP;simp only[lC,drop_nil,Nat.zero_add,Nat.reduceAdd];go_wp2_with fail;go_roundg (150-(k+1));(case measure=>omega);case rel=>exact⟨k+1,L2,A4,c4',l2n,hlt2,rfl,rfl,by go_num,by omega,HL2.out,HV4.out,HP2.1,HP2.2,HC4⟩);. (have hgt:cV<(val.size:Int):=by omega);clear hle;refine ah.aj [] [(0,[]),(1,[]),(2,[]),(3,[]),(4,[]),(5,[]),(6,[]),(7,[]),(8,[]),(9,[]),(10,[]),(11,[]),(12,[]),(13,[]),(14,[]),(15,[]),(16,[]),(17,[]),(18,[]),(19,[])] [] [] (by kernel_rfl) (by kernel_rfl) (by simp) ?_;simp only[ah.pick,ah.aM,dL];(repeat (refine ah.ak (fun K hK=>?_);go_simp;first|(refine hK _ ?_;clear hK K)|(apply Exists.intro;refine⟨fun q=>?_,hK _ ?_⟩;(go_at_call 95;exact(cK2 _).out);clear hK K)));refine ah.walk_nil ?_;intro w3 hb _;simp only[lC,drop_nil,Nat.zero_add,Nat.reduceAdd];have HC3:=hid (HC.kept hb);have HV3:=hid (HV.kept hb);clear yc0 yc1 yc2 yc3 yc4 yc5 yc6 yc7 yx0 yp0 yp1 hb HC HV;clear HTT;go_wp2_with fail;go_roundg (150-(k+1));(case measure=>omega);case rel=>exact⟨k+1,L,A',c',ln,hlt2,rfl,rfl,by go_num,by omega,HL,HV3,HR,HS,HC3⟩);. have HTT:Hid True:=trivial;by_cases hlt1:k<pn;(. (have hge:150<=k:=by omega);go_wp2_with fail;exact bodyPost_ret (v:= .slice A' ln c') (by simp[results,Tryz.results55,go_sem]) rfl ⟨⟨A',c',L,by rw[HL.out],HV.out,HR.out,by rw[HL.out];omega,HS.out,by rw[HL.out];omega⟩,HC.below⟩);. (have hge:pn<=k:=by omega);go_wp2_with fail;exact bodyPost_ret (v:= .slice A' ln c') (by simp[results,Tryz.results55,go_sem]) rfl ⟨⟨A',c',L,by rw[HL.out],HV.out,HR.out,by rw[HL.out];omega,HS.out,by rw[HL.out];omega⟩,HC.below⟩
theorem JF{w:World}{c:Cfg}{x:Sp}(h:SpW w x)(hk:∀(i:Nat) (m:Mg),i<100->x.M[i]? =some m->m.1.size<=200):Calls Tryz.prog 59 #[.agg (bC c),.agg (jE x)] w fun e w'=>(∃A' c' L,e=.returned (.slice A' L.length c')/\VK MgK w' w.heap.size A' c' L/\L.length<=100/\(∀m,m∈L->m.1.size<=200)/\L.length<=x.M.length)/\Bw w w':=by
 have HP:=hid h.m;have HK:=hid hk;have cK:∀(key:ByteArray) (w:World),Hid (CB 95 #[.agg (bC c),.string key] w (.bool (nH c key))):=fun key w=>zy c key w
 generalize nH c=kb at*;have HC:=hid (CxB.new w (bC c) (jE x));obtain⟨pA,pc,P,mA,mc,M,dA,dc,D,cA,cc,C⟩:=x;obtain⟨cB,cY,cF,cN,cU,cL,cKy,cV⟩:=c;unfold bC jE at*;simp only at*;obtain⟨mn,hmn⟩:=eX M.length;have HMN:=hid hmn;rw[<-hmn]at HC ⊢;generalize P.length=pn at*;generalize D.length=dn at*;generalize C.length=cn at*;clear h hk hmn;go_enter Tryz.func59,Tryz.ntmps59
 go_upto_region 1 with fail
 generalize (w.alloc (.cells #[cB,cY,cF,cN,cU,cL,cKy,cV] 23)).alloc (.cells #[.slice pA pn pc,.slice mA mn mc,.slice dA dn dc,.slice cA cn cc] 28)=w1 at*;obtain⟨g,hg⟩:=eX w.heap.size;have HG:=hid hg;simp only[<-hg];clear hg;go_upto_region 3 with fail
 have hv1:VK MgK (w1.alloc (.cells #[] 73)) w.heap.size (some ⟨w1.heap.size,0,none⟩) 0 []:=VK.lit w1 w.heap.size HC.below.size;replace HC:=hid (HC.kept ((Below.refl w1.heap.size w1).alloc (Nat.le_refl _) (.cells #[] 73)));generalize w1.alloc (.cells #[] 73)=w2 at*;generalize w1.heap.size=g1 at*;have HV:=hid hv1;clear hv1
 go_loopg[5,6] 100 (fun gk s5 s6 wr=>∃(k:Nat) (L:List Mg) (A':Option Addr) (c' ln:Nat),k<=100/\gk=100-k/\s5= .slice A' ln c'/\s6= .int .i64 (k:Int)/\(ln<=k/\k<=mn)/\Hid (L.length=ln)/\Hid (VK MgK wr w.heap.size A' c' L)/\Hid (∀p,p∈L->p.1.size<=200)/\Hid (CxB w #[cB,cY,cF,cN,cU,cL,cKy,cV] #[.slice pA pn pc,.slice mA mn mc,.slice dA dn dc,.slice cA cn cc] wr))
 case atStart=>exact⟨0,[],some ⟨g1,0,none⟩,0,0,by decide,rfl,rfl,rfl,⟨Nat.le_refl _,Nat.zero_le _⟩,rfl,HV.out,(fun p hp=>by cases hp),HC.out⟩
 case round=>
  clear HV HC;obtain⟨k,L,A',c',ln,hk,rfl,rfl,rfl,⟨hln,hkp⟩,HL,HV,HS,HC⟩:=hrel
  have x1:wr.cell? ⟨g+1,1,none⟩=some (.slice mA mn mc):=by
   rw[HG.out];exact HC.x.cell (i:=1) rfl
  by_cases hlt:k<mn/\k<100
  . obtain⟨hlt1,hlt2⟩:=hlt
    obtain⟨p,hp⟩:∃p,M[k]? =some p:=⟨_,List.getElem?_eq_getElem (by rw[<-HMN.out];exact hlt1)⟩
    obtain⟨b,o,e,-,p0,p1,p2⟩:=RdK.msg (HP.below HC.below (Nat.le_refl _)) hp;subst e;have hps:=HK.out k p hlt2 hp;have HPS:=hid hps;have cK2:=cK p.1;have hw2:IntKind.i64.wrap ((k:Int)+1)=((k+1:Nat):Int):=(by rw[wrap_i64];omega);generalize kb p.1=kv at*;obtain⟨key,del,val⟩:=p;simp only at p0 p1 p2 cK2;have hm1:ln+1<=1048576:=(by omega);clear hp hps cK;go_upto_region 6 with fail
    have hx3:=aH.new 73 wr #[.string key,.bool del,.string val];replace HC:=hid (HC.kept ((Below.refl wr.heap.size wr).alloc (Nat.le_refl _) (.cells #[.string key,.bool del,.string val] 73)));have hv3:=HV.kept ((Below.refl wr.heap.size wr).alloc (Nat.le_refl _) (.cells #[.string key,.bool del,.string val] 73));generalize wr.alloc (.cells #[.string key,.bool del,.string val] 73)=w3 at*;obtain⟨g3,hg3⟩:=eX wr.heap.size;rw[<-hg3]at hx3;simp only[<-hg3];have HV3:=hid hv3;have HX3:=hid hx3
    have HA3:Hid (∀a,A'=some a->a.block≠g3):=fun a ha e=>by
     have:=(HV.at_ a ha).2;omega
    clear hx3 hv3 hg3 HV p0 p1 p2 x1
    go_cut[46] (fun s46 wx=>∃t:Bool,s46= .bool t/\Hid (CxB w #[cB,cY,cF,cN,cU,cL,cKy,cV] #[.slice pA pn pc,.slice (some ⟨b,o,none⟩) mn mc,.slice dA dn dc,.slice cA cn cc] wx)/\Hid (VK MgK wx w.heap.size A' c' L)/\Hid (aH 73 wx g3 #[.string key,.bool del,.string val]))
    case first=>
     obtain⟨c0,c1,c2,c3,c4,c5,c6,c7⟩:=aU (show w3.heap[w.heap.size]? =some (.cells #[cB,cY,cF,cN,cU,cL,cKy,cV] 23 (0,0))from HC.c);rw[<-HG.out]at c0 c1 c2 c3 c4 c5 c6 c7;obtain⟨m0,m1,m2⟩:=bW HX3.out
     have Q5:(kv=false)\/(kv=true/\cV<(val.size:Int))\/(kv=true/\(val.size:Int)<=cV/\del=false)\/(kv=true/\(val.size:Int)<=cV/\del=true/\val.toList.isEmpty=true)\/(kv=true/\(val.size:Int)<=cV/\del=true/\val.toList.isEmpty=false):=by
      cases kv<;>cases del<;>cases hh:val.toList.isEmpty<;>simp<;>omega
     rcases Q5 with rfl|⟨rfl,h1⟩|⟨rfl,h1,rfl⟩|⟨rfl,h1,rfl,h2⟩|⟨rfl,h1,rfl,h2⟩
     all_goals
      go_wp2_with (go_at_call 95;refine(cK2 _).mono ?_;rintro e w4 ⟨rfl,hb⟩;have HC4:=hid (HC.kept hb);have HV4:=hid (HV3.kept hb);have HX4:=hid (HX3.kept hb);clear hb c0 c1 c2 c3 c4 c5 c6 m0 m1 m2 c7;have c7:w4.cell? ⟨g,7,none⟩=some (.int .i64 cV):=(by rw[HG.out];exact HC4.c.cell (i:=7) rfl);obtain⟨m0,m1,m2⟩:=bW HX4.out)
      go_meet
      exact⟨_,rfl,HC4,HV4,HX4⟩
    case rest=>
     obtain⟨t,rfl,HC5,HV5,HX5⟩:=hcut;obtain⟨m0,m1,m2⟩:=bW HX5.out;cases t with
     |false=>
      clear m0 m1 m2;go_wp2_with fail
      go_roundg (100-(k+1))
      case measure=>omega
      case rel=>exact⟨k+1,L,A',c',ln,hlt2,rfl,rfl,by go_num,by omega,HL,HV5,HS,HC5⟩
     |true=>
      have HCC:=hid HC5.below.size;go_wp2_with (refine aI (K:=MgK) Tryz.underlying25 vO rfl (by decide) (by decide) rfl (.tmp 47) (.tmp 49) rfl w.heap.size A' ln c' L rfl HL.out (HV5.kept (bAx)) _ 1 (key,del,val) rfl (heap_alloc_new _ _) hm1 (Nat.le_trans HCC.out (by simp)) ?_;intro A5 c5 w5 HA5)
      have HL5:Hid ((L++[(key,del,val)]).length=ln+1):=by
       unfold Hid;rw[List.length_append,HL.out];rfl
      have HS5:Hid (∀p,p∈L++[(key,del,val)]->p.1.size<=200):=fun p hp=>by
       rcases List.mem_append.1 hp with h1|h1
       . exact HS.out p h1
       . obtain rfl:=List.mem_singleton.1 h1
         exact HPS.out
      have HC6:Hid (CxB w #[cB,cY,cF,cN,cU,cL,cKy,cV] #[.slice pA pn pc,.slice (some ⟨b,o,none⟩) mn mc,.slice dA dn dc,.slice cA cn cc] w5):=by
       have hl:=HC5.kept ((Below.refl wc.heap.size wc).alloc (Nat.le_refl _) (.cells #[.string key,.bool del,.string val] 73));have hne:∀{X:Array Value} {U:TypeId} {y:Nat},wc.heap[y]? =some (.cells X U (0,0))->U≠73->∀a,A'=some a->a.block≠y:=fun hy hU a ha e=>dJ HV5.out hy hU (e▸aX ha)
       exact⟨hl.below.trans HA5.below,(HA5.block _ hl.c.lt (hne HC5.c (by decide))).trans hl.c,(HA5.block _ hl.x.lt (hne HC5.x (by decide))).trans hl.x⟩
      have HV6:=hid HA5.vo;clear HA5 HV5 HC5 HX5 HA3 HCC m0 m1 m2
      go_roundg (100-(k+1))
      case measure=>omega
      case rel=>exact⟨k+1,_,A5,c5,ln+1,hlt2,rfl,rfl,by go_num,by omega,HL5,HV6,HS5,HC6⟩
  . by_cases hlt1:k<mn
    . have hge:100<=k:=by omega
      go_wp2_with fail
      exact bodyPost_ret (v:= .slice A' ln c') (by simp[results,Tryz.results59,go_sem]) rfl ⟨⟨A',c',L,by rw[HL.out],HV.out,by rw[HL.out];omega,HS.out,by rw[HL.out];omega⟩,HC.below⟩
    . have hge:mn<=k:=by omega
      go_wp2_with fail
      exact bodyPost_ret (v:= .slice A' ln c') (by simp[results,Tryz.results59,go_sem]) rfl ⟨⟨A',c',L,by rw[HL.out],HV.out,by rw[HL.out];omega,HS.out,by rw[HL.out];omega⟩,HC.below⟩
end Sk
end Go.Proofs.YtmcbidhpkpmalaaGreatDoor
