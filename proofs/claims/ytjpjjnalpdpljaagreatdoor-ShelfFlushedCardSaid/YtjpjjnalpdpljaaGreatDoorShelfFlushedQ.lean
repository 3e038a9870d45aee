import Derived.Test.YtjpjjnalpdpljaaGreatDoorPkBM
import Derived.Test.YtjpjjnalpdpljaaGreatDoorPkAH
import Derived.Test.YtjpjjnalpdpljaaGreatDoorRows
import Derived.Test.YtjpjjnalpdpljaaGreatDoorPkAE
import Derived.Test.YtjpjjnalpdpljaaGreatDoorPkAD
import Derived.SizedLaws
import Derived.LaidMore
import Derived.Stop.Joined
import Derived.Lib.SmallJoins
import Derived.Test.YtjpjjnalpdpljaaGreatDoorCards
import Derived.Test.YtjpjjnalpdpljaaGreatDoorTie
import Derived.SevenTiedAt
set_option maxHeartbeats 8000000
set_option maxRecDepth 100000
namespace Go.Proofs.YtjpjjnalpdpljaaGreatDoor
open Go.RowKit
open Go.Lib (hid)
open ah (dL tc)
namespace Sh
open Mem No Bt Po
open Ca (upF Few)
theorem PY:Tryz.prog.underlying 35=some (.struct (Tryz.prog.fieldsOf 35)):=by kernel_rfl
theorem IQ {w:World} {S S':List Nat} {g m m' r r' u u':Nat} {ls ls':List (List UInt8)} (h:Dv.Dev w S g m ls r u) (h':Dv.Dev w S' g m' ls' r' u'):r=r':=by
 obtain ⟨_,_,-,-,h1,-⟩:=h.cells;obtain ⟨_,_,-,-,h2,-⟩:=h'.cells;rw [h1] at h2;have h3:(r:Int)=(r':Int):=by simpa using h2
 omega
theorem Lp {w:World} {S:List Nat} {g m r u:Nat} {ls:List (List UInt8)} (h:Dv.Dev w S g m ls r u):∃C,w.heap[g]? =some (.cells C 104 (0,0))/\C.size<=12:=by
 obtain ⟨⟨b,c,bks,h1,_⟩,-⟩:=h;exact ⟨_,h1.hd,by simp⟩
theorem Sv.glo {W w:World} {F:List Nat} {z:Ad} {c:Cfg} {tb:List Bool} {kp:Nat} {P:Nat->Nat} {f:Nat->List UInt8} {K r u:Nat} (h:Sv W w F z c tb kp P f K r u):W.heap.size<=z.g:=by
 obtain ⟨⟨st,h1,-⟩,-⟩:=h;obtain ⟨S,_,_,_,_,_,h2,h3,-⟩:=h1.cl.cw;exact h1.cl.lo _ (h3 _ h2.dv.OW)
structure Fl (w1 wr:World) (z:Ad) (c:Cfg) (s:Ds) (A:Option Addr) (cl h ch g:Nat) (f:Nat->List UInt8) (R:Nat):Prop where
 dv:∃S r u,Dv.Dev wr S z.g c.bytes.toNat ((List.range c.blocks.toNat).map f) r u/\r<=R
 bx:bf 35 wr g (bY s A cl h ch)
 rd:RC SlK wr A cl s.l
 bel:Bw w1 wr
 lo:w1.heap.size<=z.g
 pos:5<=s.l.length
section
variable {w1 wr w':World} {F F':List Nat} {z:Ad} {c:Cfg} {s:Ds} {A:Option Addr} {cl h ch g:Nat} {f:Nat->List UInt8} {R K r u:Nat}
theorem Fl.kept (H:Fl w1 wr z c s A cl h ch g f R) (hb:Bw wr w'):Fl w1 w' z c s A cl h ch g f R:=by
 obtain ⟨⟨S,r,u,h1,h2⟩,h3,h4,h5,h6,h7⟩:=H;exact ⟨⟨S,r,u,h1.kept hb,h2⟩,h3.kept hb,h4.kept hb,h5.trans (hb.mono h5.size),h6,h7⟩
theorem Fl.of (hd:Dvs w' z.g c f) (hs:Sv w1 w' F' z c s.held s.kept (kpF s.kept) f K r u) (hl:Dl w1.heap.size w' F' z s A cl h ch g):Fl w1 w' z c s A cl h ch g f K:=by
 obtain ⟨S,r1,u1,h1⟩:=hd;obtain ⟨S2,ls,h2,-⟩:=hs.dev;exact ⟨⟨S,r1,u1,h1,by rw [IQ h1 h2];exact hs.small.1⟩,hl.bx,hl.dw.rd,hs.below,hs.glo,hl.pos⟩
theorem Fl.read (H:Fl w1 wr z c s A cl h ch g f R) (hR:R<=1000000) {i:Nat} (hi:i<c.blocks.toNat):Calls Tryz.prog 27 #[z.g,.int .u32 (i:Int)] wr fun e w'=>(∃q k,e=.returned (.tuple #[.slice (some ⟨q,0,none⟩) c.bytes.toNat k,(0:Int)])/\BL w' (some ⟨q,0,none⟩) (f i))/\Fl w1 w' z c s A cl h ch g f (R+1):=by
 obtain ⟨⟨S,r,u,h1,h2⟩,h3,h4,h5,h6,h7⟩:=H;have hx:((List.range c.blocks.toNat).map f)[i]? =some (f i):=by simp [hi]
 refine (Dv.Dh h1 i (f i) hx (by omega)).mono ?_;rintro e w' ⟨⟨q,k,he,hr,-⟩,hd,hi2⟩;obtain ⟨C,hC,hz⟩:=Lp h1;refine ⟨⟨q,k,he,hr.bl⟩,⟨S,r+1,u,hd,by omega⟩,(hi2.block g h3.lt ?_).trans h3,mO h4 hi2 (fun y _ hy=>by simpa using zI h4 h7 hC hz y hy),h5.trans ⟨hi2.os,hi2.tape,hi2.output,hi2.size,fun k hk=>hi2.block k (Nat.lt_of_lt_of_le hk h5.size) (by simp only [List.mem_singleton];omega)⟩,h6,h7⟩;simp only [List.mem_singleton];rintro rfl;unfold bf at h3;rw [h3] at hC;simp only [Option.some.injEq,Obj.cells.injEq] at hC;exact absurd hC.2.1 (by decide)
end
theorem mY (cB cY cF cN cU cL cKy cV:Int) (A:Option Addr) (cap:Nat) (l:List Ac) (W:World) (hA:AcL W A l) (hl:l.length<=maxLen) (hT:Tab W):CB 5 #[.agg #[cB,cY,cF,cN,cU,cL,cKy,cV],.slice A l.length cap] W (.bool true):=by
 obtain ⟨c,hcf⟩:∃c,#[.int .i64 cB,.int .i64 cY,.int .i64 cF,.int .i64 cN,.int .i64 cU,.int .i64 cL,.int .i64 cKy,.int .i64 cV]=aZ c:=⟨⟨cB,cY,cF,cN,cU,cL,cKy,cV⟩,rfl⟩
 rw [hcf];clear hcf;have hb1:Bw W (W.alloc (.cells (aZ c) 23)):=bAx;have hx:=bf.new 23 W (aZ c);have hT1:=hT.below hb1;have cA:∀{w},Bw W w->Hid (CB 8 #[] w (.bool true)):=fun hb=>vR _ (hT.below hb)
 by_cases hL:Lt c
 case neg=>
  have cLi:∀w,Hid (CB 7 #[.agg (aZ c)] w (.bool false)):=fun w=>lG c w false ⟨fun h=>(by cases h),fun h=>absurd h hL⟩
  clear hL;go_enter Tryz.func5,Tryz.ntmps5
  go_upto_region 1 with fail
  generalize W.alloc (.cells (aZ c) 23)=w1 at*;have HX:=hid hx;have HB:=hid hb1;clear hx hb1
  go_wp2_with (first
   |(refine aL rfl (.tmp 2) 23 rfl xC W.heap.size (aZ c) (vD rfl) rfl HX.out ?_)
   |(go_at_call 7;refine (cLi _).out.mono ?_;rintro e w2 ⟨rfl,hb⟩;replace HB:=hid (HB.out.trans (hb.mono HB.out.size));clear hb cLi)
   |(go_at_call 8;refine (cA HB.out).out.mono ?_;rintro e w3 ⟨rfl,hb⟩;replace HB:=hid (HB.out.trans (hb.mono HB.out.size));clear hb cA))
  go_ret
  exact ⟨rfl,HB.out⟩
 have hc:Okc c:=⟨hL.1,hL.2.1,by have:=hL.2.2;omega⟩;have hnn:=hc.nat;have cLi:∀w,Hid (CB 7 #[.agg (aZ c)] w (.bool true)):=fun w=>lG c w true ⟨fun _=>hL,fun _=>rfl⟩
 have cB:∀{w},Below (W.alloc (.cells (aZ c) 23)).heap.size (W.alloc (.cells (aZ c) 23)) w->Hid (Calls Tryz.prog 9 #[.agg (aZ c)] w fun e w'=>Ot (W.alloc (.cells (aZ c) 23)) w w' c e):=fun hb=>yg hc hT1 hb
 have cN:=fun w=>hid (qO c c.blocks.toNat hnn.1.symm (by omega) (by omega) w);clear hL;go_enter Tryz.func5,Tryz.ntmps5
 go_upto_region 1 with fail
 generalize W.alloc (.cells (aZ c) 23)=w1 at*;obtain ⟨a0,ha0⟩:∃a0,a0=W.heap.size:=⟨_,rfl⟩
 rw [<-ha0] at hx;simp only [<-ha0];have HX:=hid hx;have HB:=hid hb1;clear hx hb1 ha0
 go_upto_region 7 with (first
  |(refine aL rfl (.tmp 2) 23 rfl xC a0 (aZ c) (vD rfl) rfl HX3.out ?_)
  |(refine aL rfl (.tmp 2) 23 rfl xC a0 (aZ c) (vD rfl) rfl HX2.out ?_)
  |(refine aL rfl (.tmp 2) 23 rfl xC a0 (aZ c) (vD rfl) rfl HX.out ?_)
  |(go_at_call 7;refine (cLi _).out.mono ?_;rintro e w2 ⟨rfl,hb⟩;have HX2:=hid (HX.out.kept hb);have HB2:=hid hb;clear hb cLi)
  |(go_at_call 9;refine (cB HB2.out).out.mono ?_;rintro e w3 ⟨⟨F,z,rfl,hs⟩,-⟩;have HS:=hid hs;have HX3:=hid (HX.out.kept hs.below);clear hs cB HB2 HX2)
  |(go_at_call 10;refine (cN _).out.mono ?_;rintro e w4 ⟨⟨A4,h4,ch4,rfl,hbl,hh,hr,hA4⟩,hb⟩;have HN4:=hid (And.intro hb (And.intro hbl (And.intro hh (And.intro hr hA4))));clear hb hbl hh hr hA4 cN HX3)
  |(refine aK rfl (.tmp 7) (.tmp 29) 35 rfl rfl w4.heap.size #[.int .i64 0,.int .i64 0,.int .i64 0,.int .i64 0,.int .i64 0,.int .i64 0,.int .i64 0,.int .i64 0,.slice none 0 0,.slice none 0 0,.int .u32 0] (bY ⟨c,List.replicate c.blocks.toNat sl0,tbN c.blocks.toNat,0⟩ A4 c.blocks.toNat h4 ch4) (shS rfl) rfl (nJ _ _ _ _ _) rfl rfl (bf.new _ _ _) ?_;intro w5 HZ hi;have hb5:=kW rfl hi;clear hi))
 have H0:=hid (Jr (W:=W) hc hT1 HS.out HN4.out.1 HN4.out.2.1 HN4.out.2.2.1 HN4.out.2.2.2.1 HN4.out.2.2.2.2 hb5 HZ.out);obtain ⟨g,hg⟩:∃g,g=w4.heap.size:=⟨_,rfl⟩
 rw [<-hg] at H0;simp only [<-hg];obtain ⟨N,hN⟩:∃N,N=l.length:=⟨_,rfl⟩
 have HN:=hid hN;have hN9:N<=9223372036854775807:=by unfold maxLen at hl;omega
 simp only [<-hN];clear hN hl hg HZ hb5 HN4 HS;go_upto_block 0 with fail
 go_cut [8] (fun iv wx=>∃(F:List Nat) (s:Ds) (A:Option Addr) (cl h ch:Nat) (f:Nat->List UInt8) (r u:Nat),Hid (Rd W w1 wx F z c s A cl h ch g f 8000 r u))
 case first=>
  go_wp2_with fail
  go_loopg [8] N (fun gk iv wr=>∃(k:Nat) (F:List Nat) (s:Ds) (A:Option Addr) (cl h ch:Nat) (f:Nat->List UInt8) (r u:Nat),k<=N/\k<=40/\gk=N-k/\iv= .int .i64 (k:Int)/\Hid (Rd W w1 wr F z c s A cl h ch g f (200*k) r u))
  case atStart=>exact ⟨0,F,_,_,_,_,_,_,0,0,Nat.zero_le _,Nat.zero_le _,rfl,rfl,H0⟩
  case round=>
   obtain ⟨k,F,s,A',cl,h,ch,f,r,u,hk,RU,rfl,rfl,HR⟩:=hrel;clear H0;by_cases hlt:k<N/\k<40
   . obtain ⟨hkN,hk4⟩:=hlt
     obtain ⟨b,o,x,rfl,hlk,hmem,hcl⟩:=Jq hA (k:=k) (by rw [<-HN.out];exact hkN);have hbr:=HB.out.trans (HR.out.sv.below.mono HB.out.size);obtain ⟨c0,c1,c2,c3,c4,c5,c6⟩:=hcl hbr;have hni:=hA.nd x hmem;have hno:=hA.ok x hmem;have IU:=hA.lt x hmem;obtain ⟨kd,i,n,a⟩:=x;simp only at c0 c1 c2 c3 c4 c5 c6 hni hno IU;simp only at hcl;clear hmem hlk;by_cases hf:Fit n
     . have cG:∀{w},Bw W w->Hid (CB 11 #[.agg (bL n a)] w (.bool false)):=fun hb=>(lT (hni.kept hb) hno).mono fun e w' ⟨⟨v,he,hv⟩,hb⟩=>⟨by rw [he,hv.2 hf],hb⟩
       have hna:∀{w},Bw W w->NdA w n a:=fun hb=>⟨hni.kept hb,hf,hno.kid⟩
       have cG1:=cG hbr;clear hni hno hf cG;go_upto_region 12 with (go_at_call 11;refine cG1.out.mono ?_;rintro e w5 ⟨rfl,hb⟩;have H5:=hid (HR.out.kept hT1 hb);have HW5:=hid (hbr.trans (hb.mono hbr.size));clear hb cG1 HR hbr c0 c1 c2 c3 c4 c5 c6)
       obtain ⟨t,ht⟩:=Bu.bU (bQ c n);have HTr:=hid ht;obtain ⟨c0,c1,c2,c3,c4,c5,c6⟩:=hcl HW5.out;obtain ⟨d0,d1,d2,d3,d4,d5,d6,d7,d8,d9,d10⟩:=lW H5.out.dl.bx;have cW:∀{w},Bw w5 w->Hid (Calls Tryz.prog 12 #[.agg (bY s A' cl h ch),.agg (A8 ⟨kd,i,n,a⟩).toArray] w fun e w'=>(∃v,e=.returned v/\WnE w w1.heap.size s A' ⟨kd,i,n,a⟩ t v w')/\Bw w w'):=fun hb=>Js (x:=⟨kd,i,n,a⟩) (H5.out.kept hT1 hb) hc (hna (HW5.out.trans (hb.mono HW5.out.size))) IU HTr.out
       have NZ:=hid IU;have HNA:=hid (hna (Below.refl _ _));have tc0:=tc c0;have tc1:=tc c1;have tc2:=tc c2;have tc3:=tc c3;have tc4:=tc c4;have tc5:=tc c5;have tc6:=tc c6;have td0:=tc d0;have td1:=tc d1;have td2:=tc d2;have td3:=tc d3;have td4:=tc d4;have td5:=tc d5;have td6:=tc d6;have td7:=tc d7;have td8:=tc d8;have td9:=tc d9;have PZ:=tc d10;clear c0 c1 c2 c3 c4 c5 c6 d0 d1 d2 d3 d4 d5 d6 d7 d8 d9 d10 ht IU;refine ah.aB [] [(0,[]),(1,[]),(2,[]),(3,[]),(4,[]),(5,[10]),(6,[]),(7,[]),(8,[]),(9,[]),(10,[])] [5] [10] [8,9] (by kernel_rfl) (by kernel_rfl) (by simp) ?_;simp only [ah.pick,ah.aO,List.getElem?_toArray,List.getElem?_cons_zero,List.getElem?_cons_succ,List.cons_append,List.nil_append,List.filterMap_cons,List.filterMap_nil]
       repeat (refine ah.ak (fun K hK=>?_);go_simp;(refine hK _ ?_;clear hK K))
       refine ah.aN rfl (ah.gQ rfl (fun b=> .pointer (some ⟨b,0,none⟩)) (.cells #[(0:Int),(0:Int),(0:Int),(0:Int),(0:Int),(0:Int),(0:Int),(0:Int),(),(),.int .u32 0] 35) (fun W=>by go_simp) fun b hb=>ah.aF) (WnE w5 w1.heap.size s A' ⟨kd,i,n,a⟩ t) (fun W2 hk _=>?_) (fun y w6 hv hI _ hTd=>?_)
       . go_simp
         have hk2:Bw w5 W2:=hk;go_at_call 12
         refine (cW hk2).out.mono ?_;rintro e w' ⟨⟨v,rfl,hv⟩,hb⟩;exact ⟨_,rfl,hv.mono hk2.size,Flow.Into.of_below hb⟩
       obtain ⟨s',kk,E,A2,cl2,h2,ch2,rfl,hwr,hdw,hA2⟩:=hv;have HWr:=hid hwr;have HDw:=hid (And.intro hdw hA2);clear hwr hdw hA2 cW tc0 tc1 tc2 tc3 tc4 tc5 tc6 td0 td1 td2 td3 td4 td5 td6 td7 td8 td9 PZ
       repeat (refine ah.ak (fun K hK=>?_);go_simp;(refine hK _ ?_;clear hK K))
       refine ah.ay rfl (.int .u32 ((kk:Nat):Int)) (fun W=>by go_simp) ?_;refine ah.ay rfl (.int .i64 E) (fun W=>by go_simp) ?_;refine ah.dF rfl ah.aF (fun b=> .pointer (some ⟨b,0,none⟩)) (.cells #[(0:Int),(0:Int),(0:Int),(0:Int),(0:Int),(0:Int),(0:Int),(0:Int),(),(),.int .u32 0] 35) (fun W=>by go_simp) (fun q hq hT2=>?_);refine ah.walk_nil ?_;intro w7 hb7 hl7;have hb7:Bw w6 w7:=hb7;have hx7:bf 35 w7 q #[(0:Int),(0:Int),(0:Int),(0:Int),(0:Int),(0:Int),(0:Int),(0:Int),(),(),.int .u32 0]:=hl7 (q,.cells #[(0:Int),(0:Int),(0:Int),(0:Int),(0:Int),(0:Int),(0:Int),(0:Int),(),(),.int .u32 0] 35) (by simp);have H57:=hid (hI.below.trans (hb7.mono hI.below.size));have HX7:=hid hx7;have HQ:Hid (w5.heap.size<=q):=hq;have HD7:=hid (HDw.out.1.kept hb7);have HA7:=hid HDw.out.2;have HG7:=hid (H5.out.dl.bx.kept H57.out);clear hb7 hl7 hx7 hq hI hTd hT2 HDw;simp only [lC,List.drop_zero,Nat.zero_add,Nat.reduceAdd];go_wp2_with (refine aK rfl (.tmp 9) (.tmp 54) 35 rfl rfl q #[(0:Int),(0:Int),(0:Int),(0:Int),(0:Int),(0:Int),(0:Int),(0:Int),(),(),.int .u32 0] (bY s' A2 cl2 h2 ch2) (shS rfl) rfl (nJ _ _ _ _ _) rfl rfl HX7.out ?_;intro w8 HX8 hi;have HI8:=hid hi;clear hi)
       rw [Flow.aP];go_upto_region 13 with fail
       have HG8:=hid (zJ HG7.out H5.out.dl.bx.lt HQ.out HI8.out)
       go_upto_region 14 with (first
        |(refine aL rfl (.tmp 9) 35 rfl PY q (bY s' A2 cl2 h2 ch2) (shS rfl) rfl HX8.out ?_)
        |(refine aK rfl (.tmp 7) (.tmp 57) 35 rfl rfl g (bY s A' cl h ch) (bY s' A2 cl2 h2 ch2) (shS rfl) rfl (nJ _ _ _ _ _) rfl rfl HG8.out ?_;intro w9 HX9 hi;have HI9:=hid hi;clear hi))
       obtain ⟨Lr,N7⟩:=H5.out.want hT1 HWr.out H57.out HD7.out HA7.out HQ.out HX7.out rfl HI8.out HI9.out HX9.out;obtain ⟨F0,Ls,hF0,hh0⟩:=N7.shrink Lr.dw.bl;have HW9:=hid (HB.out.trans (Ls.below.mono HB.out.size));have HD9:=hid (And.intro (Lr.less hF0) hh0);have cT:=hid (Jt Ls H5.out.sc hc hT1 (by omega) ⟨kd,i,n,a⟩ NZ.out (hna HW9.out) HTr.out);obtain ⟨c0,c1,c2,c3,c4,c5,c6⟩:=hcl HW9.out;have HSR:=hid (And.intro H5.out.sc H5.out.sr);clear Lr N7 Ls hF0 hh0 HX9 HI9 HG8 HI8 HG7 HA7 HD7 HQ HX7 H57 HX8 H5 HW5 hna hcl;go_upto_region 15 with (go_at_call 13;refine cT.out.mono ?_;rintro e w10 ⟨k2,E2,tb',kp',f',rfl,hbo,ho⟩;have HBo:=hid hbo;have HO:=hid ho;clear hbo ho cT c0 c1 c2 c3 c4 c5 c6)
       obtain ⟨F10,r10,u10,h10,m10,-⟩:=HO.out;obtain ⟨rfl,rfl,hrd⟩:=Rd.done HSR.out.1 HSR.out.2 HWr.out HD9.out.1 HD9.out.2 HBo.out h10 m10 HTr.out HNA.out;have N8:=hid hrd;clear HO h10 m10 hrd HSR HWr HD9 HBo HTr HNA HW9 NZ;have hwk:IntKind.i64.wrap ((k:Int)+1)=((k+1:Nat):Int):=(by rw [IntKind.wrap_i64];omega);have H19:=hid (N8.out.mono (show 200*k+64<=200*(k+1) by omega));clear N8;go_wp2_with fail
       go_roundg (N-(k+1))
       case measure=>omega
       case rel=>exact ⟨k+1,F10,s',A2,cl2,h2,ch2,f',r10,u10,by omega,by omega,rfl,by go_num,H19⟩
     . have cG:∀{w},Bw W w->Hid (CB 11 #[.agg (bL n a)] w (.bool true)):=fun hb=>(lT (hni.kept hb) hno).mono fun e w' ⟨⟨v,he,hv⟩,hb⟩=>⟨by
        cases v with
        |true=>exact he
        |false=>exact absurd (hv.1 rfl) hf,hb⟩
       have cG1:=cG hbr;have HW:=hid hbr;clear hni hno hf cG HR hbr hcl
       go_wp2_with (first
        |(go_at_call 11;refine cG1.out.mono ?_;rintro e w5 ⟨rfl,hb⟩;have HW5:=hid (HW.out.trans (hb.mono HW.out.size));clear hb cG1 HW c0 c1 c2 c3 c4 c5 c6)
        |(go_at_call 8;refine (cA HW5.out).out.mono ?_;rintro e w6 ⟨rfl,hb⟩;have HW6:=hid (HW5.out.trans (hb.mono HW5.out.size));clear hb cA))
       go_ret
       exact ⟨rfl,HW6.out⟩
   . by_cases hkN:k<N
     . have P5:40<=k:=by omega
       clear hlt;go_wp2_with fail
       go_meet
       exact ⟨_,_,_,_,_,_,_,_,_,HR.out.mono (by omega)⟩
     . obtain rfl:k=N:=by omega
       clear hlt;go_wp2_with fail
       go_meet
       exact ⟨_,_,_,_,_,_,_,_,_,HR.out.mono (by omega)⟩
 case rest=>
  obtain ⟨F,s,A',cl,h,ch,f,r,u,HR⟩:=hcut;obtain ⟨F0,hs0,hF0,hh0⟩:=HR.out.sv.shrink HR.out.dl.dw.bl;have cF:=hid (En hs0 hT1 (by omega));have HD0:=hid (And.intro (HR.out.dl.less hF0) hh0);have HSR:=hid (And.intro HR.out.sc (And.intro HR.out.sr HR.out.dl.dw.len));clear hs0 hF0 hh0 HR H0;go_upto_region 17 with (go_at_call 26;refine cF.out.mono ?_;rintro e w4 ⟨rfl,⟨F4,r4,u4,h4,m4,-⟩,hdv⟩;have HF:=hid (Fl.of hdv h4 (HD0.out.1.move m4 HD0.out.2));clear h4 m4 hdv cF HD0)
  obtain ⟨M,hM⟩:∃M,M=c.blocks.toNat:=⟨_,rfl⟩
  have hMb:(M:Int)=c.blocks:=by rw [hM];exact hnn.1
  have HM:=hid (And.intro hM hMb);have hM6:M<=65536:=by have:=hnn.2.2.2.2.1;omega
  have hM1:1<=M:=by have:=hnn.2.2.2.1;omega
  clear hM hMb;go_wp2_with fail
  go_loopg [12] (M-1) (fun gk iv wr=>∃(i R:Nat),1<=i/\i<=M/\R<=8064+i/\gk=M-i/\iv= .int .i64 (i:Int)/\Hid (Fl w1 wr z c s A' cl h ch g f R))
  case atStart=>exact ⟨1,_,Nat.le_refl _,hM1,(by omega),rfl,rfl,HF⟩
  case round=>
   obtain ⟨i,R,hi1,hiM,hR,rfl,rfl,HL⟩:=hrel;clear HF;have x0:=(FB (HX.out.kept HL.out.bel)).1;have HW:=hid (HB.out.trans (HL.out.bel.mono HB.out.size));by_cases hlt:i<M
   . have hlc:(i:Int)<c.blocks:=by have:=HM.out.2;omega
     have hdc:decide ((i:Int)<c.blocks)=true:=(by simpa using hlc);obtain ⟨x,hx⟩:∃x,s.l[i]? =some x:=⟨_,List.getElem?_eq_getElem (by have:=HSR.out.2.2;rw [HSR.out.1] at this;omega)⟩
     have hsl:=HSR.out.2.1 i x (by omega) hx;obtain ⟨b,o,rfl,-,hcc⟩:=HL.out.rd.1 (by have:=HL.out.pos;omega);obtain ⟨kd,nd,at_⟩:=x;have k0:wr.cell? ⟨b,o+i*6,none⟩=some (.int .i64 kd):=hcc i _ hx 0 _ rfl;have d8:=(lW HL.out.bx).2.2.2.2.2.2.2.2.1;have hln:i<s.l.length:=(List.getElem?_eq_some_iff.1 hx).1;have hwk:IntKind.i64.wrap ((i:Int)+1)=((i+1:Nat):Int):=(by rw [IntKind.wrap_i64];omega);by_cases hk:kd=1
     . subst hk
       obtain ⟨hrr,hfb,hnw⟩:bQ c nd/\f i=aJ c nd/\NdW W nd at_:=by
        rcases hsl with ⟨h1,-⟩|⟨-,h2,h3,h4⟩|h1
        . exact absurd h1 (by show ¬(1:Int)=0;decide)
        . rw [HSR.out.1] at h2 h3
          exact ⟨h2,h3,h4⟩
        . exact absurd h1 (by show ¬(1:Int)=2;decide)
       have hwu:IntKind.u32.wrap (i:Int)=(i:Int):=(by rw [IntKind.wrap_u32];omega);have cRd:=hid (HL.out.read (by omega) (i:=i) (by rw [<-HM.out.1];exact hlt))
       have cD:∀{w A cap},BL w A (f i)->Hid (Calls Tryz.prog 28 #[.agg (aZ c),.slice A c.bytes.toNat cap] w fun e w'=>(∃a,e=.returned (.tuple #[.agg (bL nd a),(0:Int)])/\gK w' nd a)/\Bw w w'):=fun {w A cap} hA=>by
        have hlen:(f i).length=c.bytes.toNat:=(by rw [hfb];exact (iX hrr).1);have h9:=zH (cap:=cap) c hA (by rw [hlen];omega) hc.2.1;rw [hlen] at h9;refine h9.mono ?_;rintro e w' ⟨⟨v,rfl,n',E',a',rfl,hn',hd⟩,hb⟩;obtain ⟨rfl,rfl⟩:=hd.one (.inr (.inr ⟨hrr,hfb.symm,rfl⟩));exact ⟨⟨a',rfl,hn'⟩,hb⟩
       have HNW:=hid hnw;have HCC:=hid (And.intro hcc hx);have HI:=hid (And.intro hi1 (And.intro hlt hR));clear hsl hrr hfb hnw hcc hx hi1 hR;go_upto_region 22 with (go_at_call 27;refine cRd.out.mono ?_;rintro e w5 ⟨⟨q5,k5,rfl,hbl⟩,hf5⟩;have HBL:=hid hbl;have HF5:=hid hf5;clear hbl hf5 cRd k0 d8 x0 HL)
       have HX5:=hid (HX.out.kept HF5.out.bel);have cD5:=cD (cap:=k5) HBL.out;clear cD
       go_upto_region 23 with (first
        |(refine aL rfl (.tmp 2) 23 rfl xC a0 (aZ c) (vD rfl) rfl HX5.out ?_)
        |(go_at_call 28;refine cD5.out.mono ?_;rintro e w6 ⟨⟨a6,rfl,hn6⟩,hb⟩;have HN6:=hid hn6;have HF6:=hid (HF5.out.kept hb);clear hn6 hb cD5 HBL HF5 HX5)
        |(refine aK rfl (.tmp 15) (.tmp 91) 43 rfl rfl w6.heap.size #[.int .i64 0,.slice none 0 0,.slice none 0 0,.slice none 0 0,.slice none 0 0] (bL nd a6) (Jj rfl) rfl (qN _ _) rfl rfl (bf.new _ _ _) ?_;intro w7 HX7 hi;have hb7:=kW rfl hi;clear hi))
       have HF7:=hid (HF6.out.kept hb7);have HN7:=hid (HN6.out.kept hb7);obtain ⟨g5,hg5⟩:∃g5,g5=w6.heap.size:=⟨_,rfl⟩
       rw [<-hg5] at HX7;simp only [<-hg5];clear hg5 hb7 HF6 HN6
       have cSm:∀{w},Bw w7 w->Hid (CB 16 #[.agg (bL nd a6),.agg (bL nd at_)] w (.bool true)):=fun hb=>by
        have hsz:=vP HNW.out.fit;refine (iW (HN7.out.kept hb) (HNW.out.nd.kept (HB.out.trans ((HF7.out.bel.trans (hb.mono HF7.out.bel.size)).mono HB.out.size))) hsz hsz).mono ?_;rintro e w' ⟨⟨v,rfl,hv⟩,hb2⟩;obtain rfl:v=true:=hv.2 rfl;exact ⟨rfl,hb2⟩
       obtain ⟨e0,e1,e2,e3,e4⟩:=jO HX7.out;have d8:=(lW HF7.out.bx).2.2.2.2.2.2.2.2.1;obtain ⟨b2,o2,hbo,-,hc7⟩:=HF7.out.rd.1 (by have:=HF7.out.pos;omega);obtain ⟨rfl,rfl⟩:b=b2/\o=o2:=(by simpa using hbo);have k1:w7.cell? ⟨b,o+i*6+1,none⟩=some (.int .i64 nd.lv):=hc7 i _ HCC.out.2 1 _ rfl;have k2:w7.cell? ⟨b,o+i*6+2,none⟩=some (.slice at_.kA nd.kids.length at_.kc):=hc7 i _ HCC.out.2 2 _ rfl;have k3:w7.cell? ⟨b,o+i*6+3,none⟩=some (.slice at_.pA nd.piv.length at_.pc):=hc7 i _ HCC.out.2 3 _ rfl;have k4:w7.cell? ⟨b,o+i*6+4,none⟩=some (.slice at_.bA nd.buf.length at_.bc):=hc7 i _ HCC.out.2 4 _ rfl;have k5':w7.cell? ⟨b,o+i*6+5,none⟩=some (.slice at_.qA nd.prs.length at_.qc):=hc7 i _ HCC.out.2 5 _ rfl;have te0:=tc e0;have te1:=tc e1;have te2:=tc e2;have te3:=tc e3;have te4:=tc e4;have td8:=tc d8;have tk1:=tc k1;have tk2:=tc k2;have tk3:=tc k3;have tk4:=tc k4;have tk5:=tc k5';clear e0 e1 e2 e3 e4 d8 k1 k2 k3 k4 k5' hc7 hbo HCC HNW HN7 HX7;refine ah.aj [] [(0,[]),(1,[]),(2,[]),(3,[]),(4,[]),(5,[]),(6,[]),(7,[]),(8,[]),(9,[]),(10,[]),(11,[]),(12,[]),(13,[]),(14,[]),(15,[]),(16,[])] [] [] (by kernel_rfl) (by kernel_rfl) (by simp) ?_;simp only [ah.pick,ah.aO,dL]
       repeat (refine ah.ak (fun K hK=>?_);go_simp;first|(refine hK _ ?_;clear hK K)|(apply Exists.intro;refine ⟨fun q=>?_,hK _ ?_⟩;(go_at_call 16;exact (cSm q.into.below).out);clear hK K))
       refine ah.walk_nil ?_;intro w8 hb8 _;have H8:=hid (HF7.out.kept hb8);clear te0 te1 te2 te3 te4 td8 tk1 tk2 tk3 tk4 tk5 hb8 HF7 cSm;simp only [lC,List.drop_zero,Nat.zero_add,Nat.reduceAdd];go_wp2_with fail
       go_roundg (M-(i+1))
       case measure=>omega
       case rel=>exact ⟨i+1,R+1,by omega,by omega,by have:=HI.out.2.2;omega,rfl,by go_num,H8⟩
     . have e1:(kd==1)=false:=by simpa using hk
       have e2:(kd != 1)=true:=(by simpa using hk);clear hk hsl hcc hx;go_wp2_with fail
       go_roundg (M-(i+1))
       case measure=>omega
       case rel=>exact ⟨i+1,R,by omega,by omega,by omega,rfl,by go_num,HL⟩
   . have hdc:decide ((i:Int)<c.blocks)=false:=by have:=HM.out.2;simp;omega
     clear hlt;go_wp2_with (go_at_call 8;refine (cA HW.out).out.mono ?_;rintro e w6 ⟨rfl,hb⟩;have HW6:=hid (HW.out.trans (hb.mono HW.out.size));clear hb cA)
     go_ret
     exact ⟨rfl,HW6.out⟩
end Sh
end Go.Proofs.YtjpjjnalpdpljaaGreatDoor
set_option maxRecDepth 100000
namespace Go.Proofs.YtjpjjnalpdpljaaGreatDoor.ShelfFlushed
open Go.ChangeShapes Go.WideShapes Go.ChangeAt Go.RowKit
open Go.ChangeMaps (open_string shut_string)
theorem own:ownKnob Tryz.prog.godebug=none:=by kernel_rfl
def pY:List (String × DataW Unit):=[("math/bits.deBruijn64tab",Rows.laid_math_bits_deBruijn64tab)]
theorem contract (H:Type) (enc:TypeId × Value->H) (W:World) (base:Nat) (args:Array Value) (ds gs:List (DataW H)) (before:List MemPlace)
 (hval:∀(j:Nat) t v,Tryz.f5.params[j]? =some t->args[j]? =some v->Value.okWide Tryz.prog W .any base t v)
 (hW:DataW.Whole enc Tryz.prog Tryz.f5.params.toList Rows.shelfFlushedSpec.vars false W args.toList ds gs before)
 (hsz:(DataW.weightsEach Tryz.prog (Tryz.f5.params.toList++Rows.shelfFlushedSpec.plain.varTypes Tryz.prog) (ds++gs)).all (· <=reachBytes)=true) (hL:laidMetH Tryz.prog pY W):
 Calls Tryz.prog 5 args W fun e W'=>∃v,e=.returned v/\Rows.shelfFlushedSpec.post enc Tryz.prog Tryz.f5 false true false false W args v W':=by
 have hW':=hW;obtain ⟨p,q,hA0,hV,rfl,hfz,hnd⟩:=hW;have hA:DataW.TrodAll enc Tryz.prog W 0 (fun _=>true) true Tryz.f5.params.toList args.toList ds p:=hA0;rw [Tryz.params5] at hA hval;obtain ⟨v0,vs0,d0,ds0,p0,q0,N9,rfl,rfl,h0,r0⟩:=trodAll_cons hA;obtain ⟨v1,vs1,d1,ds1,p1,q1,Oa,rfl,rfl,h1,r1⟩:=trodAll_cons r0;obtain ⟨rfl,rfl,rfl⟩:=trodAll_nil r1;obtain rfl:args= #[v0,v1]:=by cases args;simp_all
 obtain ⟨rfl,rfl⟩:=trodVars_none hV;obtain ⟨cB,cY,cF,cN,cU,cL,cKy,cV,rfl⟩:=Cf.yP (hval 0 23 v0 rfl rfl) h0
 have zl:∀n∈d1.weights Tryz.prog 24,n<=reachBytes:=fun n hn=>by
  have:=List.all_eq_true.1 hsz n (DataW.weights_mem_each (j:=1) (by rw [Tryz.params5];rfl) rfl n hn);simpa using this
 obtain ⟨Al,l,cl,rfl,hl,ll,ml⟩:=Sh.vK (hval 1 24 v1 rfl rfl) h1 zl;clear hA0;have hL':=Bt.oO hL;simp only [List.append_nil] at hW';refine (Sh.mY cB cY cF cN cU cL cKy cV Al cl l W hl (Nat.le_trans ll ml) hL').mono fun e W' ⟨he,hg⟩=>?_;subst he;exact ⟨_,rfl,Post.yO (by kernel_rfl) (by kernel_rfl) hW' rfl rfl rfl Tryz.underlying4 hg⟩
theorem tY (os:Os) (args:Array Value):laidMetH Tryz.prog pY ((World.doorLaid Tryz.prog 400 os).forCall (fun _ _=>0) ⟨#[],args,[]⟩).memory:=
 laidMet_of_run' 8 (by kernel_rfl) (by kernel_rfl)
theorem lifted (os:Os) (started:os.Started) (H:Type) (enc:TypeId × Value->H):
 ReturnsInHanded {} Tryz.checked os 5 .any (fun w args=>(Rows.shelfFlushedSpec.pre enc Tryz.prog Tryz.f5 [] false w args/\laidMetH Tryz.prog pY w)/\sizedMet enc Tryz.prog Tryz.f5 (OpenSpec.ofChange Rows.shelfFlushedSpec) false w args)
  (Rows.shelfFlushedSpec.post enc Tryz.prog Tryz.f5 false true false false):=by
 refine returnsInHanded_of_change_and (C:=Tryz.checked) (X:=fun w _=>laidMetH Tryz.prog pY w) (fun _ _ _ hh h=>h.of_heap hh) own started (by kernel_rfl) Tryz.func5
  (ChangeSpec.witness_shaped (enc:=enc) (C:=Tryz.checked) (os:=os) (X:=fun w _=>laidMetH Tryz.prog pY w) false (World.doorLaid Tryz.prog 400 os) #[.agg #[(0:Int),(0:Int),(0:Int),(0:Int),(0:Int),(0:Int),(0:Int),(0:Int)],()] 8 rfl (World.shaped_of_RefB (by kernel_rfl) (by kernel_rfl)) (by kernel_rfl) (by kernel_rfl) (by kernel_rfl) (tY os _)) ?_
 intro W base args ds gs before hval hW _ hsz hL _;exact contract H enc W base args ds gs before hval hW hsz hL
theorem holds:Rows.ShelfFlushedSaid:=
 OpenClaim.holds_of_wide 5 Tryz.f5 rfl rfl rfl rfl rfl rfl rfl ⟨rfl,rfl,rfl,rfl,rfl⟩ rfl rfl rfl rfl rfl (by kernel_rfl) Tryz.func5 (by kernel_rfl)
  (of_decide_eq_true (by kernel_rfl)) (by unfold Func.isWrapper;first|(rw [if_pos (by decide+kernel)];kernel_rfl)|(rw [if_neg (by decide+kernel)];exact ⟨rfl,rfl⟩))
  (fun os started H enc _=>lifted os started H enc)
end Go.Proofs.YtjpjjnalpdpljaaGreatDoor.ShelfFlushed
namespace Go.Proofs.YtjpjjnalpdpljaaGreatDoor.ShelfFlushed
open Go
theorem card:Rows.ShelfFlushedCardSaid:=
 Claim7.holds_tied_plain_at .later [] [.data] true Rows.shelfFlushedCard.stood.harness false
  holds (fun _ h=>by cases h) (by kernel_rfl) (fun _ h=>by cases h) shelfFlushed_row_tie rfl ⟨rfl,rfl⟩ (by kernel_rfl) rfl
  (fun f fn hf hfn=>by
    obtain rfl:f=5:=Option.some.inj ((show Tryz.prog.funcNamed "sluicegate/sluicegatelaw18.ShelfFlushed" =some 5 by kernel_rfl).symm.trans hf) |>.symm;obtain rfl:fn=Tryz.f5:=(Option.some.inj (Tryz.func5.symm.trans hfn)).symm
    exact ⟨by kernel_rfl,fun j t ht=>by
     rw [Tryz.params5] at ht;have hm:t∈[23,24]:=(by simpa using Array.mem_of_getElem? ht);have hall:([23,24].all fun u=> !Tryz.prog.wantsStandIn u)=true:=by kernel_rfl
     exact (show Tryz.prog.wantsStandIn t=false by simpa using List.all_eq_true.1 hall t hm)⟩)
  (by kernel_rfl)
end Go.Proofs.YtjpjjnalpdpljaaGreatDoor.ShelfFlushed
