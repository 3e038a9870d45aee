import Derived.Test.YtjpjjnalpdpljaaGreatDoorPkAL
import Derived.Test.YtjpjjnalpdpljaaGreatDoorPkAB
import Derived.Test.YtjpjjnalpdpljaaGreatDoorPkAC
set_option maxHeartbeats 1000000
namespace Go.Proofs.YtjpjjnalpdpljaaGreatDoor
open Go.RowKit
open Go.Lib (hid)
namespace Po
open Mem Bt
def Qt (w w':World) (B n k:Nat) (tb:List Bool) (e:Ending):Prop:=∃h' c' A c2 t l,e=.returned (.tuple #[.slice (some ⟨h',0,none⟩) n c',.slice A k c2,(0:Int)])/\Got tb k t l/\bE w' h' c' n t/\VO 25 w' w.heap.size A c2 (l.map jc)/\B<=h'/\Bw w w'
theorem Au (h c n:Nat) (tb:List Bool) (k:Int) (w:World) (H:bE w h c n tb) (hn:n<=1048576) (hk:0<=k) (hf:(free tb:Int)<k):CW 79 #[.slice (some ⟨h,0,none⟩) n c,k] w (.tuple #[.slice (some ⟨h,0,none⟩) n c,(),(11:Int)]):=by
 have cF:=hid (pz h c n tb w H hn);generalize free tb=f at*;clear H;go_enter Tryz.func79,Tryz.ntmps79
 go_wp2_with (go_at_call 18;refine cF.out.mono ?_;rintro e w' ⟨rfl,rfl⟩)
 exact bodyPost_ret (v:= .tuple #[.slice (some ⟨h,0,none⟩) n c,(),(11:Int)]) (by simp [results,Tryz.results79,go_sem]) rfl ⟨rfl,rfl⟩
structure Grb (w wr:World) (B n:Nat) (tb:List Bool) (h' c':Nat) (A:Option Addr) (c2 p:Nat):Prop where
 bo:bE wr h' c' n (fill tb p)
 vo:VO 25 wr w.heap.size A c2 ((frs tb p).map jc)
 hB:B<=h'
 bel:Bw w wr
section
variable {w wr w1 w2 w3:World} {B n:Nat} {tb:List Bool} {h' c':Nat} {A:Option Addr} {c2 p:Nat}
theorem Grb.skip (H:Grb w wr B n tb h' c' A c2 p) (hl:tb.length=n) (hp:p<n) (hv:tb.getD p false=true):Grb w wr B n tb h' c' A c2 (p+1)/\frs tb (p+1)=frs tb p:=by
 obtain ⟨e1,e2⟩:=jD tb p 1 (by omega) fun j h1 h2=>by
  obtain rfl:j=p:=by omega
  exact hv
 exact ⟨⟨by rw [e1];exact H.bo,by rw [e2];exact H.vo,H.hB,H.bel⟩,e2⟩
theorem Grb.take (H:Grb w wr B n tb h' c' A c2 p) {h2 c3:Nat} {A':Option Addr} {c4:Nat} (hv:tb.getD p false=false) (hB:B<=w.heap.size)
 (ho:bE w1 h2 c3 n ((fill tb p).set p true)) (hh:wr.heap.size<=h2) (hb:Bw wr w1) (hx:Bw w1 w2) (hd:LH 25 w.heap.size w2 w3 A A' c4 ((frs tb p).map jc++[.int .u32 (p:Int)])):
 Grb w w3 B n tb h2 c3 A' c4 (p+1)/\(frs tb (p+1)).length=(frs tb p).length+1:=by
 have e:frs tb (p+1)=frs tb p++[p]:=by
  show frs tb p++(if tb.getD p false then [] else [p])=_;rw [hv];rfl
 have ho2:=ho.kept hx;have hv2:=(H.vo.kept hb).kept hx;have hne:=F5 hv2 ho2.ow (by decide);refine ⟨⟨⟨ho2.ow.keep (hd.block _ ho2.ow.lt hne),ho2.len⟩,by rw [e,List.map_append];exact hd.vo,Nat.le_trans (Nat.le_trans hB H.bel.size) hh,?_⟩,by rw [e,List.length_append];rfl⟩;have hs:=H.bel.size;exact ((H.bel.trans (hb.mono hs)).trans (hx.mono (Nat.le_trans hs hb.size))).trans hd.below
end
theorem GV (h c n k:Nat) (tb:List Bool) (w:World) (H:bE w h c n tb) (hn:n<=65536) (hf:k<=free tb) (B:Nat) (hB:B<=h) (hBw:B<=w.heap.size):Calls Tryz.prog 79 #[.slice (some ⟨h,0,none⟩) n c,(k:Int)] w fun e w'=>Qt w w' B n k tb e:=by
 have cF:=hid (pz h c n tb w H (by omega));have HLN:Hid (tb.length=n):=H.len;have HFR:Hid ((frs tb n).length=free tb):=by unfold Hid;rw [<-H.len];exact oz tb
 have HF:=hid hf
 have hk1:k<=65536:=by have:free tb<=tb.length:=by unfold free;omega
                       have:=H.len;omega
 have hF:decide (k>free tb)=false:=by simp;omega
 have hF2:(k:Int)<=(free tb:Int):=by omega
 have HH:=hid H;have HB0:=hid hB;have HB1:=hid hBw;generalize hfv:free tb=f at cF hF hF2;clear H hf hfv hB hBw;go_enter Tryz.func79,Tryz.ntmps79
 go_upto_region 6 with (go_at_call 18;refine cF.out.mono ?_;rintro e w' ⟨rfl,rfl⟩)
 have hb1:Bw w (w.alloc (.cells #[] 25)):=bAx;have H0:Hid (Grb w (w.alloc (.cells #[] 25)) B n tb h c (some ⟨w.heap.size,0,none⟩) 0 0):=⟨HH.out.kept hb1,VO.none_ 25 w w.heap.size (Nat.le_refl _),HB0.out,hb1⟩;generalize w.alloc (.cells #[] 25)=w1 at*;generalize some (⟨w.heap.size,0,none⟩:Addr)=A0 at*;clear hb1 cF
 go_wp2
 go_loopg [0,7,8] n (fun gk v x i wr=>∃(p m h' c' c2:Nat) (A:Option Addr),p<=n/\m<=k/\m<=p/\gk=n-p/\v= .slice (some ⟨h',0,none⟩) n c'/\x= .slice A m c2/\i= .int .i64 (p:Int)/\Hid (m=(frs tb p).length)/\Hid (Grb w wr B n tb h' c' A c2 p))
 case atStart=>exact ⟨0,0,h,c,0,A0,Nat.zero_le _,Nat.zero_le _,Nat.le_refl _,rfl,rfl,rfl,rfl,rfl,H0⟩
 case round=>
  obtain ⟨p,m,h',c',c2,A,hp,hm,hmp,rfl,rfl,rfl,rfl,HM,HG⟩:=hrel;clear H0;by_cases hlt:p<n/\m<k
  . obtain ⟨l1,l2⟩:=hlt
    have hc:=HG.out.bo.cell l1;rw [fB tb p p (Nat.le_refl _)] at hc;cases hv:tb.getD p false with
    |true=>
     rw [hv] at hc;obtain ⟨g1,g2⟩:=HG.out.skip HLN.out l1 hv;have HG1:=hid g1;have HM1:Hid (m=(frs tb (p+1)).length):=(by unfold Hid;rw [g2];exact HM.out);clear hv g1 g2;go_wp2_with fail
     go_roundg (n-(p+1))
     case measure=>omega
     case rel=>exact ⟨p+1,m,h',c',c2,A,l1,hm,by omega,rfl,rfl,rfl,by go_num,HM1,HG1⟩
    |false=>
     rw [hv] at hc;have HV:=hid hv;have cW:=hid (sO h' c' n p (fill tb p) true wr HG.out.bo l1 (by omega));have HM2:Hid (((frs tb p).map jc).length=m):=(by unfold Hid;rw [List.length_map,HM.out]);have hw:IntKind.u32.wrap (p:Int)=(p:Int):=(by rw [IntKind.wrap_u32];omega);clear hv;go_upto_region 11 with (go_at_call 120;refine cW.out.mono ?_;rintro e w2 ⟨h2,c3,rfl,ho,hh,hb⟩)
     have HO:=hid ho;have HHH:=hid hh;have HB:=hid hb;have HX:Hid (Bw w2 (w2.alloc (.cells #[.int .u32 (p:Int)] 25))):=bAx;have hcl:Hid ((w2.alloc (.cells #[.int .u32 (p:Int)] 25)).cell? ⟨w2.heap.size,0,none⟩=some (.int .u32 (p:Int))):=(by unfold Hid;simp);have hBx:w.heap.size<=(w2.alloc (.cells #[.int .u32 (p:Int)] 25)).heap.size:=Nat.le_trans (Nat.le_trans HG.out.bel.size hb.size) HX.out.size;have HVO:Hid (VO 25 (w2.alloc (.cells #[.int .u32 (p:Int)] 25)) w.heap.size A c2 ((frs tb p).map jc)):=(HG.out.vo.kept hb).kept HX.out;clear ho hh hb cW;go_upto_region 8 with (with_reducible refine dQ rfl (.tmp 38) (.tmp 41) _ rfl 25 Tryz.underlying38 (.int .u32 0) 4 l9 rfl (by omega) w.heap.size A m c2 ((frs tb p).map jc) rfl HM2.out HVO.out w2.heap.size 1 (.int .u32 (p:Int)) rfl hcl.out rfl (by omega) hBx ?_;intro A' c4 w3 hd)
     obtain ⟨g1,g2⟩:=HG.out.take HV.out HB1.out HO.out HHH.out HB.out HX.out hd.out;have HG1:=hid g1;have HM1:Hid (m+1=(frs tb (p+1)).length):=(by unfold Hid;rw [g2,HM.out]);clear g1 g2 hd HVO hcl HX HB HHH HO hBx HM2;go_wp2_with fail
     go_roundg (n-(p+1))
     case measure=>omega
     case rel=>exact ⟨p+1,m+1,h2,c3,c4,A',l1,l2,by omega,rfl,rfl,rfl,by go_num,HM1,HG1⟩
  . have hmk:m=k:=by
     by_cases h1:p<n
     . omega
     . obtain rfl:p=n:=by omega
       have:=HF.out;have:=HM.out;have:=HFR.out;omega
    subst hmk;have HGT:Hid (Got tb m (fill tb p) (frs tb p)):=⟨p,by rw [HLN.out];exact hp,rfl,rfl,HM.out.symm⟩;by_cases h1:p<n
    . clear hlt
      go_wp2_with fail
      exact bodyPost_ret (v:= .tuple #[.slice (some ⟨h',0,none⟩) n c',.slice A m c2,(0:Int)]) (by simp [results,Tryz.results79,go_sem]) rfl ⟨h',c',A,c2,_,_,rfl,HGT.out,HG.out.bo,HG.out.vo,HG.out.hB,HG.out.bel⟩
    . obtain rfl:p=n:=by omega
      clear hlt h1;go_wp2_with fail
      exact bodyPost_ret (v:= .tuple #[.slice (some ⟨h',0,none⟩) p c',.slice A m c2,(0:Int)]) (by simp [results,Tryz.results79,go_sem]) rfl ⟨h',c',A,c2,_,_,rfl,HGT.out,HG.out.bo,HG.out.vo,HG.out.hB,HG.out.bel⟩
theorem GX (h c n:Nat) (tb:List Bool) (w:World) (H:bE w h c n tb) (hn:n<=65536):Calls Tryz.prog 21 #[.slice (some ⟨h,0,none⟩) n c] w fun e w'=>
 ∃A c2,e=.returned (.slice A (cnt tb) c2)/\VO 25 w' w.heap.size A c2 ((tks tb tb.length).map jc)/\Bw w w':=by
 have HLN:Hid (tb.length=n):=H.len;have HC:Hid ((tks tb n).length=cnt tb):=by unfold Hid;rw [<-H.len];exact rC tb
 have HH:=hid H;clear H;go_enter Tryz.func21,Tryz.ntmps21
 go_upto_region 2 with fail
 have H0:Hid (VO 25 (w.alloc (.cells #[] 25)) w.heap.size (some ⟨w.heap.size,0,none⟩) 0 []):=VO.none_ 25 w w.heap.size (Nat.le_refl _);have HB1:Hid (Bw w (w.alloc (.cells #[] 25))):=bAx;generalize w.alloc (.cells #[] 25)=w1 at*;generalize some (⟨w.heap.size,0,none⟩:Addr)=A0 at*
 go_wp2
 go_loopw [3,4] (fun x i wr=>∃(p m c2:Nat) (A:Option Addr),p<=n/\m<=p/\x= .slice A m c2/\i= .int .i64 (p:Int)/\Hid (m=(tks tb p).length)/\Hid (VO 25 wr w.heap.size A c2 ((tks tb p).map jc))/\Hid (Bw w wr)) (fun _ i _=>n-(intOf i).toNat)
 case atStart=>exact ⟨0,0,0,A0,Nat.zero_le _,Nat.le_refl _,rfl,rfl,rfl,H0,HB1⟩
 case round=>
  obtain ⟨p,m,c2,A,hp,hmp,rfl,rfl,HM,HV,HB⟩:=hrel;clear H0 HB1;by_cases hlt:p<n
  . have hc:=(HH.out.ow.below HB.out HH.out.ow.lt)
    have hc:wr.cell? ⟨h,p,none⟩=some (.bool (tb.getD p false)):=bE.cell ⟨hc,HLN.out⟩ hlt;cases hv:tb.getD p false with
    |false=>
     rw [hv] at hc
     have e:tks tb (p+1)=tks tb p:=by
      show tks tb p++(if tb.getD p false then [p] else [])=_;rw [hv];simp
     have HM1:Hid (m=(tks tb (p+1)).length):=(by unfold Hid;rw [e];exact HM.out);have HV1:Hid (VO 25 wr w.heap.size A c2 ((tks tb (p+1)).map jc)):=(by unfold Hid;rw [e];exact HV.out);clear hv e
     go_wp2
     exact ⟨⟨p+1,m,c2,A,hlt,by omega,rfl,by go_num,HM1,HV1,HB⟩,by simp [intOf];omega⟩
    |true=>
     rw [hv] at hc
     have e:tks tb (p+1)=tks tb p++[p]:=by
      show tks tb p++(if tb.getD p false then [p] else [])=_;rw [hv];rfl
     have HM1:Hid (m+1=(tks tb (p+1)).length):=(by unfold Hid;rw [e,List.length_append,HM.out];rfl);have HE:Hid (((tks tb p).map jc)++[.int .u32 (p:Int)]=(tks tb (p+1)).map jc):=(by unfold Hid;rw [e,List.map_append];rfl);have HM2:Hid (((tks tb p).map jc).length=m):=(by unfold Hid;rw [List.length_map,HM.out]);have hw:IntKind.u32.wrap (p:Int)=(p:Int):=(by rw [IntKind.wrap_u32];omega);have HX:Hid (Bw wr (wr.alloc (.cells #[.int .u32 (p:Int)] 25))):=bAx;have hcl:Hid ((wr.alloc (.cells #[.int .u32 (p:Int)] 25)).cell? ⟨wr.heap.size,0,none⟩=some (.int .u32 (p:Int))):=(by unfold Hid;simp);have hBx:w.heap.size<=(wr.alloc (.cells #[.int .u32 (p:Int)] 25)).heap.size:=Nat.le_trans HB.out.size HX.out.size;have HVO:Hid (VO 25 (wr.alloc (.cells #[.int .u32 (p:Int)] 25)) w.heap.size A c2 ((tks tb p).map jc)):=HV.out.kept HX.out;clear hv e;go_upto_region 4 with (with_reducible refine dQ rfl (.tmp 16) (.tmp 19) _ rfl 25 Tryz.underlying38 (.int .u32 0) 4 l9 rfl (by omega) w.heap.size A m c2 ((tks tb p).map jc) rfl HM2.out HVO.out wr.heap.size 1 (.int .u32 (p:Int)) rfl hcl.out rfl (by omega) hBx ?_;intro A' c4 w3 hd)
     have HV1:Hid (VO 25 w3 w.heap.size A' c4 ((tks tb (p+1)).map jc)):=by
      unfold Hid;have:=hd.out.vo;rw [HE.out] at this;exact this
     have HB3:Hid (Bw w w3):=(HB.out.trans (HX.out.mono HB.out.size)).trans hd.out.below;clear hd HVO hcl HX hBx HM2 HB HV hc;go_wp2_with fail
     exact ⟨⟨p+1,m+1,c4,A',hlt,by omega,rfl,by go_num,HM1,HV1,HB3⟩,by simp [intOf];omega⟩
  . obtain rfl:p=n:=by omega
    have hmc:m=cnt tb:=(by rw [HM.out,HC.out]);subst hmc
    go_wp2
    go_ret
    exact ⟨A,c2,rfl,by rw [HLN.out];exact HV.out,HB.out⟩
end Po
end Go.Proofs.YtjpjjnalpdpljaaGreatDoor
set_option maxHeartbeats 1000000
set_option maxRecDepth 100000
namespace Go.Proofs.YtjpjjnalpdpljaaGreatDoor
open Go.RowKit
open Go.Lib (hid)
namespace Sh
open Mem No Bu
def Lt (c:Cfg):Prop:=Cf.Right c.blocks c.bytes c.frames c.fan c.buffer c.leaf c.key c.val/\c.bytes<=3000/\c.blocks<=400
theorem lG (c:Cfg) (W:World) (v:Bool) (hv:v=true↔Lt c):CB 7 #[.agg (aZ c)] W (.bool v):=by
 obtain ⟨cB,cY,cF,cN,cU,cL,cKy,cV⟩:=c;unfold aZ;unfold Lt at hv;simp only at hv ⊢;by_cases hq9:Cf.Right cB cY cF cN cU cL cKy cV
 . have cQ:∀w,Hid (CB 31 #[.agg #[cB,cY,cF,cN,cU,cL,cKy,cV]] w (.bool true)):=fun w=>Cf.qE cB cY cF cN cU cL cKy cV w hq9
   by_cases h1:cY<=3000
   . by_cases h2:cB<=400
     . obtain rfl:v=true:=hv.2 ⟨hq9,h1,h2⟩
       clear hv hq9;go_enter Tryz.func7,Tryz.ntmps7
       go_upto_region 1 with fail
       have hx:=heap_alloc_new W (.cells #[cB,cY,cF,cN,cU,cL,cKy,cV] 23);have hb:Bw W (W.alloc (.cells #[cB,cY,cF,cN,cU,cL,cKy,cV] 23)):=bAx;generalize W.alloc (.cells #[cB,cY,cF,cN,cU,cL,cKy,cV] 23)=w1 at*;obtain ⟨g,hg⟩:∃g,g=W.heap.size:=⟨_,rfl⟩
       rw [<-hg] at hx;simp only [<-hg];clear hg;obtain ⟨a0,a1,a2,a3,a4,a5,a6,a7⟩:=Cf.aT hx;have HX:=hid hx;have HB:=hid hb;clear hx hb;go_wp2_with (go_at_call 31;refine (cQ _).out.mono ?_;rintro e w2 ⟨rfl,hb⟩;replace HX:=hid (aC HX.out hb);replace HB:=hid (HB.out.trans (hb.mono HB.out.size));clear hb cQ a0 a1 a2 a3 a4 a5 a6 a7;obtain ⟨a0,a1,a2,a3,a4,a5,a6,a7⟩:=Cf.aT HX.out)
       go_ret
       exact ⟨rfl,HB.out⟩
     . have h2n:decide (cB<=400)=false:=by simpa using h2
       obtain rfl:v=false:=Bool.eq_false_iff.2 fun h=>h2 (hv.1 h).2.2;clear hv hq9;go_enter Tryz.func7,Tryz.ntmps7
       go_upto_region 1 with fail
       have hx:=heap_alloc_new W (.cells #[cB,cY,cF,cN,cU,cL,cKy,cV] 23);have hb:Bw W (W.alloc (.cells #[cB,cY,cF,cN,cU,cL,cKy,cV] 23)):=bAx;generalize W.alloc (.cells #[cB,cY,cF,cN,cU,cL,cKy,cV] 23)=w1 at*;obtain ⟨g,hg⟩:∃g,g=W.heap.size:=⟨_,rfl⟩
       rw [<-hg] at hx;simp only [<-hg];clear hg;obtain ⟨a0,a1,a2,a3,a4,a5,a6,a7⟩:=Cf.aT hx;have HX:=hid hx;have HB:=hid hb;clear hx hb;go_wp2_with (go_at_call 31;refine (cQ _).out.mono ?_;rintro e w2 ⟨rfl,hb⟩;replace HX:=hid (aC HX.out hb);replace HB:=hid (HB.out.trans (hb.mono HB.out.size));clear hb cQ a0 a1 a2 a3 a4 a5 a6 a7;obtain ⟨a0,a1,a2,a3,a4,a5,a6,a7⟩:=Cf.aT HX.out)
       go_ret
       exact ⟨rfl,HB.out⟩
   . have h1n:decide (cY<=3000)=false:=by simpa using h1
     obtain rfl:v=false:=Bool.eq_false_iff.2 fun h=>h1 (hv.1 h).2.1;clear hv hq9;go_enter Tryz.func7,Tryz.ntmps7
     go_upto_region 1 with fail
     have hx:=heap_alloc_new W (.cells #[cB,cY,cF,cN,cU,cL,cKy,cV] 23);have hb:Bw W (W.alloc (.cells #[cB,cY,cF,cN,cU,cL,cKy,cV] 23)):=bAx;generalize W.alloc (.cells #[cB,cY,cF,cN,cU,cL,cKy,cV] 23)=w1 at*;obtain ⟨g,hg⟩:∃g,g=W.heap.size:=⟨_,rfl⟩
     rw [<-hg] at hx;simp only [<-hg];clear hg;obtain ⟨a0,a1,a2,a3,a4,a5,a6,a7⟩:=Cf.aT hx;have HX:=hid hx;have HB:=hid hb;clear hx hb;go_wp2_with (go_at_call 31;refine (cQ _).out.mono ?_;rintro e w2 ⟨rfl,hb⟩;replace HX:=hid (aC HX.out hb);replace HB:=hid (HB.out.trans (hb.mono HB.out.size));clear hb cQ a0 a1 a2 a3 a4 a5 a6 a7;obtain ⟨a0,a1,a2,a3,a4,a5,a6,a7⟩:=Cf.aT HX.out)
     go_ret
     exact ⟨rfl,HB.out⟩
 . have cQ:∀w,Hid (CB 31 #[.agg #[cB,cY,cF,cN,cU,cL,cKy,cV]] w (.bool false)):=fun w=>Cf.uU cB cY cF cN cU cL cKy cV w hq9
   obtain rfl:v=false:=Bool.eq_false_iff.2 fun h=>hq9 (hv.1 h).1;clear hv hq9;go_enter Tryz.func7,Tryz.ntmps7
   go_upto_region 1 with fail
   have hx:=heap_alloc_new W (.cells #[cB,cY,cF,cN,cU,cL,cKy,cV] 23);have hb:Bw W (W.alloc (.cells #[cB,cY,cF,cN,cU,cL,cKy,cV] 23)):=bAx;generalize W.alloc (.cells #[cB,cY,cF,cN,cU,cL,cKy,cV] 23)=w1 at*;obtain ⟨g,hg⟩:∃g,g=W.heap.size:=⟨_,rfl⟩
   rw [<-hg] at hx;simp only [<-hg];clear hg;obtain ⟨a0,a1,a2,a3,a4,a5,a6,a7⟩:=Cf.aT hx;have HX:=hid hx;have HB:=hid hb;clear hx hb;go_wp2_with (go_at_call 31;refine (cQ _).out.mono ?_;rintro e w2 ⟨rfl,hb⟩;replace HX:=hid (aC HX.out hb);replace HB:=hid (HB.out.trans (hb.mono HB.out.size));clear hb cQ a0 a1 a2 a3 a4 a5 a6 a7;obtain ⟨a0,a1,a2,a3,a4,a5,a6,a7⟩:=Cf.aT HX.out)
   go_ret
   exact ⟨rfl,HB.out⟩
end Sh
end Go.Proofs.YtjpjjnalpdpljaaGreatDoor
