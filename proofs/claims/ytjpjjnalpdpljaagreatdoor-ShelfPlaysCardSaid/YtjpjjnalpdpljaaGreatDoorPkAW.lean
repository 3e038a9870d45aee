import Derived.Test.YtjpjjnalpdpljaaGreatDoorPkAU
import Derived.Test.YtjpjjnalpdpljaaGreatDoorPkAL
import Derived.Deep.RegionWith
import Derived.Test.YtjpjjnalpdpljaaGreatDoorPqDrift
import Derived.Test.YtjpjjnalpdpljaaGreatDoorPkAD
import Derived.Lib.MinMaxS
import Derived.Deep.RegionHeld3
import Derived.Test.YtjpjjnalpdpljaaGreatDoorPkAV
set_option maxHeartbeats 2000000
set_option maxRecDepth 100000
namespace Go.Proofs.YtjpjjnalpdpljaaGreatDoor
open Go.RowKit
open Go.Lib (hid)
open ah (dL tc)
namespace Fa
open Mem Lx Bu
theorem AZ {W:World} {A A':Option Addr} {c c':Nat} {L L':List ByteArray} (h:SL W A L) (h':SL W A' L') (hl:L.length<=1048576) (_:L'.length<=1048576):Calls Tryz.prog 52 #[.slice A L.length c,.slice A' L'.length c'] W fun e w'=>(∃v:Bool,e=.returned (.bool v)/\(v=true↔L=L'))/\Bw W w':=by
 obtain ⟨n,hn⟩:∃n,n=L.length:=⟨_,rfl⟩
 by_cases hnn:L.length=L'.length
 case neg=>
  have HR:Hid (¬L=L'):=fun e=>hnn (by rw [e]);have hd:((L.length:Int) != (L'.length:Int))=true:=by simp;omega
  clear h h' hn hl;generalize L.length=n at*;generalize L'.length=n' at*;clear hnn;go_enter Tryz.func52,Tryz.ntmps52
  go_wp2
  go_ret
  exact ⟨⟨false,rfl,by simpa using HR.out⟩,Below.refl _ _⟩
 rw [<-hnn,<-hn];rw [<-hn] at hl;have HN:=hid hn;have HN':Hid (n=L'.length):=hn.trans hnn;have HH:=hid h;have HH':=hid h';clear h h' hn hnn;go_enter Tryz.func52,Tryz.ntmps52
 go_wp2_with fail
 go_loopg [5] n (fun gk iv wr=>∃k:Nat,k<=n/\gk=n-k/\iv= .int .i64 (k:Int)/\Hid (∀i,i<k->L[i]? =L'[i]?)/\Hid (Bw W wr))
 case atStart=>exact ⟨0,Nat.zero_le _,rfl,rfl,fun i hi=>by omega,Below.refl _ _⟩
 case round=>
  obtain ⟨k,hk,rfl,rfl,HE,HB⟩:=hrel;by_cases hlt:k<n
  . have hj:k<L.length:=by rw [<-HN.out];exact hlt
    have hj':k<L'.length:=(by rw [<-HN'.out];exact hlt);obtain ⟨x,hx⟩:∃x,x=L[k]:=⟨_,rfl⟩
    obtain ⟨y,hy⟩:∃y,y=L'[k]:=⟨_,rfl⟩
    have hx':=iH hj;have hy':=iH hj';rw [<-hx] at hx';rw [<-hy] at hy';obtain ⟨b,o,e,-,c0⟩:=RdK.str (HH.out.kept HB.out) hx';subst e;obtain ⟨b',o',e',-,d0⟩:=RdK.str (HH'.out.kept HB.out) hy';subst e';have HX:=hid hx';have HY:=hid hy';by_cases hxy:x=y
    . have hne:(x.toList==y.toList)=true:=by rw [fG];simpa using hxy
      have HE2:Hid (∀i,i<k+1->L[i]? =L'[i]?):=fun i hi=>by
       by_cases e:i=k
       . subst e
         rw [HX.out,HY.out,hxy]
       . exact HE.out i (by omega)
      clear hxy;have z0:=tc c0;have x0:=tc d0;have hw2:IntKind.i64.wrap ((k:Int)+1)=((k+1:Nat):Int):=(by rw [IntKind.wrap_i64];omega);clear c0 d0 hx hy hx' hy' hj hj';go_upto_region 6 with fail
      refine ah.aj [] [(0,[]),(1,[]),(2,[]),(3,[]),(4,[]),(5,[]),(6,[]),(7,[]),(8,[])] [] [] (by kernel_rfl) (by kernel_rfl) (by simp) ?_;simp only [ah.pick,ah.aO,dL]
      repeat (refine ah.ak (fun K hK=>?_);go_simp;(refine hK _ ?_;clear hK K))
      refine ah.walk_nil ?_;intro w2 hb _;have HB2:=hid (HB.out.trans (hb.mono HB.out.size));clear z0 x0 hb HB;simp only [lC,List.drop_nil,Nat.zero_add,Nat.reduceAdd];go_wp2_with fail
      go_roundg (n-(k+1))
      case measure=>omega
      case rel=>exact ⟨k+1,hlt,rfl,by go_num,HE2,HB2⟩
    . have hne:(x.toList==y.toList)=false:=by rw [fG];simpa using hxy
      have HN2:Hid (¬L=L'):=fun e=>hxy (by
       have h1:=HX.out;rw [e,HY.out] at h1
       exact (Option.some.inj h1).symm)
      clear hxy;have z0:=tc c0;have x0:=tc d0;have hw2:IntKind.i64.wrap ((k:Int)+1)=((k+1:Nat):Int):=(by rw [IntKind.wrap_i64];omega);clear c0 d0 hx hy hx' hy' hj hj';go_upto_region 6 with fail
      refine ah.aj [] [(0,[]),(1,[]),(2,[]),(3,[]),(4,[]),(5,[]),(6,[]),(7,[]),(8,[])] [] [] (by kernel_rfl) (by kernel_rfl) (by simp) ?_;simp only [ah.pick,ah.aO,dL]
      repeat (refine ah.ak (fun K hK=>?_);go_simp;(refine hK _ ?_;clear hK K))
      refine ah.walk_nil ?_;intro w2 hb _;have HB2:=hid (HB.out.trans (hb.mono HB.out.size));clear z0 x0 hb HB;simp only [lC,List.drop_nil,Nat.zero_add,Nat.reduceAdd];go_wp2_with fail
      go_ret
      exact ⟨⟨false,rfl,by simpa using HN2.out⟩,HB2.out⟩
  . have HR:Hid (L=L'):=by
     refine List.ext_getElem? fun i=>?_;by_cases hi:i<k
     . exact HE.out i hi
     . rw [List.getElem?_eq_none (by rw [<-HN.out];omega),List.getElem?_eq_none (by rw [<-HN'.out];omega)]
    obtain rfl:k=n:=(by omega);clear hlt;go_wp2_with fail
    go_ret
    exact ⟨⟨true,rfl,by simpa using HR.out⟩,HB.out⟩
end Fa
end Go.Proofs.YtjpjjnalpdpljaaGreatDoor
set_option maxHeartbeats 4000000
set_option maxRecDepth 100000
namespace Go.Proofs.YtjpjjnalpdpljaaGreatDoor
open Go.RowKit
open Go.Lib (hid)
namespace No
open Mem Lx Bu
open Lf (Pr PrK PL P3 PC)
open Fa (StK SL SC AL vE iI)
theorem Px {n n':Nd}:n=n'↔n.lv=n'.lv/\n.kids=n'.kids/\n.piv=n'.piv/\n.buf=n'.buf/\n.prs=n'.prs:=by
 obtain ⟨a,b,c,d,e⟩:=n;obtain ⟨a',b',c',d',e'⟩:=n';simp
theorem iW {W:World} {n n':Nd} {a a':At} (h:gK W n a) (h':gK W n' a') (hs:Sz n) (hs':Sz n'):Calls Tryz.prog 16 #[.agg (bL n a),.agg (bL n' a')] W fun e w'=>(∃v:Bool,e=.returned (.bool v)/\(v=true↔n=n'))/\Bw W w':=by
 obtain ⟨b1,hb1⟩:=bU (n.kids=n'.kids);obtain ⟨b2,hb2⟩:=bU (n.piv=n'.piv);obtain ⟨b3,hb3⟩:=bU (n.buf=n'.buf);obtain ⟨b4,hb4⟩:=bU (n.prs=n'.prs);have c1:∀(W1:World),Bw W W1->Hid (CB 51 #[.slice a.kA n.kids.length a.kc,.slice a'.kA n'.kids.length a'.kc] W1 (.bool b1)):=fun W1 hb=>(xG (c:=a.kc) (c':=a'.kc) (h.kept hb).kids.1 (h'.kept hb).kids.1 (Nat.le_trans hs.kl (by decide)) (Nat.le_trans hs'.kl (by decide))).mono fun e w' ⟨⟨v,he,hv⟩,hb⟩=>⟨by rw [he,dA hv hb1],hb⟩
 have c2:∀(W1:World),Bw W W1->Hid (CB 52 #[.slice a.pA n.piv.length a.pc,.slice a'.pA n'.piv.length a'.pc] W1 (.bool b2)):=fun W1 hb=>(Fa.AZ (c:=a.pc) (c':=a'.pc) (h.kept hb).piv.1 (h'.kept hb).piv.1 (Nat.le_trans hs.pl (by decide)) (Nat.le_trans hs'.pl (by decide))).mono fun e w' ⟨⟨v,he,hv⟩,hb⟩=>⟨by rw [he,dA hv hb2],hb⟩
 have c3:∀(W1:World),Bw W W1->Hid (CB 53 #[.slice a.bA n.buf.length a.bc,.slice a'.bA n'.buf.length a'.bc] W1 (.bool b3)):=fun W1 hb=>(Bu.iW (c:=a.bc) (c':=a'.bc) (h.kept hb).buf.1 (h'.kept hb).buf.1 (Nat.le_trans hs.bl (by decide)) (Nat.le_trans hs'.bl (by decide))).mono fun e w' ⟨⟨v,he,hv⟩,hb⟩=>⟨by rw [he,dA hv hb3],hb⟩
 have c4:∀(W1:World),Bw W W1->Hid (CB 54 #[.slice a.qA n.prs.length a.qc,.slice a'.qA n'.prs.length a'.qc] W1 (.bool b4)):=fun W1 hb=>(Lf.iW (c:=a.qc) (c':=a'.qc) (h.kept hb).prs.1 (h'.kept hb).prs.1 (Nat.le_trans hs.ql (by decide)) (Nat.le_trans hs'.ql (by decide))).mono fun e w' ⟨⟨v,he,hv⟩,hb⟩=>⟨by rw [he,dA hv hb4],hb⟩
 have HP:Hid (∀v:Bool,v=(decide (n.lv=n'.lv)&&b1&&b2&&b3&&b4)->(v=true↔n=n')):=fun v hv=>by
  subst hv;rw [Px,Bool.and_eq_true,Bool.and_eq_true,Bool.and_eq_true,Bool.and_eq_true,hb1,hb2,hb3,hb4,decide_eq_true_iff,and_assoc,and_assoc,and_assoc]
 generalize hPP:(n=n')=PP at*;clear hPP h h' hs hs' hb1 hb2 hb3 hb4;obtain ⟨lv,K,P,B,Q⟩:=n;obtain ⟨kA,kc,pA,pc,bA,bc,qA,qc⟩:=a;obtain ⟨lv',K',P',B',Q'⟩:=n';obtain ⟨kA',kc',pA',pc',bA',bc',qA',qc'⟩:=a';unfold bL at*;simp only at*;generalize K.length=kn at*;generalize P.length=pn at*;generalize B.length=bn at*;generalize Q.length=qn at*;generalize K'.length=kn' at*;generalize P'.length=pn' at*;generalize B'.length=bn' at*;generalize Q'.length=qn' at*;go_enter Tryz.func16,Tryz.ntmps16
 go_upto_region 1 with fail
 have h3:=aR W (.cells #[lv,.slice kA kn kc,.slice pA pn pc,.slice bA bn bc,.slice qA qn qc] 43) (.cells #[lv',.slice kA' kn' kc',.slice pA' pn' pc',.slice bA' bn' bc',.slice qA' qn' qc'] 43);generalize (W.alloc (.cells #[lv,.slice kA kn kc,.slice pA pn pc,.slice bA bn bc,.slice qA qn qc] 43)).alloc (.cells #[lv',.slice kA' kn' kc',.slice pA' pn' pc',.slice bA' bn' bc',.slice qA' qn' qc'] 43)=w1 at*;have HB:=hid h3.2.2;obtain ⟨g,hg⟩:∃g,g=W.heap.size:=⟨_,rfl⟩
 simp only [<-hg];have HX:Hid (w1.heap[g]? =some (.cells #[lv,.slice kA kn kc,.slice pA pn pc,.slice bA bn bc,.slice qA qn qc] 43 (0,0))):=by rw [hg];exact h3.1
 have HY:Hid (w1.heap[g+1]? =some (.cells #[lv',.slice kA' kn' kc',.slice pA' pn' pc',.slice bA' bn' bc',.slice qA' qn' qc'] 43 (0,0))):=by rw [hg];exact h3.2.1
 clear h3 hg;obtain ⟨d0,d1,d2,d3,d4⟩:=aG HX.out;obtain ⟨e0,e1,e2,e3,e4⟩:=aG HY.out;by_cases hlv:lv=lv'
 case neg=>
  have hne:¬(lv=lv'):=hlv
  go_wp2_with (first
   |(go_at_call 51;refine (c1 _ HB.out).out.mono ?_;rintro e w2 ⟨rfl,hb⟩;replace HB:=hid (HB.out.trans (hb.mono HB.out.size));replace HX:=hid (aC HX.out hb);replace HY:=hid (aC HY.out hb);replace d1:=(aG HX.out).2.1;replace d2:=(aG HX.out).2.2.1;replace d3:=(aG HX.out).2.2.2.1;replace d4:=(aG HX.out).2.2.2.2;replace e1:=(aG HY.out).2.1;replace e2:=(aG HY.out).2.2.1;replace e3:=(aG HY.out).2.2.2.1;replace e4:=(aG HY.out).2.2.2.2;clear hb)
   |(go_at_call 52;refine (c2 _ HB.out).out.mono ?_;rintro e w2 ⟨rfl,hb⟩;replace HB:=hid (HB.out.trans (hb.mono HB.out.size));replace HX:=hid (aC HX.out hb);replace HY:=hid (aC HY.out hb);replace d1:=(aG HX.out).2.1;replace d2:=(aG HX.out).2.2.1;replace d3:=(aG HX.out).2.2.2.1;replace d4:=(aG HX.out).2.2.2.2;replace e1:=(aG HY.out).2.1;replace e2:=(aG HY.out).2.2.1;replace e3:=(aG HY.out).2.2.2.1;replace e4:=(aG HY.out).2.2.2.2;clear hb)
   |(go_at_call 53;refine (c3 _ HB.out).out.mono ?_;rintro e w2 ⟨rfl,hb⟩;replace HB:=hid (HB.out.trans (hb.mono HB.out.size));replace HX:=hid (aC HX.out hb);replace HY:=hid (aC HY.out hb);replace d1:=(aG HX.out).2.1;replace d2:=(aG HX.out).2.2.1;replace d3:=(aG HX.out).2.2.2.1;replace d4:=(aG HX.out).2.2.2.2;replace e1:=(aG HY.out).2.1;replace e2:=(aG HY.out).2.2.1;replace e3:=(aG HY.out).2.2.2.1;replace e4:=(aG HY.out).2.2.2.2;clear hb)
   |(go_at_call 54;refine (c4 _ HB.out).out.mono ?_;rintro e w2 ⟨rfl,hb⟩;replace HB:=hid (HB.out.trans (hb.mono HB.out.size));replace HX:=hid (aC HX.out hb);replace HY:=hid (aC HY.out hb);replace d1:=(aG HX.out).2.1;replace d2:=(aG HX.out).2.2.1;replace d3:=(aG HX.out).2.2.2.1;replace d4:=(aG HX.out).2.2.2.2;replace e1:=(aG HY.out).2.1;replace e2:=(aG HY.out).2.2.1;replace e3:=(aG HY.out).2.2.2.1;replace e4:=(aG HY.out).2.2.2.2;clear hb))
  go_ret
  exact ⟨⟨false,rfl,HP.out false (by simp [hlv])⟩,HB.out⟩
 subst hlv;cases b1 with
 |false=>
  go_wp2_with (first
   |(go_at_call 51;refine (c1 _ HB.out).out.mono ?_;rintro e w2 ⟨rfl,hb⟩;replace HB:=hid (HB.out.trans (hb.mono HB.out.size));replace HX:=hid (aC HX.out hb);replace HY:=hid (aC HY.out hb);replace d1:=(aG HX.out).2.1;replace d2:=(aG HX.out).2.2.1;replace d3:=(aG HX.out).2.2.2.1;replace d4:=(aG HX.out).2.2.2.2;replace e1:=(aG HY.out).2.1;replace e2:=(aG HY.out).2.2.1;replace e3:=(aG HY.out).2.2.2.1;replace e4:=(aG HY.out).2.2.2.2;clear hb)
   |(go_at_call 52;refine (c2 _ HB.out).out.mono ?_;rintro e w2 ⟨rfl,hb⟩;replace HB:=hid (HB.out.trans (hb.mono HB.out.size));replace HX:=hid (aC HX.out hb);replace HY:=hid (aC HY.out hb);replace d1:=(aG HX.out).2.1;replace d2:=(aG HX.out).2.2.1;replace d3:=(aG HX.out).2.2.2.1;replace d4:=(aG HX.out).2.2.2.2;replace e1:=(aG HY.out).2.1;replace e2:=(aG HY.out).2.2.1;replace e3:=(aG HY.out).2.2.2.1;replace e4:=(aG HY.out).2.2.2.2;clear hb)
   |(go_at_call 53;refine (c3 _ HB.out).out.mono ?_;rintro e w2 ⟨rfl,hb⟩;replace HB:=hid (HB.out.trans (hb.mono HB.out.size));replace HX:=hid (aC HX.out hb);replace HY:=hid (aC HY.out hb);replace d1:=(aG HX.out).2.1;replace d2:=(aG HX.out).2.2.1;replace d3:=(aG HX.out).2.2.2.1;replace d4:=(aG HX.out).2.2.2.2;replace e1:=(aG HY.out).2.1;replace e2:=(aG HY.out).2.2.1;replace e3:=(aG HY.out).2.2.2.1;replace e4:=(aG HY.out).2.2.2.2;clear hb)
   |(go_at_call 54;refine (c4 _ HB.out).out.mono ?_;rintro e w2 ⟨rfl,hb⟩;replace HB:=hid (HB.out.trans (hb.mono HB.out.size));replace HX:=hid (aC HX.out hb);replace HY:=hid (aC HY.out hb);replace d1:=(aG HX.out).2.1;replace d2:=(aG HX.out).2.2.1;replace d3:=(aG HX.out).2.2.2.1;replace d4:=(aG HX.out).2.2.2.2;replace e1:=(aG HY.out).2.1;replace e2:=(aG HY.out).2.2.1;replace e3:=(aG HY.out).2.2.2.1;replace e4:=(aG HY.out).2.2.2.2;clear hb))
  go_ret
  exact ⟨⟨false,rfl,HP.out false (by simp)⟩,HB.out⟩
 |true=>
  cases b2 with
  |false=>
   go_wp2_with (first
    |(go_at_call 51;refine (c1 _ HB.out).out.mono ?_;rintro e w2 ⟨rfl,hb⟩;replace HB:=hid (HB.out.trans (hb.mono HB.out.size));replace HX:=hid (aC HX.out hb);replace HY:=hid (aC HY.out hb);replace d1:=(aG HX.out).2.1;replace d2:=(aG HX.out).2.2.1;replace d3:=(aG HX.out).2.2.2.1;replace d4:=(aG HX.out).2.2.2.2;replace e1:=(aG HY.out).2.1;replace e2:=(aG HY.out).2.2.1;replace e3:=(aG HY.out).2.2.2.1;replace e4:=(aG HY.out).2.2.2.2;clear hb)
    |(go_at_call 52;refine (c2 _ HB.out).out.mono ?_;rintro e w2 ⟨rfl,hb⟩;replace HB:=hid (HB.out.trans (hb.mono HB.out.size));replace HX:=hid (aC HX.out hb);replace HY:=hid (aC HY.out hb);replace d1:=(aG HX.out).2.1;replace d2:=(aG HX.out).2.2.1;replace d3:=(aG HX.out).2.2.2.1;replace d4:=(aG HX.out).2.2.2.2;replace e1:=(aG HY.out).2.1;replace e2:=(aG HY.out).2.2.1;replace e3:=(aG HY.out).2.2.2.1;replace e4:=(aG HY.out).2.2.2.2;clear hb)
    |(go_at_call 53;refine (c3 _ HB.out).out.mono ?_;rintro e w2 ⟨rfl,hb⟩;replace HB:=hid (HB.out.trans (hb.mono HB.out.size));replace HX:=hid (aC HX.out hb);replace HY:=hid (aC HY.out hb);replace d1:=(aG HX.out).2.1;replace d2:=(aG HX.out).2.2.1;replace d3:=(aG HX.out).2.2.2.1;replace d4:=(aG HX.out).2.2.2.2;replace e1:=(aG HY.out).2.1;replace e2:=(aG HY.out).2.2.1;replace e3:=(aG HY.out).2.2.2.1;replace e4:=(aG HY.out).2.2.2.2;clear hb)
    |(go_at_call 54;refine (c4 _ HB.out).out.mono ?_;rintro e w2 ⟨rfl,hb⟩;replace HB:=hid (HB.out.trans (hb.mono HB.out.size));replace HX:=hid (aC HX.out hb);replace HY:=hid (aC HY.out hb);replace d1:=(aG HX.out).2.1;replace d2:=(aG HX.out).2.2.1;replace d3:=(aG HX.out).2.2.2.1;replace d4:=(aG HX.out).2.2.2.2;replace e1:=(aG HY.out).2.1;replace e2:=(aG HY.out).2.2.1;replace e3:=(aG HY.out).2.2.2.1;replace e4:=(aG HY.out).2.2.2.2;clear hb))
   go_ret
   exact ⟨⟨false,rfl,HP.out false (by simp)⟩,HB.out⟩
  |true=>
   cases b3 with
   |false=>
    go_wp2_with (first
     |(go_at_call 51;refine (c1 _ HB.out).out.mono ?_;rintro e w2 ⟨rfl,hb⟩;replace HB:=hid (HB.out.trans (hb.mono HB.out.size));replace HX:=hid (aC HX.out hb);replace HY:=hid (aC HY.out hb);replace d1:=(aG HX.out).2.1;replace d2:=(aG HX.out).2.2.1;replace d3:=(aG HX.out).2.2.2.1;replace d4:=(aG HX.out).2.2.2.2;replace e1:=(aG HY.out).2.1;replace e2:=(aG HY.out).2.2.1;replace e3:=(aG HY.out).2.2.2.1;replace e4:=(aG HY.out).2.2.2.2;clear hb)
     |(go_at_call 52;refine (c2 _ HB.out).out.mono ?_;rintro e w2 ⟨rfl,hb⟩;replace HB:=hid (HB.out.trans (hb.mono HB.out.size));replace HX:=hid (aC HX.out hb);replace HY:=hid (aC HY.out hb);replace d1:=(aG HX.out).2.1;replace d2:=(aG HX.out).2.2.1;replace d3:=(aG HX.out).2.2.2.1;replace d4:=(aG HX.out).2.2.2.2;replace e1:=(aG HY.out).2.1;replace e2:=(aG HY.out).2.2.1;replace e3:=(aG HY.out).2.2.2.1;replace e4:=(aG HY.out).2.2.2.2;clear hb)
     |(go_at_call 53;refine (c3 _ HB.out).out.mono ?_;rintro e w2 ⟨rfl,hb⟩;replace HB:=hid (HB.out.trans (hb.mono HB.out.size));replace HX:=hid (aC HX.out hb);replace HY:=hid (aC HY.out hb);replace d1:=(aG HX.out).2.1;replace d2:=(aG HX.out).2.2.1;replace d3:=(aG HX.out).2.2.2.1;replace d4:=(aG HX.out).2.2.2.2;replace e1:=(aG HY.out).2.1;replace e2:=(aG HY.out).2.2.1;replace e3:=(aG HY.out).2.2.2.1;replace e4:=(aG HY.out).2.2.2.2;clear hb)
     |(go_at_call 54;refine (c4 _ HB.out).out.mono ?_;rintro e w2 ⟨rfl,hb⟩;replace HB:=hid (HB.out.trans (hb.mono HB.out.size));replace HX:=hid (aC HX.out hb);replace HY:=hid (aC HY.out hb);replace d1:=(aG HX.out).2.1;replace d2:=(aG HX.out).2.2.1;replace d3:=(aG HX.out).2.2.2.1;replace d4:=(aG HX.out).2.2.2.2;replace e1:=(aG HY.out).2.1;replace e2:=(aG HY.out).2.2.1;replace e3:=(aG HY.out).2.2.2.1;replace e4:=(aG HY.out).2.2.2.2;clear hb))
    go_ret
    exact ⟨⟨false,rfl,HP.out false (by simp)⟩,HB.out⟩
   |true=>
    go_wp2_with (first
     |(go_at_call 51;refine (c1 _ HB.out).out.mono ?_;rintro e w2 ⟨rfl,hb⟩;replace HB:=hid (HB.out.trans (hb.mono HB.out.size));replace HX:=hid (aC HX.out hb);replace HY:=hid (aC HY.out hb);replace d1:=(aG HX.out).2.1;replace d2:=(aG HX.out).2.2.1;replace d3:=(aG HX.out).2.2.2.1;replace d4:=(aG HX.out).2.2.2.2;replace e1:=(aG HY.out).2.1;replace e2:=(aG HY.out).2.2.1;replace e3:=(aG HY.out).2.2.2.1;replace e4:=(aG HY.out).2.2.2.2;clear hb)
     |(go_at_call 52;refine (c2 _ HB.out).out.mono ?_;rintro e w2 ⟨rfl,hb⟩;replace HB:=hid (HB.out.trans (hb.mono HB.out.size));replace HX:=hid (aC HX.out hb);replace HY:=hid (aC HY.out hb);replace d1:=(aG HX.out).2.1;replace d2:=(aG HX.out).2.2.1;replace d3:=(aG HX.out).2.2.2.1;replace d4:=(aG HX.out).2.2.2.2;replace e1:=(aG HY.out).2.1;replace e2:=(aG HY.out).2.2.1;replace e3:=(aG HY.out).2.2.2.1;replace e4:=(aG HY.out).2.2.2.2;clear hb)
     |(go_at_call 53;refine (c3 _ HB.out).out.mono ?_;rintro e w2 ⟨rfl,hb⟩;replace HB:=hid (HB.out.trans (hb.mono HB.out.size));replace HX:=hid (aC HX.out hb);replace HY:=hid (aC HY.out hb);replace d1:=(aG HX.out).2.1;replace d2:=(aG HX.out).2.2.1;replace d3:=(aG HX.out).2.2.2.1;replace d4:=(aG HX.out).2.2.2.2;replace e1:=(aG HY.out).2.1;replace e2:=(aG HY.out).2.2.1;replace e3:=(aG HY.out).2.2.2.1;replace e4:=(aG HY.out).2.2.2.2;clear hb)
     |(go_at_call 54;refine (c4 _ HB.out).out.mono ?_;rintro e w2 ⟨rfl,hb⟩;replace HB:=hid (HB.out.trans (hb.mono HB.out.size));replace HX:=hid (aC HX.out hb);replace HY:=hid (aC HY.out hb);replace d1:=(aG HX.out).2.1;replace d2:=(aG HX.out).2.2.1;replace d3:=(aG HX.out).2.2.2.1;replace d4:=(aG HX.out).2.2.2.2;replace e1:=(aG HY.out).2.1;replace e2:=(aG HY.out).2.2.1;replace e3:=(aG HY.out).2.2.2.1;replace e4:=(aG HY.out).2.2.2.2;clear hb))
    go_ret
    exact ⟨⟨b4,rfl,HP.out b4 (by simp)⟩,HB.out⟩
end No
end Go.Proofs.YtjpjjnalpdpljaaGreatDoor
set_option maxHeartbeats 400000
set_option maxRecDepth 100000
namespace Go.Proofs.YtjpjjnalpdpljaaGreatDoor
open Go.RowKit
namespace Lx
theorem tu (a b:ByteArray) (w:World):
 CW 214 #[.string a,.string b] w (.int .i64 (bV a b)):=by
 go_enter Tryz.func214,Tryz.ntmps214
 go_wp2
 rw [run_callFunc_extern Tryz.func215 (by kernel_rfl) (by kernel_rfl) (by kernel_rfl) (e:=Extern.BytealgCompare.compare) (by kernel_rfl),Lib.run_compareString];simp only [Result.andThen];rw [Oper.upon_value]
 go_wp2
 go_ret
 exact ⟨rfl,rfl⟩
theorem lU (a b:ByteArray) (w:World):
 CW 211 #[.string a,.string b] w (.int .i64 (bV a b)):=by
 go_enter Tryz.func211,Tryz.ntmps211
 go_wp2_with (go_at_call 214;refine (tu _ _ _).mono ?_;rintro e w' ⟨rfl,rfl⟩)
 go_ret
 exact ⟨rfl,rfl⟩
theorem iy (a b:ByteArray) (w:World):
 CW 199 #[.string a,.string b] w (.int .i64 (bV a b)):=by
 go_enter Tryz.func199,Tryz.ntmps199
 go_wp2_with (go_at_call 211;refine (lU _ _ _).mono ?_;rintro e w' ⟨rfl,rfl⟩)
 go_ret
 exact ⟨rfl,rfl⟩
theorem QB (a b:ByteArray) (w:World):CB 199 #[.string a,.string b] w (.int .i64 (bV a b)):=
 (iy a b w).mono fun e w' ⟨he,hw⟩=>⟨he,by subst hw;exact Below.refl _ _⟩
end Lx
end Go.Proofs.YtjpjjnalpdpljaaGreatDoor
set_option maxHeartbeats 1000000
set_option maxRecDepth 100000
namespace Go.Proofs.YtjpjjnalpdpljaaGreatDoor
open Go.RowKit
namespace Lx
theorem Jf (lo hi:ByteArray) (top:Bool) (key:ByteArray) (w:World):
 CB 198 #[fu lo hi top,.string key] w (.bool (inB lo hi top key)):=by
 by_cases h1:bV lo key<=0
 . cases top
   . have HR:Hid (inB lo hi false key=decide (bV key hi<0)):=Lib.hid (by simp [inB,h1])
     go_enter Tryz.func198,Tryz.ntmps198
     go_wp2_with (go_at_call 199;refine (iy _ _ _).mono ?_;rintro e w' ⟨rfl,rfl⟩)
     go_ret
     exact ⟨dS (by rw [HR.out]),bAx⟩
   . have HR:Hid (inB lo hi true key=true):=Lib.hid (by simp [inB,h1])
     go_enter Tryz.func198,Tryz.ntmps198
     go_wp2_with (go_at_call 199;refine (iy _ _ _).mono ?_;rintro e w' ⟨rfl,rfl⟩)
     go_ret
     exact ⟨dS (by rw [HR.out]),bAx⟩
 . have HR:Hid (inB lo hi top key=false):=Lib.hid (by simp [inB,h1])
   have h1':decide (bV lo key<=0)=false:=(by simpa using h1);go_enter Tryz.func198,Tryz.ntmps198
   go_wp2_with (go_at_call 199;refine (iy _ _ _).mono ?_;rintro e w' ⟨rfl,rfl⟩)
   go_ret
   exact ⟨dS (by rw [HR.out]),bAx⟩
end Lx
end Go.Proofs.YtjpjjnalpdpljaaGreatDoor
set_option maxHeartbeats 4000000
set_option maxRecDepth 100000
namespace Go.Proofs.YtjpjjnalpdpljaaGreatDoor
open Go.RowKit
open Go.Lib (hid)
namespace Fa
open Mem Lx Bu
def KN (L:List ByteArray) (lo:ByteArray):Nat->ByteArray
 |0=>lo
 |i+1=>(L[i]?).getD lo
theorem EF {L:List ByteArray} {lo hi:ByteArray} {top:Bool}:iI L lo hi top↔∀(i:Nat) (x:ByteArray),L[i]? =some x->bV (KN L lo i) x<0/\inB lo hi top x=true:=by
 constructor
 . rintro ⟨h1,h2⟩ i x hx
   have h3:=h1 x (List.mem_of_getElem? hx);refine ⟨?_,h3.1⟩;cases i with
   |zero=>
    show bV lo x<0;have h4:=(KI.1 h3.1).1;rcases zo lo x with h5|h5|h5
    . exact h5
    . exact absurd h5.symm h3.2
    . have:=sW lo x
      omega
   |succ i=>
    obtain ⟨y,hy⟩:∃y,L[i]? =some y:=⟨L[i]'(by have:=(List.getElem?_eq_some_iff.1 hx).1;omega),List.getElem?_eq_getElem _⟩
    show bV ((L[i]?).getD lo) x<0;rw [hy];exact h2 i y x hy hx
 . intro h
   have hr:vE L:=fun i a b ha hb=>by
    have this:bV ((L[i]?).getD lo) b<0:=(h (i+1) b hb).1;rw [ha] at this;exact this
   refine ⟨fun p hp=>?_,hr⟩;obtain ⟨i,hi⟩:=List.mem_iff_getElem?.1 hp;refine ⟨(h i p hi).2,?_⟩;obtain ⟨x0,h0⟩:∃x0,L[0]? =some x0:=⟨L[0]'(by have:=(List.getElem?_eq_some_iff.1 hi).1;omega),List.getElem?_eq_getElem _⟩
   have h1:=(h 0 _ h0).1;rcases Nat.eq_zero_or_pos i with rfl|h2
   . rw [hi] at h0
     (cases h0);exact (Es h1).symm
   . exact (Es (mJ h1 ((Et.1 hr).at_ h0 hi h2))).symm
theorem EG {W:World} {A:Option Addr} {c:Nat} {L:List ByteArray} (h:SC W A c L) (lo hi:ByteArray) (top:Bool) (hl:L.length<=1000):Calls Tryz.prog 177 #[.slice A L.length c,.agg #[.string lo,.string hi,.bool top]] W fun e w'=>(∃v:Bool,e=.returned (.bool v)/\(v=true↔iI L lo hi top))/\Bw W w':=by
 have HH:Hid (SL W A L):=h.1;obtain ⟨P,hP⟩:∃P:Prop,P=iI L lo hi top:=⟨_,rfl⟩
 have HP:Hid (P↔∀(i:Nat) (x:ByteArray),L[i]? =some x->bV (KN L lo i) x<0/\inB lo hi top x=true):=by rw [hP];exact EF
 rw [<-hP];generalize hn:L.length=n at*;have HN:=hid hn;clear h hn hP;go_enter Tryz.func177,Tryz.ntmps177
 go_upto_region 1 with fail
 have hx:=heap_alloc_new W (.cells #[.string lo,.string hi,.bool top] 152);have hb0:Bw W (W.alloc (.cells #[.string lo,.string hi,.bool top] 152)):=bAx;generalize W.alloc (.cells #[.string lo,.string hi,.bool top] 152)=w1 at*;obtain ⟨g,hg⟩:∃g,g=W.heap.size:=⟨_,rfl⟩
 rw [<-hg] at hx ⊢;obtain ⟨d0,d1,d2⟩:=bR hx;have HX:=hid hx;have HB:=hid hb0;clear hx hb0 hg;go_upto_region 2 with fail
 clear d0 d1 d2;go_wp2_with fail
 go_loopg [5,12] n (fun gk av iv wr=>∃k:Nat,k<=n/\gk=n-k/\av= .string (KN L lo k)/\iv= .int .i64 (k:Int)/\Hid (∀(i:Nat) (x:ByteArray),i<k->L[i]? =some x->bV (KN L lo i) x<0/\inB lo hi top x=true)/\Hid (Bw W wr/\wr.heap[g]? =some (.cells #[.string lo,.string hi,.bool top] 152 (0,0))))
 case atStart=>exact ⟨0,Nat.zero_le _,rfl,rfl,rfl,fun i x hi=>by omega,HB.out,HX.out⟩
 case round=>
  clear HB HX;obtain ⟨k,hkn,rfl,rfl,rfl,HE,HB⟩:=hrel;by_cases hlt:k<n
  . have hj:k<L.length:=by rw [HN.out];exact hlt
    obtain ⟨x,hx⟩:∃x,x=L[k]:=⟨_,rfl⟩
    have hx':=iH hj;rw [<-hx] at hx';obtain ⟨b,o,e,-,c0⟩:=RdK.str (HH.out.kept HB.out.1) hx';subst e;obtain ⟨d0,d1,d2⟩:=bR HB.out.2;have HXX:=hid hx'
    have HA2:Hid (KN L lo (k+1)=x):=by
     show (L[k]?).getD lo=x;rw [hx'];rfl
    have hw:IntKind.i64.wrap ((k:Int)+1)=((k+1:Nat):Int):=(by rw [IntKind.wrap_i64];omega);obtain ⟨a,ha⟩:∃a,a=KN L lo k:=⟨_,rfl⟩
    rw [<-ha];have HAA:=hid ha;have cC:=fun w=>hid (iy a x w);have cI:=fun w=>hid (Jf lo hi top x w);clear hx hx' hj ha;by_cases hz:bV a x<0
    . have HE2:Hid (inB lo hi top x=true->∀(i:Nat) (y:ByteArray),i<k+1->L[i]? =some y->bV (KN L lo i) y<0/\inB lo hi top y=true):=fun hin i y hi hy=>by
       by_cases e:i=k
       . subst e
         rw [HXX.out] at hy;(cases hy);exact ⟨by rw [<-HAA.out];exact hz,hin⟩
       . exact HE.out i y (by omega) hy
      have hd:decide (0<=bV a x)=false:=(by simpa using hz);clear hz;generalize bV a x=z at*;obtain ⟨t,ht⟩:∃t,t=inB lo hi top x:=⟨_,rfl⟩
      rw [<-ht] at cI;have HT:=hid ht;clear ht;cases t with
      |true=>
       go_wp2_with first|(go_at_call 199;refine (cC _).out.mono ?_;rintro e w' ⟨rfl,rfl⟩)|(go_at_call 198;refine (cI _).out.mono ?_;rintro e w' ⟨rfl,hb⟩)
       have HB2:Hid (Bw W w'/\w'.heap[g]? =some (.cells #[.string lo,.string hi,.bool top] 152 (0,0))):=⟨HB.out.1.trans (hb.mono HB.out.1.size),aC HB.out.2 hb⟩
       go_roundg (n-(k+1))
       case measure=>omega
       case rel=>exact ⟨k+1,hlt,rfl,by rw [HA2.out],by go_num,HE2.out HT.out.symm,HB2⟩
      |false=>
       have HF:Hid (¬P):=fun hp=>by
        have:=(HP.out.1 hp k x HXX.out).2;rw [<-HT.out] at this;cases this
       go_wp2_with first|(go_at_call 199;refine (cC _).out.mono ?_;rintro e w' ⟨rfl,rfl⟩)|(go_at_call 198;refine (cI _).out.mono ?_;rintro e w' ⟨rfl,hb⟩)
       go_ret
       exact ⟨⟨false,rfl,by simpa using HF.out⟩,HB.out.1.trans (hb.mono HB.out.1.size)⟩
    . have HF:Hid (¬P):=fun hp=>by
       have:=(HP.out.1 hp k x HXX.out).1;rw [<-HAA.out] at this;exact hz this
      have hd:0<=bV a x:=(by omega);clear hz;generalize bV a x=z at*;go_wp2_with (go_at_call 199;refine (cC _).out.mono ?_;rintro e w' ⟨rfl,rfl⟩)
      go_ret
      exact ⟨⟨false,rfl,by simpa using HF.out⟩,HB.out.1⟩
  . have HT:Hid P:=HP.out.2 fun i x hx=>HE.out i x (by
     have:=(List.getElem?_eq_some_iff.1 hx).1;rw [HN.out] at this
     omega) hx
    obtain rfl:k=n:=(by omega);clear hlt;go_wp2_with fail
    go_ret
    exact ⟨⟨true,rfl,by simpa using HT.out⟩,HB.out.1⟩
theorem jN {W:World} {A:Option Addr} {c:Nat} {L:List ByteArray} (h:SC W A c L) (lo hi:ByteArray) (top:Bool) (_:lo.size<=1000) (_:hi.size<=1000) (_:∀m,m∈L->m.size<=1000) (hl:L.length<=1000):Calls Tryz.prog 177 #[.slice A L.length c,.agg #[.string lo,.string hi,.bool top]] W fun e w'=>(∃v:Bool,e=.returned (.bool v)/\(v=true↔iI L lo hi top))/\Bw W w':=EG h lo hi top hl
end Fa
end Go.Proofs.YtjpjjnalpdpljaaGreatDoor
set_option maxHeartbeats 2000000
set_option maxRecDepth 100000
namespace Go.Proofs.YtjpjjnalpdpljaaGreatDoor
open Go.RowKit
open Go.Lib (hid)
namespace Bu
open Mem Lx
theorem jN {W:World} {A:Option Addr} {c:Nat} {L:List Mg} (h:ML W A L) (hk:∀m,m∈L->m.1.size<=maxLen) (hl:L.length<=1048576):Calls Tryz.prog 178 #[.slice A L.length c] W fun e w'=>(∃v:Bool,e=.returned (.bool v)/\(v=true↔AO L))/\Bw W w':=by
 obtain ⟨n,hn⟩:∃n,n=L.length:=⟨_,rfl⟩
 have HN:=hid hn;have HH:=hid h;have HK:=hid hk;rw [<-hn] at hl ⊢;clear h hk hn;go_enter Tryz.func178,Tryz.ntmps178
 go_wp2_with fail
 go_loopg [3] (n-1) (fun gk iv wr=>∃k:Nat,1<=k/\(k=1\/k<=n)/\gk=n-k/\iv= .int .i64 (k:Int)/\Hid (∀(i:Nat) (a b:Mg),i+1<k->L[i]? =some a->L[i+1]? =some b->bV a.1 b.1<0)/\Hid (Bw W wr))
 case atStart=>exact ⟨1,Nat.le_refl _,.inl rfl,rfl,rfl,fun i a b hi=>by omega,Below.refl _ _⟩
 case round=>
  obtain ⟨k,hk1,hkn,rfl,rfl,HE,HB⟩:=hrel;by_cases hlt:k<n
  . obtain ⟨j,hjk⟩:∃j,k=j+1:=⟨k-1,by omega⟩
    have hj:j<L.length:=(by rw [<-HN.out];omega);have hj1:k<L.length:=(by rw [<-HN.out];omega);obtain ⟨x,hx⟩:∃x,x=L[j]:=⟨_,rfl⟩
    obtain ⟨y,hy⟩:∃y,y=L[k]:=⟨_,rfl⟩
    have hx':=dB hj;have hy':=dB hj1;rw [<-hx] at hx';rw [<-hy] at hy';obtain ⟨b,o,e,hc⟩:=RdK.place (HH.out.kept HB.out) (Nat.lt_of_le_of_lt (Nat.zero_le _) hj);subst e;obtain ⟨c0,-,-⟩:=hc j x hx';obtain ⟨c1,-,-⟩:=hc k y hy';have cC:=fun w=>hid (QB x.1 y.1 w);have HX:=hid hx';have HY:=hid hy';have z0:=ah.tc c0;have z1:=ah.tc c1;have hw1:IntKind.i64.wrap ((k:Int)-1)=(j:Int):=(by rw [IntKind.wrap_i64];omega);have hw2:IntKind.i64.wrap ((k:Int)+1)=((k+1:Nat):Int):=(by rw [IntKind.wrap_i64];omega);have HJ:=hid hjk;have hjn:j<n:=(by omega);clear hc c0 c1 hx hy hx' hy' hj hj1 hjk;go_upto_region 4 with fail
    refine ah.aj [] [(0,[]),(1,[]),(2,[]),(3,[]),(4,[]),(5,[]),(6,[]),(7,[]),(8,[]),(9,[]),(10,[]),(11,[]),(12,[])] [] [] (by kernel_rfl) (by kernel_rfl) (by simp) ?_;simp only [ah.pick,ah.aO,ah.dL]
    repeat (refine ah.ak (fun K hK=>?_);go_simp;first|(refine hK _ ?_;clear hK K)|(apply Exists.intro;refine ⟨fun q=>?_,hK _ ?_⟩;(go_at_call 199;exact (cC _).out);clear hK K))
    refine ah.walk_nil ?_;intro w2 hb _;have HB2:=hid (HB.out.trans (hb.mono HB.out.size));clear z0 z1 hw1 hb HB cC;simp only [lC,List.drop_nil,Nat.zero_add,Nat.reduceAdd];by_cases hcm:bV x.1 y.1<0
    . have hd:decide (0<=bV x.1 y.1)=false:=by simpa using hcm
      have HE2:Hid (∀(i:Nat) (a b:Mg),i+1<k+1->L[i]? =some a->L[i+1]? =some b->bV a.1 b.1<0):=fun i a b hi ha hb=>by
       by_cases e:i=j
       . subst e
         rw [HX.out] at ha;rw [<-HJ.out,HY.out] at hb;(cases ha);(cases hb);exact hcm
       . exact HE.out i a b (by have:=HJ.out;omega) ha hb
      generalize bV x.1 y.1=z at*;clear hd;go_wp2_with fail
      go_roundg (n-(k+1))
      case measure=>omega
      case rel=>exact ⟨k+1,by omega,.inr hlt,rfl,by go_num,HE2,HB2⟩
    . have HN2:Hid (¬AO L):=fun hr=>hcm (hr j x y HX.out (by rw [<-HJ.out];exact HY.out))
      have hd:0<=bV x.1 y.1:=(by omega);clear hcm;generalize bV x.1 y.1=z at*;go_wp2_with fail
      go_ret
      exact ⟨⟨false,rfl,by simpa using HN2.out⟩,HB2.out⟩
  . have HR:Hid (AO L):=fun i a b ha hb=>HE.out i a b (by
     have:=(List.getElem?_eq_some_iff.1 hb).1;rw [<-HN.out] at this
     omega) ha hb
    have hge:n<=k:=(by omega);have hd:decide ((k:Int)<(n:Int))=false:=(by simp;omega);clear hlt;go_wp2_with fail
    go_ret
    exact ⟨⟨true,rfl,by simpa using HR.out⟩,HB.out⟩
end Bu
end Go.Proofs.YtjpjjnalpdpljaaGreatDoor
set_option maxHeartbeats 2000000
set_option maxRecDepth 100000
namespace Go.Proofs.YtjpjjnalpdpljaaGreatDoor
open Go.RowKit
open Go.Lib (hid)
namespace Lf
open Mem Lx Bu
theorem jN {W:World} {A:Option Addr} {c:Nat} {L:List Pr} (h:PL W A L) (hl:L.length<=1048576):Calls Tryz.prog 173 #[.slice A L.length c] W fun e w'=>(∃v:Bool,e=.returned (.bool v)/\(v=true↔mM L))/\Bw W w':=by
 obtain ⟨n,hn⟩:∃n,n=L.length:=⟨_,rfl⟩
 have HN:=hid hn;have HH:=hid h;rw [<-hn] at hl ⊢;clear h hn;go_enter Tryz.func173,Tryz.ntmps173
 go_wp2_with fail
 go_loopg [3] (n-1) (fun gk iv wr=>∃k:Nat,1<=k/\(k=1\/k<=n)/\gk=n-k/\iv= .int .i64 (k:Int)/\Hid (∀(i:Nat) (a b:Pr),i+1<k->L[i]? =some a->L[i+1]? =some b->bV a.1 b.1<0)/\Hid (Bw W wr))
 case atStart=>exact ⟨1,Nat.le_refl _,.inl rfl,rfl,rfl,fun i a b hi=>by omega,Below.refl _ _⟩
 case round=>
  obtain ⟨k,hk1,hkn,rfl,rfl,HE,HB⟩:=hrel;by_cases hlt:k<n
  . obtain ⟨j,hjk⟩:∃j,k=j+1:=⟨k-1,by omega⟩
    have hj:j<L.length:=(by rw [<-HN.out];omega);have hj1:k<L.length:=(by rw [<-HN.out];omega);obtain ⟨x,hx⟩:∃x,x=L[j]:=⟨_,rfl⟩
    obtain ⟨y,hy⟩:∃y,y=L[k]:=⟨_,rfl⟩
    have hx':=dB hj;have hy':=dB hj1;rw [<-hx] at hx';rw [<-hy] at hy';obtain ⟨b,o,e,hc⟩:=RdK.Jc (HH.out.kept HB.out) (Nat.lt_of_le_of_lt (Nat.zero_le _) hj);subst e;obtain ⟨c0,-⟩:=hc j x hx';obtain ⟨c1,-⟩:=hc k y hy';have cC:=fun w=>hid (QB x.1 y.1 w);have HX:=hid hx';have HY:=hid hy';have z0:=ah.tc c0;have z1:=ah.tc c1;have hw1:IntKind.i64.wrap ((k:Int)-1)=(j:Int):=(by rw [IntKind.wrap_i64];omega);have hw2:IntKind.i64.wrap ((k:Int)+1)=((k+1:Nat):Int):=(by rw [IntKind.wrap_i64];omega);have HJ:=hid hjk;have hjn:j<n:=(by omega);clear hc c0 c1 hx hy hx' hy' hj hj1 hjk;go_upto_region 4 with fail
    refine ah.aj [] [(0,[]),(1,[]),(2,[]),(3,[]),(4,[]),(5,[]),(6,[]),(7,[]),(8,[]),(9,[]),(10,[]),(11,[]),(12,[])] [] [] (by kernel_rfl) (by kernel_rfl) (by simp) ?_;simp only [ah.pick,ah.aO,ah.dL]
    repeat (refine ah.ak (fun K hK=>?_);go_simp;first|(refine hK _ ?_;clear hK K)|(apply Exists.intro;refine ⟨fun q=>?_,hK _ ?_⟩;(go_at_call 199;exact (cC _).out);clear hK K))
    refine ah.walk_nil ?_;intro w2 hb _;have HB2:=hid (HB.out.trans (hb.mono HB.out.size));clear z0 z1 hw1 hb HB cC;simp only [lC,List.drop_nil,Nat.zero_add,Nat.reduceAdd];by_cases hcm:bV x.1 y.1<0
    . have hd:decide (0<=bV x.1 y.1)=false:=by simpa using hcm
      have HE2:Hid (∀(i:Nat) (a b:Pr),i+1<k+1->L[i]? =some a->L[i+1]? =some b->bV a.1 b.1<0):=fun i a b hi ha hb=>by
       by_cases e:i=j
       . subst e
         rw [HX.out] at ha;rw [<-HJ.out,HY.out] at hb;(cases ha);(cases hb);exact hcm
       . exact HE.out i a b (by have:=HJ.out;omega) ha hb
      generalize bV x.1 y.1=z at*;clear hd;go_wp2_with fail
      go_roundg (n-(k+1))
      case measure=>omega
      case rel=>exact ⟨k+1,by omega,.inr hlt,rfl,by go_num,HE2,HB2⟩
    . have HN2:Hid (¬mM L):=fun hr=>hcm (hr j x y HX.out (by rw [<-HJ.out];exact HY.out))
      have hd:0<=bV x.1 y.1:=(by omega);clear hcm;generalize bV x.1 y.1=z at*;go_wp2_with fail
      go_ret
      exact ⟨⟨false,rfl,by simpa using HN2.out⟩,HB2.out⟩
  . have HR:Hid (mM L):=fun i a b ha hb=>HE.out i a b (by
     have:=(List.getElem?_eq_some_iff.1 hb).1;rw [<-HN.out] at this
     omega) ha hb
    have hge:n<=k:=(by omega);have hd:decide ((k:Int)<(n:Int))=false:=(by simp;omega);clear hlt;go_wp2_with fail
    go_ret
    exact ⟨⟨true,rfl,by simpa using HR.out⟩,HB.out⟩
end Lf
end Go.Proofs.YtjpjjnalpdpljaaGreatDoor
set_option maxHeartbeats 1000000
namespace Go.Proofs.YtjpjjnalpdpljaaGreatDoor
open Go.RowKit
namespace Lx
theorem KO (w:World):
 CB 106 #[] w (fu ⟨#[]⟩ ⟨#[]⟩ true):=by
 go_enter Tryz.func106,Tryz.ntmps106
 go_wp2
 exact bodyPost_ret (v:=fu ⟨#[]⟩ ⟨#[]⟩ true) (by simp [results,Tryz.results106,go_sem]) rfl ⟨rfl,bAx⟩
end Lx
end Go.Proofs.YtjpjjnalpdpljaaGreatDoor
namespace Go.Proofs.YtjpjjnalpdpljaaGreatDoor
open Go.RowKit
namespace No
open Mem Lx Bu Lf Fa
open Wd (be val aD dY isW St bF bC bD bW dn gZ kC jF jS jG iE)
def kH (c:Cfg) (s:St):St × Pr:=
 ((bW (bW (bC (bC s 1).1 2).1 (bC s 1).2 c.key).1 (bC (bC s 1).1 2).2 c.val).1,
  strOf (bW (bC (bC s 1).1 2).1 (bC s 1).2 c.key).2,strOf (bW (bW (bC (bC s 1).1 2).1 (bC s 1).2 c.key).1 (bC (bC s 1).1 2).2 c.val).2)
def rdK (s:St):St × Nat:=bC s 4
def nI (c:Cfg) (s:St):St × ByteArray:=((bW (bC s 1).1 (bC s 1).2 c.key).1,strOf (bW (bC s 1).1 (bC s 1).2 c.key).2)
def jU (c:Cfg) (s:St):St × (Nat × Mg):=((kH c (bC s 1).1).1,(bC s 1).2,(kH c (bC s 1).1).2.1,decide ((bC s 1).2=2),(kH c (bC s 1).1).2.2)
def prB (c:Cfg) (x:Pr):List UInt8:=jh c x.1 x.2
def mkL (c:Cfg) (x:Nat × Mg):List UInt8:=be 1 x.1++jh c x.2.1 x.2.2.2
section
variable {c:Cfg} {s:St}
theorem xO (h:s.ok):(kH c s).1.ok:=rQ (rQ (dx (dx h _) _) _ _) _ _
theorem Jg (h:s.ok):(rdK s).1.ok:=dx h _
theorem EH (h:s.ok):(nI c s).1.ok:=rQ (dx h _) _ _
theorem EI (h:s.ok):(jU c s).1.ok:=xO (dx h _)
theorem sized {t:List UInt8} {n:Nat} (h:t.length=((n:Nat):Int).toNat):(strOf t).size=n:=by
 rw [l7,h];rfl
theorem tC (h:s.ok) (he:(kH c s).1.e=0):s.e=0/\s.b=prB c (kH c s).2++(kH c s).1.b:=by
 obtain ⟨h1,h2,h3,h4,h5⟩:=rR (rQ (dx (dx h _) _) _ _) he;obtain ⟨k1,k2,k3,k4,k5⟩:=rR (dx (dx h _) _) h1;obtain ⟨m1,m2,m3⟩:=num_inv (w:=2) (dx h _) rfl k1;obtain ⟨n1,n2,n3⟩:=num_inv (w:=1) h rfl m1;refine ⟨n1,?_⟩;unfold prB jh kH;simp only;rw [sized k4,sized h4,oJ,oJ];simp only [List.append_assoc];rw [<-h5,<-k5];have e3:s.b=be 1 (bC s 1).2++(bC s 1).1.b:=n2;have e4:(bC s 1).1.b=be 2 (bC (bC s 1).1 2).2++(bC (bC s 1).1 2).1.b:=m2;rw [e3,e4]
theorem EJ (h:s.ok) (he:(rdK s).1.e=0):s.e=0/\s.b=be 4 (rdK s).2++(rdK s).1.b:=by
 obtain ⟨h1,h2,-⟩:=num_inv (w:=4) h rfl he;exact ⟨h1,h2⟩
theorem zy (h:s.ok) (he:(nI c s).1.e=0):s.e=0/\s.b=pvL c (nI c s).2++(nI c s).1.b:=by
 obtain ⟨k1,k2,k3,k4,k5⟩:=rR (dx h _) he;obtain ⟨n1,n2,n3⟩:=num_inv (w:=1) h rfl k1;refine ⟨n1,?_⟩;unfold pvL nI;simp only;rw [sized k4,oJ,List.append_assoc,<-k5];exact n2
theorem zA (h:s.ok) (he:(jU c s).1.e=0):s.e=0/\s.b=mkL c (jU c s).2++(jU c s).1.b:=by
 obtain ⟨h1,h2⟩:=tC (c:=c) (dx h _) he;obtain ⟨n1,n2,-⟩:=num_inv (w:=1) h rfl h1;refine ⟨n1,?_⟩;have h3:s.b=be 1 (bC s 1).2++(bC s 1).1.b:=n2;rw [h3,h2];unfold mkL jU prB;simp
theorem zB {x:Pr} {R:List UInt8} (h1:x.1.size<256) (h2:x.2.size<65536) (h3:(x.1.size:Int)<=c.key) (h4:(x.2.size:Int)<=c.val):kH c ⟨prB c x++R,0⟩=(⟨R,0⟩,x):=by
 unfold prB jh kH;simp only [List.append_assoc];have e1:∀R,bC ⟨be 1 x.1.size++R,0⟩ 1=(⟨R,0⟩,x.1.size):=fun R=>kD (w:=1) rfl (by omega)
 have e2:∀R,bC ⟨be 2 x.2.size++R,0⟩ 2=(⟨R,0⟩,x.2.size):=fun R=>kD (w:=2) rfl (by omega)
 have e3:∀R,bW ⟨slotL (txt x.1) c.key++R,0⟩ (x.1.size:Int) c.key=(⟨R,0⟩,txt x.1):=fun R=>rT (by rw [fC]) h3
 have e4:∀R,bW ⟨slotL (txt x.2) c.val++R,0⟩ (x.2.size:Int) c.val=(⟨R,0⟩,txt x.2):=fun R=>rT (by rw [fC]) h4
 rw [e1];simp only;rw [e2];simp only;rw [e3];simp only;rw [e4];rfl
theorem KP {x:Nat} {R:List UInt8} (h:x<4294967296):rdK ⟨be 4 x++R,0⟩=(⟨R,0⟩,x):=kD (w:=4) rfl (by omega)
theorem Ib {x:ByteArray} {R:List UInt8} (h1:x.size<256) (h3:(x.size:Int)<=c.key):nI c ⟨pvL c x++R,0⟩=(⟨R,0⟩,x):=by
 unfold pvL nI;simp only [List.append_assoc];have e1:∀R,bC ⟨be 1 x.size++R,0⟩ 1=(⟨R,0⟩,x.size):=fun R=>kD (w:=1) rfl (by omega)
 have e3:∀R,bW ⟨slotL (txt x) c.key++R,0⟩ (x.size:Int) c.key=(⟨R,0⟩,txt x):=fun R=>rT (by rw [fC]) h3
 rw [e1];simp only;rw [e3];rfl
theorem Ic {x:Nat × Mg} {R:List UInt8} (h0:x.1<256) (hd:x.2.2.1=decide (x.1=2)) (h1:x.2.1.size<256) (h2:x.2.2.2.size<65536) (h3:(x.2.1.size:Int)<=c.key) (h4:(x.2.2.2.size:Int)<=c.val):jU c ⟨mkL c x++R,0⟩=(⟨R,0⟩,x):=by
 obtain ⟨mk,key,del,v⟩:=x;simp only at h0 hd h1 h2 h3 h4;rw [hd];have e1:∀R,bC ⟨be 1 mk++R,0⟩ 1=(⟨R,0⟩,mk):=fun R=>kD (w:=1) rfl (by omega)
 have e2:kH c ⟨jh c key v++R,0⟩=(⟨R,0⟩,(key,v)):=zB (x:=(key,v)) h1 h2 h3 h4;unfold mkL jU;simp only [List.append_assoc];rw [e1];simp only;rw [e2]
end
end No
end Go.Proofs.YtjpjjnalpdpljaaGreatDoor
namespace Go.Proofs.YtjpjjnalpdpljaaGreatDoor
open Go.RowKit
namespace No
open Mem Lx Bu Lf Fa
open Wd (be val aD dY isW St bF bC bD bW dn gZ)
def xP (s:St):Nat:=(bC s 1).2
def hLv (s:St):Nat:=(bC (bC s 1).1 1).2
def fq (s:St):Nat:=(bC (bC (bC s 1).1 1).1 2).2
def qj (s:St):Nat:=(bC (bC (bC (bC s 1).1 1).1 2).1 2).2
def hSt (s:St):St:=bD (bC (bC (bC (bC s 1).1 1).1 2).1 2).1 2
def Room (c:Cfg) (lv parts msgs:Nat):Prop:=(lv=0/\(parts:Int)<=c.leaf/\msgs=0)\/(lv≠0/\1<=parts/\(parts:Int)<=c.fan/\(msgs:Int)<=c.buffer)
def EK (c:Cfg) (s:St):Prop:=xP s=(if hLv s=0 then 1 else 2)/\Room c (hLv s) (fq s) (qj s)
def oQ (c:Cfg) (s:St):St × List Pr:=rdS (kH c) (fq s) (hSt s)
def iK (s:St):St × List Nat:=rdS rdK (fq s) (hSt s)
def iZ1 (c:Cfg) (s:St):St:=bD (iK s).1 (4*(c.fan-fq s))
def iP (c:Cfg) (s:St):St × List ByteArray:=rdS (nI c) (fq s-1) (iZ1 c s)
def iZ2 (c:Cfg) (s:St):St:=bD (iP c s).1 ((1+c.key)*(c.fan-1-((fq s-1:Nat):Int)))
def iM (c:Cfg) (s:St):St × List (Nat × Mg):=rdS (jU c) (qj s) (iZ2 c s)
def NdP (c:Cfg) (s:St) (n:Nd) (s':St):Prop:=EK c s/\
 ((hLv s=0/\n=⟨0,[],[],[],(oQ c s).2⟩/\s'=(oQ c s).1)\/
  (hLv s≠0/\n=⟨hLv s,(iK s).2,(iP c s).2,(iM c s).2.map (·.2),[]⟩/\s'=(iM c s).1/\∀x∈(iM c s).2,x.1=1\/x.1=2))
theorem NdP.one {c:Cfg} {s s1 s2:St} {n m:Nd} (h:NdP c s n s1) (k:NdP c s m s2):n=m/\s1=s2:=by
 obtain ⟨-,h⟩:=h;obtain ⟨-,k⟩:=k;rcases h with ⟨h1,h2,h3⟩|⟨h1,h2,h3,-⟩<;>rcases k with ⟨k1,k2,k3⟩|⟨k1,k2,k3,-⟩
 . exact ⟨h2.trans k2.symm,h3.trans k3.symm⟩
 . exact absurd h1 k1
 . exact absurd k1 h1
 . exact ⟨h2.trans k2.symm,h3.trans k3.symm⟩
section
variable {s:St}
theorem zC (h:s.ok):(hSt s).ok:=rO (dx (dx (dx (dx h _) _) _) _) _
theorem Jh (h:s.ok) (he:(hSt s).e=0):s.b=be 1 (xP s)++(be 1 (hLv s)++(be 2 (fq s)++(be 2 (qj s)++(zs 2++(hSt s).b)))):=by
 obtain ⟨h1,h2⟩:=kS (dx (dx (dx (dx h _) _) _) _) (by decide) he;obtain ⟨k1,k2,-⟩:=num_inv (w:=2) (dx (dx (dx h _) _) _) rfl h1;obtain ⟨m1,m2,-⟩:=num_inv (w:=2) (dx (dx h _) _) rfl k1;obtain ⟨n1,n2,-⟩:=num_inv (w:=1) (dx h _) rfl m1;obtain ⟨-,o2,-⟩:=num_inv (w:=1) h rfl n1;have e1:s.b=be 1 (xP s)++(bC s 1).1.b:=o2;have e2:(bC s 1).1.b=be 1 (hLv s)++(bC (bC s 1).1 1).1.b:=n2;have e3:(bC (bC s 1).1 1).1.b=be 2 (fq s)++(bC (bC (bC s 1).1 1).1 2).1.b:=m2;have e4:(bC (bC (bC s 1).1 1).1 2).1.b=be 2 (qj s)++(bC (bC (bC (bC s 1).1 1).1 2).1 2).1.b:=k2;have e5:(bC (bC (bC (bC s 1).1 1).1 2).1 2).1.b=zs 2++(hSt s).b:=h2;rw [e1,e2,e3,e4,e5]
theorem Ji {mk lv np nm:Nat} {R:List UInt8} (h1:mk<256) (h2:lv<256) (h3:np<65536) (h4:nm<65536):∀s:St,s=⟨be 1 mk++(be 1 lv++(be 2 np++(be 2 nm++(zs 2++R)))),0⟩->xP s=mk/\hLv s=lv/\fq s=np/\qj s=nm/\hSt s=⟨R,0⟩:=by
 rintro s rfl;have e1:∀v R,v<256->bC ⟨be 1 v++R,0⟩ 1=(⟨R,0⟩,v):=fun v R h=>kD (w:=1) rfl (by omega)
 have e2:∀v R,v<65536->bC ⟨be 2 v++R,0⟩ 2=(⟨R,0⟩,v):=fun v R h=>kD (w:=2) rfl (by omega)
 have e3:bD ⟨zs 2++R,0⟩ 2=⟨R,0⟩:=kT (by decide);unfold xP hLv fq qj hSt;rw [e1 _ _ h1];simp only;rw [e1 _ _ h2];simp only;rw [e2 _ _ h3];simp only;rw [e2 _ _ h4];simp only;exact ⟨trivial,trivial,trivial,trivial,e3⟩
end
theorem EL {b x:List UInt8} {k:Nat} {m:Int} (h:b=x++zs k) (hb:b.length=m.toNat) (hm:0<=m):slotL x m=b:=by
 unfold slotL;rw [h];congr 2
 have:=congrArg List.length h;rw [List.length_append,gY] at this;omega
theorem EM {s:St} (h:s.ok) (he:(bD s s.b.length).e=0):s.e=0/\s.b=zs s.b.length:=by
 obtain ⟨h1,h2⟩:=kS h (by omega) he;refine ⟨h1,?_⟩;have h3:=congrArg List.length h2;rw [List.length_append,gY] at h3;have h4:(bD s s.b.length).b=[]:=List.eq_nil_of_length_eq_zero (by omega);rw [h4,List.append_nil] at h2;exact h2
theorem Py (c:Cfg) {x:Nat × Mg} (h:x.1=1\/x.1=2) (hd:x.2.2.1=decide (x.1=2)):mkL c x=msL c x.2:=by
 unfold mkL msL;rw [hd];rcases h with h|h<;>rw [h]<;>rfl
theorem Ie {c:Cfg} {F Bf Lf K V:Nat} (hs:lD c F Bf Lf K V) {b:List UInt8} {n:Nd} {s':St} (hb:b.length=c.bytes.toNat) (h:NdP c ⟨b,0⟩ n s') (hz:(bD s' s'.b.length).e=0):aJ c n=b:=by
 have hok:St.ok ⟨b,0⟩:=fun h=>absurd rfl h;have hY:=hs.bytes;obtain ⟨⟨hmk,hroom⟩,h⟩:=h;rcases h with ⟨h0,rfl,rfl⟩|⟨h0,rfl,rfl,hM⟩
 . rcases hroom with ⟨-,-,hm⟩|⟨hr,-⟩
   . obtain ⟨h1,h2⟩:=EM (uG (fun s=>xO) (zC hok) _) hz
     obtain ⟨h3,h4,-⟩:=rU (g:=prB c) (P:=fun _=>True) (fun s=>xO) (fun s h he=>⟨(tC h he).1,(tC h he).2,trivial⟩) (zC hok) h1;have h5:=Jh hok h3;rw [if_pos h0] at hmk;have h4':(hSt ⟨b,0⟩).b=(oQ c ⟨b,0⟩).2.flatMap (prB c)++(oQ c ⟨b,0⟩).1.b:=h4;have h2':(oQ c ⟨b,0⟩).1.b=zs (oQ c ⟨b,0⟩).1.b.length:=h2;rw [hmk,h0,hm,h4',h2'] at h5;have hlen:(oQ c ⟨b,0⟩).2.length=fq ⟨b,0⟩:=dZ _ _;rw [<-hlen] at h5;show slotL (lM c _) c.bytes=b;unfold lM;rw [if_pos rfl];refine EL (k:=(oQ c ⟨b,0⟩).1.b.length) ?_ hb (by omega);have h6:b=be 1 1++(be 1 0++(be 2 (oQ c ⟨b,0⟩).2.length++(be 2 0++(zs 2++((oQ c ⟨b,0⟩).2.flatMap (prB c)++zs (oQ c ⟨b,0⟩).1.b.length))))):=h5;unfold lJ;have e1:be 1 1=[1]:=(by decide);have e2:be 1 0=[0]:=(by decide);have e3:be 2 0=[0,0]:=(by decide);have e4:zs 2=[0,0]:=(by decide);have e5:zs 4=[0,0,0,0]:=(by decide);rw [e1,e2,e3,e4] at h6;rw [e5];refine h6.trans ?_;simp only [List.append_assoc,List.cons_append,List.nil_append];rfl
   . exact absurd h0 hr
 . rcases hroom with ⟨hr,-⟩|⟨-,hp1,hp2,-⟩
   . exact absurd hr h0
   . have Lu:=hs.fan
     have hkey:=hs.key;have hFb:=hs.f;have okK:(iK ⟨b,0⟩).1.ok:=uG (fun s=>Jg) (zC hok) _;have QC:(iZ1 c ⟨b,0⟩).ok:=rO okK _;have okP:(iP c ⟨b,0⟩).1.ok:=uG (fun s=>EH) QC _;have QD:(iZ2 c ⟨b,0⟩).ok:=rO okP _;obtain ⟨h1,h2⟩:=EM (uG (fun s=>EI) QD _) hz;obtain ⟨m1,m2,m3⟩:=rU (g:=mkL c) (P:=fun x=>x.2.2.1=decide (x.1=2)) (fun s=>EI) (fun s h he=>⟨(zA h he).1,(zA h he).2,rfl⟩) QD h1;obtain ⟨z1,z2⟩:=kS okP (Int.mul_nonneg (by omega) (by omega)) m1;obtain ⟨p1,p2,-⟩:=rU (g:=pvL c) (P:=fun _=>True) (fun s=>EH) (fun s h he=>⟨(zy h he).1,(zy h he).2,trivial⟩) QC z1;obtain ⟨y1,y2⟩:=kS okK (by omega) p1;obtain ⟨k1,k2,-⟩:=rU (g:=be 4) (P:=fun _=>True) (fun s=>Jg) (fun s h he=>⟨(EJ h he).1,(EJ h he).2,trivial⟩) (zC hok) y1;have h5:=Jh hok k1;rw [if_neg h0] at hmk;have k2':(hSt ⟨b,0⟩).b=(iK ⟨b,0⟩).2.flatMap (be 4)++(iK ⟨b,0⟩).1.b:=k2;have y2':(iK ⟨b,0⟩).1.b=zs (4*(c.fan-fq ⟨b,0⟩))++(iZ1 c ⟨b,0⟩).b:=y2;have p2':(iZ1 c ⟨b,0⟩).b=(iP c ⟨b,0⟩).2.flatMap (pvL c)++(iP c ⟨b,0⟩).1.b:=p2;have z2':(iP c ⟨b,0⟩).1.b=zs ((1+c.key)*(c.fan-1-((fq ⟨b,0⟩-1:Nat):Int)))++(iZ2 c ⟨b,0⟩).b:=z2;have m2':(iZ2 c ⟨b,0⟩).b=(iM c ⟨b,0⟩).2.flatMap (mkL c)++(iM c ⟨b,0⟩).1.b:=m2
     have hfm:(iM c ⟨b,0⟩).2.flatMap (mkL c)=((iM c ⟨b,0⟩).2.map (·.2)).flatMap (msL c):=by
      rw [List.flatMap_map]
      have h9:∀L:List (Nat × Mg),(∀x∈L,x.1=1\/x.1=2)->(∀x∈L,x.2.2.1=decide (x.1=2))->L.flatMap (mkL c)=L.flatMap (fun x=>msL c x.2):=by
       intro L
       induction L with
       |nil=>intro _ _;rfl
       |cons x L ih=>
        intro h1 h2;rw [List.flatMap_cons,List.flatMap_cons,ih (fun y hy=>h1 y (List.mem_cons_of_mem _ hy)) (fun y hy=>h2 y (List.mem_cons_of_mem _ hy)),Py c (h1 x List.mem_cons_self) (h2 x List.mem_cons_self)]
      exact h9 _ hM m3
     have h2':(iM c ⟨b,0⟩).1.b=zs (iM c ⟨b,0⟩).1.b.length:=h2;rw [hmk,k2',y2',p2',z2',m2',h2',hfm] at h5;have hlk:(iK ⟨b,0⟩).2.length=fq ⟨b,0⟩:=dZ _ _;have hlp:(iP c ⟨b,0⟩).2.length=fq ⟨b,0⟩-1:=dZ _ _
     have hlm:((iM c ⟨b,0⟩).2.map (·.2)).length=qj ⟨b,0⟩:=by
      rw [List.length_map];exact dZ _ _
     rw [<-hlm,<-hlp,<-hlk] at h5;show slotL (lM c _) c.bytes=b;unfold lM;rw [if_neg (by simp only;omega)];refine EL (k:=(iM c ⟨b,0⟩).1.b.length) ?_ hb (by omega);have e1:be 1 2=[2]:=(by decide);have h6:=h5;rw [e1] at h6;unfold xH;simp only [Int.toNat_natCast];refine Eq.trans (show b=_ from h6) ?_;simp only [List.append_assoc]
theorem kI {c:Cfg} {m:Nd} (hr:bQ c m):∃s',NdP c ⟨aJ c m,0⟩ m s'/\(bD s' s'.b.length).e=0:=by
 obtain ⟨F,Bf,Lf,K,V,hs⟩:=uS hr.1;have hY:=hs.bytes;have Lu:=hs.fan;have hkey:=hs.key;have hval:=hs.val;have hK:=hs.k;have hV:=hs.v;have hF:=hs.f;have hB:=hs.b;have hL:=hs.l
 have Nq:∀k:Int,(bD ⟨zs k,0⟩ ((zs k).length:Int)).e=0:=fun k=>by
  have h9:=kT (n:=((zs k).length:Int)) (R:=[]) (by omega)
  have h8:zs (((zs k).length:Nat):Int)=zs k:=by
   rw [gY];unfold zs;congr 1
  rw [List.append_nil,h8] at h9;rw [h9]
 by_cases h0:m.lv=0
 . have hP:=hr.2.1 h0
   obtain ⟨hlen,hq⟩:=sZ hs hP;obtain ⟨lv,Ks,P,Bu,Q⟩:=m;obtain rfl:lv=0:=h0;obtain rfl:Ks=[]:=List.eq_nil_of_length_eq_zero hP.kids;obtain rfl:P=[]:=List.eq_nil_of_length_eq_zero hP.piv;obtain rfl:Bu=[]:=List.eq_nil_of_length_eq_zero hP.buf;obtain ⟨Z,hZ⟩:∃Z,Z=c.bytes-(lJ c ⟨0,[],[],[],Q⟩).length:=⟨_,rfl⟩
   have eb:(⟨aJ c ⟨0,[],[],[],Q⟩,0⟩:St)=⟨be 1 1++(be 1 0++(be 2 Q.length++(be 2 0++(zs 2++(Q.flatMap (prB c)++zs Z))))),0⟩:=by
    (congr 1);show slotL (lM c _) c.bytes=_;unfold lM;rw [if_pos rfl];unfold slotL;rw [<-hZ];unfold lJ;have e1:be 1 1=[1]:=(by decide);have e2:be 1 0=[0]:=(by decide);have e3:be 2 0=[0,0]:=(by decide);have e4:zs 2=[0,0]:=(by decide);have e5:zs 4=[0,0,0,0]:=(by decide);rw [e1,e2,e3,e4,e5];simp only [List.append_assoc,List.cons_append,List.nil_append];rfl
   have hq2:Q.length<=Lf:=hq;obtain ⟨g1,g2,g3,g4,g5⟩:=Ji (by decide) (by decide) (by omega) (by decide) _ eb
   have hrd:oQ c ⟨aJ c ⟨0,[],[],[],Q⟩,0⟩=(⟨zs Z,0⟩,Q):=by
    unfold oQ;rw [g3,g5];refine rV fun x hx R=>?_;obtain ⟨k1,-,k3⟩:=hP.each x hx;have k2:=(eT k1).2;exact zB (by omega) (by omega) k2 k3
   refine ⟨⟨zs Z,0⟩,⟨⟨by rw [g1,g2];rfl,.inl ⟨g2,by rw [g3];exact hP.few,g4⟩⟩,.inl ⟨g2,by rw [hrd],by rw [hrd]⟩⟩,Nq Z⟩
 . obtain ⟨hl0,hP⟩:=hr.2.2 h0
   obtain ⟨lv',hlv⟩:∃l:Nat,m.lv=l:=⟨m.lv.toNat,by omega⟩
   have KQ:=hP.lv;have hkf:=hP.fan;have hkp:=hP.fewer;have hk1:=hP.one;have hbf:=hP.few;have hbu:=hs.buffer;obtain ⟨lv,Ks,P,Bu,Q⟩:=m;obtain rfl:Q=[]:=List.eq_nil_of_length_eq_zero hP.prs;obtain rfl:lv=(lv':Int):=hlv;simp only at hkf hkp hk1 hbf h0 hl0 KQ;obtain ⟨Z,hZ⟩:∃Z,Z=c.bytes-(xH c ⟨(lv':Int),Ks,P,Bu,[]⟩).length:=⟨_,rfl⟩
   obtain ⟨M,hM⟩:∃M:List (Nat × Mg),M=Bu.map fun x=>((pO x.2.1).toNat,x):=⟨_,rfl⟩
   have hM2:M.map (·.2)=Bu:=by
    rw [hM,List.map_map];exact List.map_id' _
   have hMm:∀x∈M,(x.1=1\/x.1=2)/\x.2.2.1=decide (x.1=2)/\x.2∈Bu:=fun x hx=>by
    rw [hM] at hx;obtain ⟨y,hy,rfl⟩:=List.mem_map.1 hx;obtain ⟨key,del,v⟩:=y;cases del
    . exact ⟨.inl rfl,rfl,hy⟩
    . exact ⟨.inr rfl,rfl,hy⟩
   have hMl:M.length=Bu.length:=by rw [hM,List.length_map]
   have hMf:M.flatMap (mkL c)=Bu.flatMap (msL c):=by
    rw [hM,List.flatMap_map];(congr 1);funext x;obtain ⟨key,del,v⟩:=x;cases del<;>rfl
   have eb:(⟨aJ c ⟨(lv':Int),Ks,P,Bu,[]⟩,0⟩:St)=⟨be 1 2++(be 1 lv'++(be 2 Ks.length++(be 2 Bu.length++(zs 2++(Ks.flatMap (be 4)++(zs (4*(c.fan-Ks.length))++(P.flatMap (pvL c)++(zs ((1+c.key)*(c.fan-1-P.length))++(M.flatMap (mkL c)++zs Z))))))))),0⟩:=by
    (congr 1);show slotL (lM c _) c.bytes=_;unfold lM;rw [if_neg (by simpa using h0)];unfold slotL;rw [<-hZ,hMf];unfold xH;have e1:be 1 2=[2]:=(by decide);rw [e1];simp only [List.append_assoc,Int.toNat_natCast]
   obtain ⟨g1,g2,g3,g4,g5⟩:=Ji (by decide) (by omega) (by omega) (by omega) _ eb;have hl:lv'≠0:=by omega
   have rK:iK ⟨aJ c ⟨(lv':Int),Ks,P,Bu,[]⟩,0⟩=(⟨zs (4*(c.fan-Ks.length))++(P.flatMap (pvL c)++(zs ((1+c.key)*(c.fan-1-P.length))++(M.flatMap (mkL c)++zs Z))),0⟩,Ks):=by
    unfold iK;rw [g3,g5];refine rV fun x hx R=>?_;obtain ⟨i,hi⟩:=List.getElem?_of_mem hx;have:=(hP.kids i x hi).1.2;have:=hs.blocks;exact KP (by omega)
   have rZ1:iZ1 c ⟨aJ c ⟨(lv':Int),Ks,P,Bu,[]⟩,0⟩=⟨P.flatMap (pvL c)++(zs ((1+c.key)*(c.fan-1-P.length))++(M.flatMap (mkL c)++zs Z)),0⟩:=by
    unfold iZ1;rw [rK,g3];exact kT (by omega)
   have rP:iP c ⟨aJ c ⟨(lv':Int),Ks,P,Bu,[]⟩,0⟩=(⟨zs ((1+c.key)*(c.fan-1-P.length))++(M.flatMap (mkL c)++zs Z),0⟩,P):=by
    unfold iP;rw [rZ1,g3,show Ks.length-1=P.length by omega];refine rV fun x hx R=>?_;have k2:=(eT (hP.piv x hx)).2;exact Ib (by omega) k2
   have rZ2:iZ2 c ⟨aJ c ⟨(lv':Int),Ks,P,Bu,[]⟩,0⟩=⟨M.flatMap (mkL c)++zs Z,0⟩:=by
    unfold iZ2;rw [rP,g3,show Ks.length-1=P.length by omega];exact kT (Int.mul_nonneg (by omega) (by omega))
   have rM:iM c ⟨aJ c ⟨(lv':Int),Ks,P,Bu,[]⟩,0⟩=(⟨zs Z,0⟩,M):=by
    unfold iM;rw [rZ2,g4,<-hMl];refine rV fun x hx R=>?_;obtain ⟨q1,q2,q3⟩:=hMm x hx;obtain ⟨k1,-,k3,-⟩:=hP.buf x.2 q3;have k2:=(eT k1).2;exact Ic (by omega) q2 (by omega) (by omega) k2 k3
   refine ⟨⟨zs Z,0⟩,⟨⟨by rw [g1,g2,if_neg hl],.inr ⟨by rw [g2];exact hl,by rw [g3];exact hk1,by rw [g3];exact hkf,by rw [g4];exact hbf⟩⟩,.inr ⟨by rw [g2];exact hl,by rw [g2,rK,rP,rM,hM2],by rw [rM],by rw [rM];exact fun x hx=>(hMm x hx).1⟩⟩,Nq Z⟩
end No
end Go.Proofs.YtjpjjnalpdpljaaGreatDoor
