import Derived.Test.YtjpjjnalpdpljaaGreatDoorPkAJ
import Derived.Test.YtjpjjnalpdpljaaGreatDoorPkAC
import Derived.Deep.CutBlock
import Derived.Deep.DeepCutAuto
import Derived.Test.YtjpjjnalpdpljaaGreatDoorPkAB
import Derived.Test.YtjpjjnalpdpljaaGreatDoorChecked
import Derived.Test.YtjpjjnalpdpljaaGreatDoorPqDrift
import Derived.WalkKit
import Derived.WalkLawsBesides
import Derived.KernelRfl
import Derived.WalkSpells
import Derived.BigQuiet
import Derived.Lib.Hide
namespace Go.Proofs.YtjpjjnalpdpljaaGreatDoor
open Go.RowKit
open Go.Lib (hid)
open IntKind (wrap_i64)
open List (replicate)
namespace Po
open Mem Bt
structure Pw (W w:World) (q g b:Nat) (tb:List Bool):Prop where
 hd:w.heap[q]? =some (.cells #[g] 159 (0,0))
 rw:Rw W w g b tb
 hq:W.heap.size<=q
section
variable {W w w':World} {q g b:Nat} {tb tb':List Bool}
theorem Pw.lt (h:Pw W w q g b tb):q<w.heap.size:=(Array.getElem?_eq_some_iff.1 h.hd).1
theorem Pw.ne (h:Pw W w q g b tb):q≠g/\q≠b:=by
 obtain ⟨c,ws,hw⟩:=h.rw.row;have hd:=h.hd;refine ⟨?_,?_⟩
 . rintro rfl
   rw [hw.hd] at hd;simp at hd
 . rintro rfl
   obtain ⟨_,h2⟩:=hw.ow;rcases h2 with ⟨h2,_⟩|⟨g2,c2,Sd,e2,_,hh2,_⟩
   . cases h2
   . obtain ⟨rfl,rfl⟩:q=g2/\c=c2:=by simpa using e2
     rw [hh2] at hd;simp at hd
theorem Pw.cell (h:Pw W w q g b tb):w.cell? ⟨q,0,none⟩=some (.pointer (some ⟨g,0,none⟩)):=by
 have:=h.hd;simp [World.cell?,this]
theorem Pw.size (h:Pw W w q g b tb):W.heap.size<=w.heap.size:=h.rw.bel.size
theorem Pw.kept (h:Pw W w q g b tb) (hT:Tab W) (hb:Bw w w'):Pw W w' q g b tb:=⟨(hb.block q h.lt).trans h.hd,h.rw.kept hT hb,h.hq⟩
theorem Pw.into (h:Pw W w q g b tb) (hT:Tab W) (hi:Flow.Into [b] w w') (hr:dz w' g b tb'):Pw W w' q g b tb':=
 ⟨(hi.block q h.lt (by simpa using h.ne.2)).trans h.hd,h.rw.into hT hi hr,h.hq⟩
theorem Pw.len (h:Pw W w q g b tb):1<=tb.length/\tb.length<=65536:=h.rw.row.lt.2.2.2
end
theorem Ms (q:Nat) (v:Value) (w:World) (h:w.cell? ⟨q,0,none⟩=some v):Calls Tryz.prog 89 #[q] w fun e w'=>e=.returned v/\w=w':=by
 go_enter Tryz.func89,Tryz.ntmps89
 go_wp2
 go_ret
 exact ⟨rfl,rfl⟩
theorem jK {W w:World} {q g b:Nat} {tb:List Bool} (h:Pw W w q g b tb):CW 89 #[q] w (.pointer (some ⟨g,0,none⟩)):=Ms q _ w h.cell
theorem yY {W w:World} {q g b:Nat} {tb:List Bool} (h:Pw W w q g b tb):CW 91 #[q] w (.int .i64 (cnt tb:Int)):=by
 have cR:=hid (jK h);have cC:=hid (Dw g b tb w h.rw.row);clear h;go_enter Tryz.func91,Tryz.ntmps91
 go_wp2_with (first
  |(go_at_call 89;refine cR.out.mono ?_;rintro e w' ⟨rfl,rfl⟩)
  |(go_at_call 128;refine cC.out.mono ?_;rintro e w' ⟨rfl,rfl⟩))
 go_ret
 exact ⟨rfl,rfl⟩
theorem lu {W w:World} {q g b:Nat} {tb:List Bool} (h:Pw W w q g b tb):CW 56 #[q] w (.int .i64 (free tb:Int)):=by
 have cR:=hid (jK h);have cL:=hid (kE g b tb w h.rw.row);have cH:=hid (yY h);have hl:=h.len;have hc:=yK tb;have hf:IntKind.i64.wrap ((tb.length:Int)-(cnt tb:Int))=(free tb:Int):=by unfold free;rw [wrap_i64];omega
 generalize tb.length=n at*;generalize cnt tb=c at*;generalize free tb=f at*;clear h hl hc;go_enter Tryz.func56,Tryz.ntmps56
 go_wp2_with (first
  |(go_at_call 89;refine cR.out.mono ?_;rintro e w' ⟨rfl,rfl⟩)
  |(go_at_call 90;refine cL.out.mono ?_;rintro e w' ⟨rfl,rfl⟩)
  |(go_at_call 91;refine cH.out.mono ?_;rintro e w' ⟨rfl,rfl⟩))
 go_ret
 exact ⟨rfl,rfl⟩
theorem sI {W w:World} {q g b:Nat} {tb:List Bool} (h:Pw W w q g b tb) (hT:Tab W) (i:Nat) (hi:i<4294967296):Calls Tryz.prog 58 #[q,.int .u32 (i:Int)] w fun e w'=>e=.returned (.bool (tb.getD i false))/\Pw W w' q g b tb/\Bw w w':=by
 have cR:=hid (jK h)
 have cH:Hid (Calls Tryz.prog 93 #[g,(i:Int)] w fun e w'=>e=.returned (.bool (tb.getD i false))/\Pw W w' q g b tb/\Bw w w'):=
  (Bt.sI g b i tb w h.rw.row).mono fun _ _ ⟨he,hb⟩=>⟨by rw [he,gX],h.kept hT hb,hb⟩
 generalize tb.getD i false=v at*;have hw:IntKind.i64.wrap (i:Int)=(i:Int):=by rw [wrap_i64];omega
 clear h;go_enter Tryz.func58,Tryz.ntmps58
 go_wp2_with (first
  |(go_at_call 89;refine cR.out.mono ?_;rintro e w' ⟨rfl,rfl⟩)
  |(go_at_call 93;refine cH.out.mono ?_;rintro e w1 ⟨rfl,hp,hb⟩;have HP:=hid hp;have HB:=hid hb;clear hp hb))
 go_ret
 exact ⟨rfl,HP.out,HB.out⟩
theorem GL {W w:World} {q g b:Nat} {tb:List Bool} (h:Pw W w q g b tb) (hT:Tab W) (i:Nat) (hi:i<4294967296):Calls Tryz.prog 76 #[q,.int .u32 (i:Int)] w fun e w'=>e=.returned (mZ tb i:Int)/\Pw W w' q g b (jQ tb i)/\Flow.Into [b] w w':=by
 have cR:=hid (jK h)
 have cS:Hid (Calls Tryz.prog 110 #[g,(i:Int)] w fun e w'=>e=.returned (mZ tb i:Int)/\Pw W w' q g b (jQ tb i)/\Flow.Into [b] w w'):=
  (Bt.wY g b i tb w h.rw.row).mono fun _ _ ⟨he,hr,hi⟩=>⟨he,h.into hT hi hr,hi⟩
 generalize mZ tb i=v at*;generalize jQ tb i=t at*;have hw:IntKind.i64.wrap (i:Int)=(i:Int):=by rw [wrap_i64];omega
 clear h;go_enter Tryz.func76,Tryz.ntmps76
 go_wp2_with (first
  |(go_at_call 89;refine cR.out.mono ?_;rintro e w' ⟨rfl,rfl⟩)
  |(go_at_call 110;refine cS.out.mono ?_;rintro e w1 ⟨rfl,hp,hb⟩;have HP:=hid hp;have HB:=hid hb;clear hp hb))
 go_ret
 exact ⟨rfl,HP.out,HB.out⟩
theorem GN {W w:World} {q g b:Nat} {tb:List Bool} (h:Pw W w q g b tb) (hT:Tab W) (i:Nat) (hi:i<4294967296):Calls Tryz.prog 74 #[q,.int .u32 (i:Int)] w fun e w'=>e=.returned (gvE tb i:Int)/\Pw W w' q g b (gvT tb i)/\Flow.Into [b] w w':=by
 have cR:=hid (jK h);by_cases h0:i=0
 . subst h0
   have HP:=hid h;clear h;go_enter Tryz.func74,Tryz.ntmps74
   go_wp2_with (go_at_call 89;refine cR.out.mono ?_;rintro e w' ⟨rfl,rfl⟩)
   go_ret
   exact ⟨rfl,HP.out,Flow.Into.refl _ _⟩
 . have cS:Hid (Calls Tryz.prog 115 #[g,(i:Int)] w fun e w'=>e=.returned (gvE tb i:Int)/\Pw W w' q g b (gvT tb i)/\Flow.Into [b] w w'):=by
    unfold gvE gvT;rw [if_neg h0,if_neg h0];exact (Bt.Du g b i tb w h.rw.row).mono fun _ _ ⟨he,hr,hi⟩=>⟨he,h.into hT hi hr,hi⟩
   generalize gvE tb i=v at*;generalize gvT tb i=t at*;have hw:IntKind.i64.wrap (i:Int)=(i:Int):=(by rw [wrap_i64];omega);have hz:((i:Int)==0)=false:=(by simpa using h0);clear h;go_enter Tryz.func74,Tryz.ntmps74
   go_wp2_with (first
    |(go_at_call 89;refine cR.out.mono ?_;rintro e w' ⟨rfl,rfl⟩)
    |(go_at_call 115;refine cS.out.mono ?_;rintro e w1 ⟨rfl,hp,hb⟩;have HP:=hid hp;have HB:=hid hb;clear hp hb))
   go_ret
   exact ⟨rfl,HP.out,HB.out⟩
def tbN (n:Nat):List Bool:=(replicate n false).set 0 true
theorem sJ (n:Nat):(tbN n).length=n:=by simp [tbN]
theorem lg (W w:World) (hT:Tab W) (hb:Bw W w) (n:Nat) (h0:5<=n) (h1:n<=65536):Calls Tryz.prog 66 #[(n:Int)] w fun e w'=>∃q g b,e=.returned (.tuple #[(q:Nat),(0:Int)])/\Pw W w' q g b (tbN n):=by
 have cN:=hid (Mr W w hT hb n (by omega) h1);have HT:=hid hT
 have cS:∀w1 g b,Rw W w1 g b (replicate n false)->Hid (Calls Tryz.prog 110 #[(g:Nat),(0:Int)] w1 fun e w'=>e=.returned (0:Int)/\Rw W w' g b (tbN n)/\Flow.Into [b] w1 w'):=fun w1 g b hr=>by
  have e1:mZ (replicate n false) 0=0:=by
   unfold mZ;rw [show (0:Int)=((0:Nat):Int) from rfl,in_lt (by simp;omega),gX];simp [List.getD,show 0<n by omega]
  have e2:jQ (replicate n false) 0=tbN n:=by
   unfold jQ;rw [show (0:Int)=((0:Nat):Int) from rfl,in_lt (by simp;omega)];rfl
  have:=hr.Set hT 0;rw [e1,e2] at this;exact this
 generalize replicate n false=t0 at*;generalize tbN n=t1 at*;clear hT hb;go_enter Tryz.func66,Tryz.ntmps66
 go_upto_region 6 with (first
  |(go_at_call 109;refine cN.out.mono ?_;rintro e w1 ⟨g,b,rfl,hr,-⟩;have HR1:=hid hr;clear hr))
 have hb2:Bw w1 (w1.alloc (.cells #[g] 159)):=bAx;have HR2:=hid (HR1.out.kept HT.out hb2);have HQ:Hid ((w1.alloc (.cells #[g] 159)).heap[w1.heap.size]? =some (.cells #[g] 159 (0,0))):=by unfold Hid;rw [heap_alloc_new]
 have HL:Hid (w1.heap.size<(w1.alloc (.cells #[g] 159)).heap.size/\b<w1.heap.size):=by unfold Hid;exact ⟨by simp,HR1.out.row.lt.2.1⟩
 clear hb2;go_wp2_with (go_at_call 110;refine (cS _ g b HR2.out).out.mono ?_;rintro e w3 ⟨rfl,hr,hi⟩;have HR3:=hid hr;have HI:=hid hi;clear hr hi)
 refine bodyPost_ret (v:= .tuple #[w1.heap.size,(0:Int)]) (by simp [results,Tryz.results66,go_sem]) rfl ⟨w1.heap.size,g,b,rfl,⟨?_,HR3.out,HR1.out.bel.size⟩⟩;rw [HI.out.block w1.heap.size HL.out.1 (by have:=HL.out.2;simp;omega)];exact HQ.out
end Po
end Go.Proofs.YtjpjjnalpdpljaaGreatDoor
set_option maxHeartbeats 1000000
namespace Go.Proofs.YtjpjjnalpdpljaaGreatDoor
open Go.RowKit
open Go.Lib (hid)
namespace Po
open Mem Bt
section
variable {W w w':World} {q g b a:Nat} {tb:List Bool}
theorem Pw.far (h:Pw W w q g b tb) (hT:Tab W) (hi:Flow.Into [a] w w') (ha:q≠a/\g≠a/\b≠a) (hW:W.heap.size<=a):Pw W w' q g b tb:=by
 have h1:=mG h.rw.bel hi (by simpa using hW) h.rw.bel.size;exact ⟨(hi.block q h.lt (by simpa using ha.1)).trans h.hd,⟨h.rw.row.into hi (by simpa using ha.2.1) (by simpa using ha.2.2),hT.below h1,h1,h.rw.hg,h.rw.hb⟩,h.hq⟩
theorem Pw.lts (h:Pw W w q g b tb):q<w.heap.size/\g<w.heap.size/\b<w.heap.size/\W.heap.size<=b:=⟨h.lt,h.rw.row.lt.1,h.rw.row.lt.2.1,h.rw.hb⟩
end
theorem Dy {W w:World} {q g b:Nat} {tb:List Bool} (h:Pw W w q g b tb) (k:Int) (hk:0<=k) (hf:(free tb:Int)<k):CW 112 #[q,k] w (.tuple #[(),(11:Int)]):=by
 have cR:=hid (jK h);have cF:=hid (lu h);generalize free tb=f at*;clear h;go_enter Tryz.func112,Tryz.ntmps112
 go_wp2_with (first
  |(go_at_call 89;refine cR.out.mono ?_;rintro e w' ⟨rfl,rfl⟩)
  |(go_at_call 56;refine cF.out.mono ?_;rintro e w' ⟨rfl,rfl⟩))
 exact bodyPost_ret (v:= .tuple #[(),(11:Int)]) (by simp [results,Tryz.results112,go_sem]) rfl ⟨rfl,rfl⟩
def part (l:List Nat) (d:Nat):List Value:=l.map jc++List.replicate d (.int .u32 0)
theorem sD (l:List Nat) (d:Nat):(part l d).length=l.length+d:=by simp [part]
theorem Ke (l:List Nat) (d j:Nat) (h:j<(part l d).length) (hj:l.length<=j):(part l d)[j]= .int .u32 0:=by
 have e:(part l d)[j]? =some (.int .u32 0):=by
  have h':=h;rw [sD] at h';unfold part;rw [List.getElem?_append_right (by simpa using hj)];simp only [List.getElem?_replicate,List.length_map];rw [if_pos (by omega)]
 rw [List.getElem?_eq_getElem h] at e;exact Option.some.inj e
theorem GQ (l:List Nat) (d r:Nat):(part l (d+1)).set l.length (.int .u32 (r:Int))=part (l++[r]) d:=by
 unfold part;rw [List.set_append_right _ _ (by simp),List.map_append];simp [List.replicate_succ,jc]
structure Rnd (W w1 wr:World) (q g b c k:Nat) (tb:List Bool) (j a p:Nat):Prop where
 pw:Pw W wr q g b (fill tb p)
 ow:Ow 25 wr c k (part (frs tb p) (k-j))
 io:Flow.Into [b,c] w1 wr
 hp:p<=tb.length
 hl:(frs tb p).length=j
 ha:a<=p
 hf:∀m,a<=m->m<p->(fill tb p).getD m false=true
theorem Rnd.next {W w1 wr:World} {q g b c k:Nat} {tb:List Bool} {j a p:Nat} (H:Rnd W w1 wr q g b c k tb j a p) (hT:Tab W) (hj:j<k) (hk:k<=free tb) (hc:q≠c/\g≠c/\b≠c/\W.heap.size<=c):
 ∃r:Nat,r<65536/\Calls Tryz.prog 157 #[g,(a:Int)] wr (fun e w'=>e=.returned (.tuple #[(r:Int),.bool true])/\wr=w')/\
  Calls Tryz.prog 110 #[g,(r:Int)] wr (fun e w'=>∃x,e=.returned (x:Int)/\w'.cell? ⟨q,0,none⟩=some (.pointer (some ⟨g,0,none⟩))/\w'.cell? ⟨c,j,none⟩=some (.int .u32 0)/\w'.frozen? ⟨c,j,none⟩=false/\Rnd W w1 (w'.setCell ⟨c,j,none⟩ (.int .u32 (r:Int))) q g b c k tb (j+1) r (r+1)):=by
 obtain ⟨r,h1,h2,h3,h4,h5,h6⟩:=Co H.hp H.ha H.hf (by rw [H.hl];exact hj) hk;have hlen:=H.pw.len.2;rw [dR] at hlen;have ha:=H.ha;have hp:=H.hp;refine ⟨r,by omega,?_,?_⟩
 . have:=H.pw.rw.Free (a:Int) (by omega)
   rw [h3] at this;exact this
 . refine (Bt.wY g b r (fill tb p) wr H.pw.rw.row).mono fun e w' ⟨he,hr,hi⟩=>⟨_,he,?_⟩
   have e1:jQ (fill tb p) (r:Int)=fill tb (r+1):=by
    unfold jQ;rw [in_lt (by rw [dR];exact h2)];exact h5
   rw [e1] at hr;have hp1:=H.pw.into hT hi hr;have ho1:=H.ow.into hi (by simpa using fun e=>hc.2.2.1 e.symm);obtain ⟨d,hd⟩:∃d,k-j=d+1:=⟨k-j-1,by omega⟩
   have hd':k-(j+1)=d:=(by omega);have hlp:j<(part (frs tb p) (k-j)).length:=(by rw [sD,H.hl];omega);obtain ⟨ho2,hi2⟩:=ho1.set j (.int .u32 (r:Int))
   have e2:(part (frs tb p) (k-j)).set j (.int .u32 (r:Int))=part (frs tb (r+1)) (k-(j+1)):=by
    have:=GQ (frs tb p) d r;rw [H.hl] at this;rw [hd,hd',this,h6]
   rw [e2] at ho2;refine ⟨hp1.cell,?_,ho1.free j,⟨hp1.far hT hi2 ⟨hc.1,hc.2.1,hc.2.2.1⟩ hc.2.2.2,ho2,?_,by omega,by rw [h6,List.length_append,H.hl];rfl,by omega,fun m h7 h8=>?_⟩⟩
   . rw [ho1.cell hlp,Ke _ _ _ hlp (by rw [H.hl];exact Nat.le_refl _)]
   . exact (H.io.trans (hi.mono (by simp))).trans (hi2.mono (by simp))
   . obtain rfl:m=r:=by omega
     exact JN tb m h2
theorem Kg {W w:World} {q g b:Nat} {tb:List Bool} (h:Pw W w q g b tb) (hT:Tab W) (k:Nat) (hf:k<=free tb):Calls Tryz.prog 112 #[q,(k:Int)] w fun e w'=>
 ∃c t l,e=.returned (.tuple #[.slice (some ⟨c,0,none⟩) k k,(0:Int)])/\Got tb k t l/\Pw W w' q g b t/\Ow 25 w' c k (l.map jc)/\w.heap.size<=c/\Flow.Into [b] w w':=by
 have HP:=hid h;have HT:=hid hT;have cR:=hid (jK h);have cF:=hid (lu h);have hle:=h.len;have hfr:free tb<=tb.length:=by unfold free;omega
 have hk1:k<=65536:=by omega
 have hF:decide (free tb<k)=false:=by simp;omega
 have HF:=hid hf;have hmk:=fun w=>eH (P:=Tryz.prog) Tryz.underlying38 l9 rfl (by omega) k (by omega) w;generalize hfv:free tb=f at cF hF;clear h hT hle hfr hf hfv;go_enter Tryz.func112,Tryz.ntmps112
 go_upto_region 8 with (first
  |(go_at_call 89;refine cR.out.mono ?_;rintro e w' ⟨rfl,rfl⟩)
  |(go_at_call 56;refine cF.out.mono ?_;rintro e w' ⟨rfl,rfl⟩))
 have HB:Hid (Bw w (w.alloc (.cells (Array.replicate k (.int .u32 0)) 25))):=bAx
 have HO:Hid (Ow 25 (w.alloc (.cells (Array.replicate k (.int .u32 0)) 25)) w.heap.size k (List.replicate k (.int .u32 0))):=by
  unfold Hid;have:=qZ 25 w (.int .u32 0) k (by omega);simpa using this
 generalize w.alloc (.cells (Array.replicate k (.int .u32 0)) 25)=w1 at*;have HP1:=hid (HP.out.kept HT.out HB.out);obtain ⟨c,hc⟩:∃c,c=w.heap.size:=⟨_,rfl⟩
 have HC:=hid hc
 have HN:Hid (q≠c/\g≠c/\b≠c/\W.heap.size<=c):=by
  have:=HP.out.lts;have:=HP.out.size;unfold Hid;omega
 rw [<-hc] at HO;rw [<-hc];have H0:Hid (Rnd W w1 w1 q g b c k tb 0 0 0):=⟨HP1.out,HO.out,Flow.Into.refl _ _,Nat.zero_le _,rfl,Nat.le_refl _,fun m h1 h2=>by omega⟩;clear hc HO cR cF hmk
 go_wp2
 go_loopw [7,24] (fun x i wr=>∃j a p:Nat,j<=k/\i= .int .i64 (j:Int)/\x= .int .i64 (a:Int)/\Hid (Rnd W w1 wr q g b c k tb j a p)) (fun _ i _=>k-(intOf i).toNat)
 case atStart=>exact ⟨0,0,0,Nat.zero_le _,rfl,rfl,H0⟩
 case round=>
  obtain ⟨j,a,p,hj,rfl,rfl,HR⟩:=hrel;clear H0 HP1;by_cases hlt:j<k
  . obtain ⟨r,hr,cF,cS⟩:=HR.out.next HT.out hlt HF.out HN.out
    have CF:=hid cF;have CS:=hid cS;have d0:=HR.out.pw.cell;have hw:IntKind.u32.wrap (r:Int)=(r:Int):=(by rw [IntKind.wrap_u32];omega);clear cF cS
    go_wp2_with (first
     |(go_at_call 157;refine CF.out.mono ?_;rintro e w' ⟨rfl,rfl⟩)
     |(go_at_call 110;refine CS.out.mono ?_;rintro e w2 ⟨x,rfl,d1,d2,d3,hrn⟩;have HR2:=hid hrn;clear hrn d0))
    exact ⟨⟨j+1,r,r+1,hlt,by go_num,rfl,HR2⟩,by simp [intOf];omega⟩
  . obtain rfl:j=k:=by omega
    go_wp2_with fail
    refine bodyPost_ret (v:= .tuple #[.slice (some ⟨c,0,none⟩) j j,(0:Int)]) (by simp [results,Tryz.results112,go_sem]) rfl ⟨c,fill tb p,frs tb p,rfl,⟨p,HR.out.hp,rfl,rfl,HR.out.hl⟩,HR.out.pw,?_,by rw [HC.out];exact Nat.le_refl _,?_⟩
    . have:=HR.out.ow
      rw [Nat.sub_self] at this;simpa [part] using this
    . have h1:=(Flow.Into.of_below HB.out).trans (HR.out.io.mono (S':=[b,c]) (by simp))
      exact ⟨h1.os,h1.tape,h1.output,h1.size,fun m hm hn=>h1.block m hm (by have:=HC.out;simp at hn ⊢;omega)⟩
end Po
end Go.Proofs.YtjpjjnalpdpljaaGreatDoor
set_option maxHeartbeats 1000000
namespace Go.Proofs.YtjpjjnalpdpljaaGreatDoor
open Go.RowKit
open Go.Lib (hid)
namespace Po
open Mem Bt
theorem Dz {W w:World} {q g b:Nat} {tb:List Bool} (h:Pw W w q g b tb) (hf:free tb=0):CW 72 #[q] w (.tuple #[.int .u32 0,(11:Int)]):=by
 have cG:=hid (Dy h 1 (by omega) (by omega));clear h;go_enter Tryz.func72,Tryz.ntmps72
 go_wp2_with (go_at_call 112;refine cG.out.mono ?_;rintro e w' ⟨rfl,rfl⟩)
 exact bodyPost_ret (v:= .tuple #[.int .u32 0,(11:Int)]) (by simp [results,Tryz.results72,go_sem]) rfl ⟨rfl,rfl⟩
theorem Kh {W w:World} {q g b:Nat} {tb:List Bool} (h:Pw W w q g b tb) (hT:Tab W) (hf:1<=free tb):Calls Tryz.prog 72 #[q] w fun e w'=>
 ∃(t:List Bool) (x:Nat),e=.returned (.tuple #[.int .u32 (x:Int),(0:Int)])/\Got tb 1 t [x]/\Pw W w' q g b t/\Flow.Into [b] w w':=by
 have cG:=hid (Kg h hT 1 hf);clear h;go_enter Tryz.func72,Tryz.ntmps72
 go_upto_region 2 with (go_at_call 112;refine cG.out.mono ?_;rintro e w1 ⟨c,t,l,rfl,hg,hp,ho,-,hi⟩)
 obtain ⟨x,rfl⟩:∃x,l=[x]:=List.length_eq_one_iff.1 hg.len.2
 have hc:w1.cell? ⟨c,0,none⟩=some (.int .u32 (x:Int)):=ho.cell (i:=0) (by simp);have HP:=hid hp;have HG:=hid hg;have HI:=hid hi;clear hp hg hi ho cG;go_wp2_with fail
 exact bodyPost_ret (v:= .tuple #[.int .u32 (x:Int),(0:Int)]) (by simp [results,Tryz.results72,go_sem]) rfl ⟨t,x,rfl,HG.out,HP.out,HI.out⟩
structure Lay (W w0 wr:World) (q g b:Nat) (tb:List Bool) (A:Option Addr) (c f:Nat):Prop where
 pw:Pw W wr q g b tb
 vo:VO 25 wr w0.heap.size A c ((tks tb f).map jc)
 bel:Bw w0 wr
 hf:f<=tb.length
theorem Lay.app {W w0 wr w':World} {q g b:Nat} {tb:List Bool} {A A':Option Addr} {c c' f r:Nat} {x:World} (H:Lay W w0 wr q g b tb A c f) (hT:Tab W) (hw0:Pw W w0 q g b tb) (hr:r<tb.length) (ht:tks tb (r+1)=tks tb f++[r])
 (hx:Below w0.heap.size wr x) (hd:LH 25 w0.heap.size x w' A A' c' ((tks tb f).map jc++[.int .u32 (r:Int)])):Lay W w0 w' q g b tb A' c' (r+1):=by
 have hb:=(H.bel.trans hx).trans hd.below;refine ⟨hw0.kept hT hb,?_,hb,by omega⟩;rw [ht,List.map_append];exact hd.vo
theorem Ki {W w:World} {q g b:Nat} {tb:List Bool} (h:Pw W w q g b tb) (hT:Tab W):Calls Tryz.prog 57 #[q] w fun e w'=>
 ∃A c,e=.returned (.slice A (cnt tb) c)/\VO 25 w' w.heap.size A c ((tks tb tb.length).map jc)/\Pw W w' q g b tb/\Bw w w':=by
 have HP:=hid h;have HT:=hid hT;have cH:=hid (yY h);have hle:=h.len;have hcn:cnt tb<=65536:=by have:=yK tb;omega
 have hmk:=fun w=>iN (P:=Tryz.prog) Tryz.underlying38 l9 rfl (by omega) (cnt tb) (by omega) w;obtain ⟨N,hN⟩:∃N,N=tb.length:=⟨_,rfl⟩
 have HN:=hid hN;have hN2:N<=65536:=by omega
 have HC:Hid ((tks tb tb.length).length=cnt tb):=rC tb;generalize hcv:cnt tb=C at*;clear h hT hle hN hcv;go_enter Tryz.func57,Tryz.ntmps57
 go_upto_region 2 with (go_at_call 91;refine cH.out.mono ?_;rintro e w' ⟨rfl,rfl⟩)
 have HB:Hid (Bw w (w.alloc (.cells (Array.replicate C (.int .u32 0)) 25))):=bAx
 have HO:Hid (VO 25 (w.alloc (.cells (Array.replicate C (.int .u32 0)) 25)) w.heap.size (some ⟨w.heap.size,0,none⟩) C []):=by
  unfold Hid;have:=VO.made 25 w w.heap.size (.int .u32 0) C (Nat.le_refl _) (by omega);simpa using this
 generalize w.alloc (.cells (Array.replicate C (.int .u32 0)) 25)=w1 at*;have H0:Hid (Lay W w w1 q g b tb (some ⟨w.heap.size,0,none⟩) C 0):=⟨HP.out.kept HT.out HB.out,HO.out,HB.out,Nat.zero_le _⟩;generalize some (⟨w.heap.size,0,none⟩:Addr)=A0 at*;clear HO cH hmk;have cR:∀wr A c f,Lay W w wr q g b tb A c f->Hid (CW 89 #[q] wr (.pointer (some ⟨g,0,none⟩))):=fun wr A c f H=>jK H.pw
 have cN:∀wr A c (f:Nat),Lay W w wr q g b tb A c f->Hid (CW 92 #[g,(f:Int)] wr (.tuple #[(foI (bI tb f true):Int),.bool (foB (bI tb f true))])):=fun wr A c f H=>H.pw.rw.Next f (by have:=H.hf;have:=HN.out;omega)
 have cN0:Hid (CW 92 #[g,(0:Int)] w1 (.tuple #[(foI (bI tb (0:Nat) true):Int),.bool (foB (bI tb (0:Nat) true))])):=cN w1 A0 C 0 H0.out;obtain ⟨o,ho⟩:∃o,o=bI tb ((0:Nat):Int) true:=⟨_,rfl⟩
 have HFO:=hid ho;rw [<-ho] at cN0;clear ho
 go_wp2_with (first
  |(go_at_call 89;refine (cR _ _ _ _ H0.out).out.mono ?_;rintro e w' ⟨rfl,rfl⟩)
  |(go_at_call 92;refine cN0.out.mono ?_;rintro e w' ⟨rfl,rfl⟩))
 clear cN0
 go_loopg [3,4,5] (N+1) (fun gk v x y wr=>∃(f m c:Nat) (A:Option Addr) (o:Option Nat),f<=N/\m<=f/\gk=N+1-f/\v= .slice A m c/\x= .int .i64 (foI o)/\y= .bool (foB o)/\Hid (m=(tks tb f).length)/\Hid (o=bI tb (f:Int) true)/\Hid (Lay W w wr q g b tb A c f))
 case atStart=>exact ⟨0,0,C,A0,o,Nat.zero_le _,Nat.le_refl _,rfl,rfl,rfl,rfl,rfl,HFO,H0⟩
 case round=>
  obtain ⟨f,m,c,A,o,hf,hm,rfl,rfl,rfl,rfl,HM,HO,HL⟩:=hrel;clear H0 HFO;cases o with
  |none=>
   have HE:Hid (tks tb tb.length=tks tb f):=Gc HL.out.hf HO.out.symm;have hcm:m=C:=(by rw [HM.out,<-HC.out,HE.out]);subst hcm;have hz:foB none=false:=rfl;simp only [hz];go_wp2_with fail
   go_ret
   exact ⟨A,c,rfl,by rw [HE.out];exact HL.out.vo,HL.out.pw,HL.out.bel⟩
  |some r=>
   obtain ⟨hr1,hr2,hr3⟩:=Gd HO.out.symm;have hz:foB (some r)=true:=rfl;have hz2:foI (some r)=(r:Int):=rfl;rw [<-HN.out] at hr1;have HR3:=hid hr3;have hw:IntKind.u32.wrap (r:Int)=(r:Int):=(by rw [IntKind.wrap_u32];omega);simp only [hz,hz2];have HM2:Hid (((tks tb f).map jc).length=m):=(by unfold Hid;rw [List.length_map,HM.out]);have HX:Hid (Bw wr (wr.alloc (.cells #[.int .u32 (r:Int)] 25))):=bAx;have hcl:Hid ((wr.alloc (.cells #[.int .u32 (r:Int)] 25)).cell? ⟨wr.heap.size,0,none⟩=some (.int .u32 (r:Int))):=(by unfold Hid;simp);have hB:w.heap.size<=wr.heap.size:=HL.out.bel.size;have HV:Hid (VO 25 (wr.alloc (.cells #[.int .u32 (r:Int)] 25)) w.heap.size A c ((tks tb f).map jc)):=HL.out.vo.kept HX.out;clear hr3;go_upto_region 4 with (with_reducible refine dQ rfl (.tmp 24) (.tmp 27) _ rfl 25 Tryz.underlying38 (.int .u32 0) 4 l9 rfl (by omega) w.heap.size A m c ((tks tb f).map jc) rfl HM2.out HV.out wr.heap.size 1 (.int .u32 (r:Int)) rfl hcl.out rfl (by omega) (Nat.le_trans hB HX.out.size) ?_;intro A' c' w3 hd)
   have HL3:=hid (HL.out.app HT.out HP.out (r:=r) (by rw [<-HN.out];exact hr1) HR3.out (HX.out.mono hB) hd.out);have HM3:Hid (m+1=(tks tb (r+1)).length):=(by unfold Hid;rw [HR3.out,List.length_append,HM.out];rfl);have cN1:=cN w3 A' c' (r+1) HL3.out;have hr1':((r+1:Nat):Int)=(r:Int)+1:=(by omega);rw [hr1'] at cN1;obtain ⟨o,ho⟩:∃o,o=bI tb ((r:Int)+1) true:=⟨_,rfl⟩
   have HFO:Hid (o=bI tb ((r+1:Nat):Int) true):=(by unfold Hid;rw [hr1',ho]);rw [<-ho] at cN1;clear ho hd HV hcl HX HM2
   go_wp2_with (first
    |(go_at_call 89;refine (cR _ _ _ _ HL3.out).out.mono ?_;rintro e w' ⟨rfl,rfl⟩)
    |(go_at_call 92;refine cN1.out.mono ?_;rintro e w' ⟨rfl,rfl⟩))
   go_roundg (N+1-(r+1))
   case measure=>omega
   case rel=>exact ⟨r+1,m+1,c',A',o,hr1,by omega,rfl,rfl,rfl,rfl,HM3,HFO,HL3⟩
end Po
end Go.Proofs.YtjpjjnalpdpljaaGreatDoor
set_option maxHeartbeats 2000000
set_option maxRecDepth 100000
namespace Go.Proofs.YtjpjjnalpdpljaaGreatDoor
open Go.RowKit
open Go.Lib (hid)
open IntKind (wrap_i64)
namespace Cf
theorem aT {w:World} {b:Nat} {v0 v1 v2 v3 v4 v5 v6 v7:Value} {U:TypeId} (h:w.heap[b]? =some (.cells #[v0,v1,v2,v3,v4,v5,v6,v7] U (0,0))):w.cell? ⟨b,0,none⟩=some v0/\w.cell? ⟨b,1,none⟩=some v1/\w.cell? ⟨b,2,none⟩=some v2/\w.cell? ⟨b,3,none⟩=some v3/\w.cell? ⟨b,4,none⟩=some v4/\w.cell? ⟨b,5,none⟩=some v5/\w.cell? ⟨b,6,none⟩=some v6/\w.cell? ⟨b,7,none⟩=some v7:=by
 simp [World.cell?,h]
theorem ig {w w':World} {b:Nat} {o:Obj} (h:w.heap[b]? =some o) (hb:Bw w w'):w'.heap[b]? =some o:=(hb.block b (Array.getElem?_eq_some_iff.1 h).1).trans h
theorem jX {W w w':World} (h:Bw W w) (hb:Bw w w'):Bw W w':=h.trans (hb.mono h.size)
theorem jl (n lo hi:Int) (W:World) (h1:lo<=n) (h2:n<=hi):CB 68 #[n,lo,hi] W (.bool true):=by
 go_enter Tryz.func68,Tryz.ntmps68
 go_wp2
 go_ret
 exact ⟨rfl,Below.refl _ _⟩
theorem nO (n lo hi:Int) (W:World) (h:¬(lo<=n/\n<=hi)):CB 68 #[n,lo,hi] W (.bool false):=by
 by_cases h1:lo<=n
 . have h2:decide (n<=hi)=false:=by simp;omega
   clear h;go_enter Tryz.func68,Tryz.ntmps68
   go_wp2
   go_ret
   exact ⟨rfl,Below.refl _ _⟩
 . have h1:n<lo:=by omega
   clear h;go_enter Tryz.func68,Tryz.ntmps68
   go_wp2
   go_ret
   exact ⟨rfl,Below.refl _ _⟩
def Shape (fa bu le ke va:Int):Prop:=(8<=fa/\fa<=64)/\(2*fa<=bu/\bu<=512)/\(bu<=le/\le<=1024)/\(1<=ke/\ke<=64)/\(0<=va/\va<=256)
theorem gq (b y fr fa bu le ke va:Int) (W:World) (h:Shape fa bu le ke va):CB 67 #[.agg #[b,y,fr,fa,bu,le,ke,va]] W (.bool true):=by
 obtain ⟨⟨h1,h1'⟩,⟨h2,h2'⟩,⟨h3,h3'⟩,⟨h4,h4'⟩,h5,h5'⟩:=h;have hw:IntKind.i64.wrap (2*fa)=2*fa:=by rw [wrap_i64];omega
 go_enter Tryz.func67,Tryz.ntmps67
 go_upto_region 1 with fail
 have hx:=heap_alloc_new W (.cells #[b,y,fr,fa,bu,le,ke,va] 23);have hb1:Bw W (W.alloc (.cells #[b,y,fr,fa,bu,le,ke,va] 23)):=bAx;obtain ⟨g,hg⟩:∃g,g=W.heap.size:=⟨_,rfl⟩
 generalize W.alloc (.cells #[b,y,fr,fa,bu,le,ke,va] 23)=w1 at*;rw [<-hg] at hx ⊢;have HX:=hid hx;have HB:=hid hb1;obtain ⟨c0,c1,c2,c3,c4,c5,c6,c7⟩:=aT hx;clear hx hb1 hg;go_wp2_with (go_at_call 68;(first|(refine (jl _ _ _ _ (by omega) (by omega)).mono ?_)|(refine (nO _ _ _ _ (by omega)).mono ?_));rintro e w' ⟨rfl,hb⟩;replace HX:=hid (ig HX.out hb);replace HB:=hid (jX HB.out hb);clear hb;obtain ⟨c0,c1,c2,c3,c4,c5,c6,c7⟩:=aT HX.out)
 go_ret
 exact ⟨rfl,HB.out⟩
theorem GR (b y fr fa bu le ke va:Int) (W:World) (h:¬Shape fa bu le ke va):CB 67 #[.agg #[b,y,fr,fa,bu,le,ke,va]] W (.bool false):=by
 by_cases nfa:8<=fa/\fa<=64
 case neg=>
  clear h;go_enter Tryz.func67,Tryz.ntmps67
  go_upto_region 1 with fail
  have hx:=heap_alloc_new W (.cells #[b,y,fr,fa,bu,le,ke,va] 23);have hb1:Bw W (W.alloc (.cells #[b,y,fr,fa,bu,le,ke,va] 23)):=bAx;obtain ⟨g,hg⟩:∃g,g=W.heap.size:=⟨_,rfl⟩
  generalize W.alloc (.cells #[b,y,fr,fa,bu,le,ke,va] 23)=w1 at*;rw [<-hg] at hx ⊢;have HX:=hid hx;have HB:=hid hb1;obtain ⟨c0,c1,c2,c3,c4,c5,c6,c7⟩:=aT hx;clear hx hb1 hg;go_wp2_with (go_at_call 68;(first|(refine (jl _ _ _ _ (by omega) (by omega)).mono ?_)|(refine (nO _ _ _ _ (by omega)).mono ?_));rintro e w' ⟨rfl,hb⟩;replace HX:=hid (ig HX.out hb);replace HB:=hid (jX HB.out hb);clear hb;obtain ⟨c0,c1,c2,c3,c4,c5,c6,c7⟩:=aT HX.out)
  go_ret
  exact ⟨rfl,HB.out⟩
 by_cases nke:1<=ke/\ke<=64
 case neg=>
  have hw:IntKind.i64.wrap (2*fa)=2*fa:=by rw [wrap_i64];omega
  clear h;obtain ⟨mfa,Kj⟩:=nfa;go_enter Tryz.func67,Tryz.ntmps67
  go_upto_region 1 with fail
  have hx:=heap_alloc_new W (.cells #[b,y,fr,fa,bu,le,ke,va] 23);have hb1:Bw W (W.alloc (.cells #[b,y,fr,fa,bu,le,ke,va] 23)):=bAx;obtain ⟨g,hg⟩:∃g,g=W.heap.size:=⟨_,rfl⟩
  generalize W.alloc (.cells #[b,y,fr,fa,bu,le,ke,va] 23)=w1 at*;rw [<-hg] at hx ⊢;have HX:=hid hx;have HB:=hid hb1;obtain ⟨c0,c1,c2,c3,c4,c5,c6,c7⟩:=aT hx;clear hx hb1 hg;go_wp2_with (go_at_call 68;(first|(refine (jl _ _ _ _ (by omega) (by omega)).mono ?_)|(refine (nO _ _ _ _ (by omega)).mono ?_));rintro e w' ⟨rfl,hb⟩;replace HX:=hid (ig HX.out hb);replace HB:=hid (jX HB.out hb);clear hb;obtain ⟨c0,c1,c2,c3,c4,c5,c6,c7⟩:=aT HX.out)
  go_ret
  exact ⟨rfl,HB.out⟩
 by_cases nva:0<=va/\va<=256
 case neg=>
  have hw:IntKind.i64.wrap (2*fa)=2*fa:=by rw [wrap_i64];omega
  clear h;obtain ⟨mfa,Kj⟩:=nfa;obtain ⟨mke,O5⟩:=nke;go_enter Tryz.func67,Tryz.ntmps67
  go_upto_region 1 with fail
  have hx:=heap_alloc_new W (.cells #[b,y,fr,fa,bu,le,ke,va] 23);have hb1:Bw W (W.alloc (.cells #[b,y,fr,fa,bu,le,ke,va] 23)):=bAx;obtain ⟨g,hg⟩:∃g,g=W.heap.size:=⟨_,rfl⟩
  generalize W.alloc (.cells #[b,y,fr,fa,bu,le,ke,va] 23)=w1 at*;rw [<-hg] at hx ⊢;have HX:=hid hx;have HB:=hid hb1;obtain ⟨c0,c1,c2,c3,c4,c5,c6,c7⟩:=aT hx;clear hx hb1 hg;go_wp2_with (go_at_call 68;(first|(refine (jl _ _ _ _ (by omega) (by omega)).mono ?_)|(refine (nO _ _ _ _ (by omega)).mono ?_));rintro e w' ⟨rfl,hb⟩;replace HX:=hid (ig HX.out hb);replace HB:=hid (jX HB.out hb);clear hb;obtain ⟨c0,c1,c2,c3,c4,c5,c6,c7⟩:=aT HX.out)
  go_ret
  exact ⟨rfl,HB.out⟩
 by_cases nbu:2*fa<=bu/\bu<=512
 case neg=>
  have hw:IntKind.i64.wrap (2*fa)=2*fa:=by rw [wrap_i64];omega
  clear h;obtain ⟨mfa,Kj⟩:=nfa;obtain ⟨mke,O5⟩:=nke;obtain ⟨mva,Rp⟩:=nva;go_enter Tryz.func67,Tryz.ntmps67
  go_upto_region 1 with fail
  have hx:=heap_alloc_new W (.cells #[b,y,fr,fa,bu,le,ke,va] 23);have hb1:Bw W (W.alloc (.cells #[b,y,fr,fa,bu,le,ke,va] 23)):=bAx;obtain ⟨g,hg⟩:∃g,g=W.heap.size:=⟨_,rfl⟩
  generalize W.alloc (.cells #[b,y,fr,fa,bu,le,ke,va] 23)=w1 at*;rw [<-hg] at hx ⊢;have HX:=hid hx;have HB:=hid hb1;obtain ⟨c0,c1,c2,c3,c4,c5,c6,c7⟩:=aT hx;clear hx hb1 hg;go_wp2_with (go_at_call 68;(first|(refine (jl _ _ _ _ (by omega) (by omega)).mono ?_)|(refine (nO _ _ _ _ (by omega)).mono ?_));rintro e w' ⟨rfl,hb⟩;replace HX:=hid (ig HX.out hb);replace HB:=hid (jX HB.out hb);clear hb;obtain ⟨c0,c1,c2,c3,c4,c5,c6,c7⟩:=aT HX.out)
  go_ret
  exact ⟨rfl,HB.out⟩
 by_cases nle:bu<=le/\le<=1024
 case neg=>
  have hw:IntKind.i64.wrap (2*fa)=2*fa:=by rw [wrap_i64];omega
  clear h;obtain ⟨mfa,Kj⟩:=nfa;obtain ⟨mke,O5⟩:=nke;obtain ⟨mva,Rp⟩:=nva;obtain ⟨mbu,O6⟩:=nbu;go_enter Tryz.func67,Tryz.ntmps67
  go_upto_region 1 with fail
  have hx:=heap_alloc_new W (.cells #[b,y,fr,fa,bu,le,ke,va] 23);have hb1:Bw W (W.alloc (.cells #[b,y,fr,fa,bu,le,ke,va] 23)):=bAx;obtain ⟨g,hg⟩:∃g,g=W.heap.size:=⟨_,rfl⟩
  generalize W.alloc (.cells #[b,y,fr,fa,bu,le,ke,va] 23)=w1 at*;rw [<-hg] at hx ⊢;have HX:=hid hx;have HB:=hid hb1;obtain ⟨c0,c1,c2,c3,c4,c5,c6,c7⟩:=aT hx;clear hx hb1 hg;go_wp2_with (go_at_call 68;(first|(refine (jl _ _ _ _ (by omega) (by omega)).mono ?_)|(refine (nO _ _ _ _ (by omega)).mono ?_));rintro e w' ⟨rfl,hb⟩;replace HX:=hid (ig HX.out hb);replace HB:=hid (jX HB.out hb);clear hb;obtain ⟨c0,c1,c2,c3,c4,c5,c6,c7⟩:=aT HX.out)
  go_ret
  exact ⟨rfl,HB.out⟩
 exact absurd ⟨nfa,nbu,nle,nke,nva⟩ h
end Cf
end Go.Proofs.YtjpjjnalpdpljaaGreatDoor
namespace Go.Proofs.YtjpjjnalpdpljaaGreatDoor
open Go.RowKit
namespace Cf
def inn (fa bu ke va:Int):Int:=8+4*fa+(fa-1)*(1+ke)+bu*(4+ke+va)
def out (le ke va:Int):Int:=8+le*(3+ke+va)
theorem uP {a c A C:Int} (h0:0<=a) (h1:a<=A) (h2:0<=c) (h3:c<=C):0<=a*c/\a*c<=A*C:=
 ⟨Int.mul_nonneg h0 h2,Int.mul_le_mul h1 h3 h2 (Int.le_trans h0 h1)⟩
def few (fa bu le ke va:Int):Int:=max (max 64 (inn fa bu ke va)) (out le ke va)
end Cf
end Go.Proofs.YtjpjjnalpdpljaaGreatDoor
namespace Go.Proofs.YtjpjjnalpdpljaaGreatDoor
open Go.RowKit
namespace Cf
def Right (b y fr fa bu le ke va:Int):Prop:=Shape fa bu le ke va/\(5<=b/\b<=65536)/\(8<=fr/\fr<=64)/\(few fa bu le ke va<=y/\y<=65536)
end Cf
end Go.Proofs.YtjpjjnalpdpljaaGreatDoor
set_option maxHeartbeats 2000000
set_option maxRecDepth 100000
namespace Go.Proofs.YtjpjjnalpdpljaaGreatDoor
open Go.RowKit
open Go.Lib (hid)
open IntKind (wrap_i64)
namespace Cf
theorem bX (lo n hi:Int) (W:World) (h1:lo<=n) (h2:n<=hi):CB 98 #[lo,n,hi] W (.bool true):=by
 go_enter Tryz.func98,Tryz.ntmps98
 go_wp2
 go_ret
 exact ⟨rfl,Below.refl _ _⟩
theorem dH (lo n hi:Int) (W:World) (h:¬(lo<=n/\n<=hi)):CB 98 #[lo,n,hi] W (.bool false):=by
 by_cases h1:lo<=n
 . have h2:decide (n<=hi)=false:=by simp;omega
   clear h;go_enter Tryz.func98,Tryz.ntmps98
   go_wp2
   go_ret
   exact ⟨rfl,Below.refl _ _⟩
 . have h1:n<lo:=by omega
   clear h;go_enter Tryz.func98,Tryz.ntmps98
   go_wp2
   go_ret
   exact ⟨rfl,Below.refl _ _⟩
theorem dO (b y fr fa bu le ke va:Int) (W:World) (h:Shape fa bu le ke va):CB 97 #[.agg #[b,y,fr,fa,bu,le,ke,va]] W (.bool true):=by
 obtain ⟨⟨h1,h1'⟩,⟨h2,h2'⟩,⟨h3,h3'⟩,⟨h4,h4'⟩,h5,h5'⟩:=h;have hw:IntKind.i64.wrap (2*fa)=2*fa:=by rw [wrap_i64];omega
 go_enter Tryz.func97,Tryz.ntmps97
 go_upto_region 1 with fail
 have hx:=heap_alloc_new W (.cells #[b,y,fr,fa,bu,le,ke,va] 23);have hb1:Bw W (W.alloc (.cells #[b,y,fr,fa,bu,le,ke,va] 23)):=bAx;obtain ⟨g,hg⟩:∃g,g=W.heap.size:=⟨_,rfl⟩
 generalize W.alloc (.cells #[b,y,fr,fa,bu,le,ke,va] 23)=w1 at*;rw [<-hg] at hx ⊢;have HX:=hid hx;have HB:=hid hb1;obtain ⟨c0,c1,c2,c3,c4,c5,c6,c7⟩:=aT hx;clear hx hb1 hg;go_wp2_with (go_at_call 98;(first|(refine (bX _ _ _ _ (by omega) (by omega)).mono ?_)|(refine (dH _ _ _ _ (by omega)).mono ?_));rintro e w' ⟨rfl,hb⟩;replace HX:=hid (ig HX.out hb);replace HB:=hid (jX HB.out hb);clear hb;obtain ⟨c0,c1,c2,c3,c4,c5,c6,c7⟩:=aT HX.out)
 go_ret
 exact ⟨rfl,HB.out⟩
theorem wZ (b y fr fa bu le ke va:Int) (W:World) (h:¬Shape fa bu le ke va):CB 97 #[.agg #[b,y,fr,fa,bu,le,ke,va]] W (.bool false):=by
 by_cases nfa:8<=fa/\fa<=64
 case neg=>
  clear h;go_enter Tryz.func97,Tryz.ntmps97
  go_upto_region 1 with fail
  have hx:=heap_alloc_new W (.cells #[b,y,fr,fa,bu,le,ke,va] 23);have hb1:Bw W (W.alloc (.cells #[b,y,fr,fa,bu,le,ke,va] 23)):=bAx;obtain ⟨g,hg⟩:∃g,g=W.heap.size:=⟨_,rfl⟩
  generalize W.alloc (.cells #[b,y,fr,fa,bu,le,ke,va] 23)=w1 at*;rw [<-hg] at hx ⊢;have HX:=hid hx;have HB:=hid hb1;obtain ⟨c0,c1,c2,c3,c4,c5,c6,c7⟩:=aT hx;clear hx hb1 hg;go_wp2_with (go_at_call 98;(first|(refine (bX _ _ _ _ (by omega) (by omega)).mono ?_)|(refine (dH _ _ _ _ (by omega)).mono ?_));rintro e w' ⟨rfl,hb⟩;replace HX:=hid (ig HX.out hb);replace HB:=hid (jX HB.out hb);clear hb;obtain ⟨c0,c1,c2,c3,c4,c5,c6,c7⟩:=aT HX.out)
  go_ret
  exact ⟨rfl,HB.out⟩
 by_cases nbu:2*fa<=bu/\bu<=512
 case neg=>
  have hw:IntKind.i64.wrap (2*fa)=2*fa:=by rw [wrap_i64];omega
  clear h;obtain ⟨mfa,Kj⟩:=nfa;go_enter Tryz.func97,Tryz.ntmps97
  go_upto_region 1 with fail
  have hx:=heap_alloc_new W (.cells #[b,y,fr,fa,bu,le,ke,va] 23);have hb1:Bw W (W.alloc (.cells #[b,y,fr,fa,bu,le,ke,va] 23)):=bAx;obtain ⟨g,hg⟩:∃g,g=W.heap.size:=⟨_,rfl⟩
  generalize W.alloc (.cells #[b,y,fr,fa,bu,le,ke,va] 23)=w1 at*;rw [<-hg] at hx ⊢;have HX:=hid hx;have HB:=hid hb1;obtain ⟨c0,c1,c2,c3,c4,c5,c6,c7⟩:=aT hx;clear hx hb1 hg;go_wp2_with (go_at_call 98;(first|(refine (bX _ _ _ _ (by omega) (by omega)).mono ?_)|(refine (dH _ _ _ _ (by omega)).mono ?_));rintro e w' ⟨rfl,hb⟩;replace HX:=hid (ig HX.out hb);replace HB:=hid (jX HB.out hb);clear hb;obtain ⟨c0,c1,c2,c3,c4,c5,c6,c7⟩:=aT HX.out)
  go_ret
  exact ⟨rfl,HB.out⟩
 by_cases nle:bu<=le/\le<=1024
 case neg=>
  have hw:IntKind.i64.wrap (2*fa)=2*fa:=by rw [wrap_i64];omega
  clear h;obtain ⟨mfa,Kj⟩:=nfa;obtain ⟨mbu,O6⟩:=nbu;go_enter Tryz.func97,Tryz.ntmps97
  go_upto_region 1 with fail
  have hx:=heap_alloc_new W (.cells #[b,y,fr,fa,bu,le,ke,va] 23);have hb1:Bw W (W.alloc (.cells #[b,y,fr,fa,bu,le,ke,va] 23)):=bAx;obtain ⟨g,hg⟩:∃g,g=W.heap.size:=⟨_,rfl⟩
  generalize W.alloc (.cells #[b,y,fr,fa,bu,le,ke,va] 23)=w1 at*;rw [<-hg] at hx ⊢;have HX:=hid hx;have HB:=hid hb1;obtain ⟨c0,c1,c2,c3,c4,c5,c6,c7⟩:=aT hx;clear hx hb1 hg;go_wp2_with (go_at_call 98;(first|(refine (bX _ _ _ _ (by omega) (by omega)).mono ?_)|(refine (dH _ _ _ _ (by omega)).mono ?_));rintro e w' ⟨rfl,hb⟩;replace HX:=hid (ig HX.out hb);replace HB:=hid (jX HB.out hb);clear hb;obtain ⟨c0,c1,c2,c3,c4,c5,c6,c7⟩:=aT HX.out)
  go_ret
  exact ⟨rfl,HB.out⟩
 by_cases nke:1<=ke/\ke<=64
 case neg=>
  have hw:IntKind.i64.wrap (2*fa)=2*fa:=by rw [wrap_i64];omega
  clear h;obtain ⟨mfa,Kj⟩:=nfa;obtain ⟨mbu,O6⟩:=nbu;obtain ⟨mle,Rq⟩:=nle;go_enter Tryz.func97,Tryz.ntmps97
  go_upto_region 1 with fail
  have hx:=heap_alloc_new W (.cells #[b,y,fr,fa,bu,le,ke,va] 23);have hb1:Bw W (W.alloc (.cells #[b,y,fr,fa,bu,le,ke,va] 23)):=bAx;obtain ⟨g,hg⟩:∃g,g=W.heap.size:=⟨_,rfl⟩
  generalize W.alloc (.cells #[b,y,fr,fa,bu,le,ke,va] 23)=w1 at*;rw [<-hg] at hx ⊢;have HX:=hid hx;have HB:=hid hb1;obtain ⟨c0,c1,c2,c3,c4,c5,c6,c7⟩:=aT hx;clear hx hb1 hg;go_wp2_with (go_at_call 98;(first|(refine (bX _ _ _ _ (by omega) (by omega)).mono ?_)|(refine (dH _ _ _ _ (by omega)).mono ?_));rintro e w' ⟨rfl,hb⟩;replace HX:=hid (ig HX.out hb);replace HB:=hid (jX HB.out hb);clear hb;obtain ⟨c0,c1,c2,c3,c4,c5,c6,c7⟩:=aT HX.out)
  go_ret
  exact ⟨rfl,HB.out⟩
 by_cases nva:0<=va/\va<=256
 case neg=>
  have hw:IntKind.i64.wrap (2*fa)=2*fa:=by rw [wrap_i64];omega
  clear h;obtain ⟨mfa,Kj⟩:=nfa;obtain ⟨mbu,O6⟩:=nbu;obtain ⟨mle,Rq⟩:=nle;obtain ⟨mke,O5⟩:=nke;go_enter Tryz.func97,Tryz.ntmps97
  go_upto_region 1 with fail
  have hx:=heap_alloc_new W (.cells #[b,y,fr,fa,bu,le,ke,va] 23);have hb1:Bw W (W.alloc (.cells #[b,y,fr,fa,bu,le,ke,va] 23)):=bAx;obtain ⟨g,hg⟩:∃g,g=W.heap.size:=⟨_,rfl⟩
  generalize W.alloc (.cells #[b,y,fr,fa,bu,le,ke,va] 23)=w1 at*;rw [<-hg] at hx ⊢;have HX:=hid hx;have HB:=hid hb1;obtain ⟨c0,c1,c2,c3,c4,c5,c6,c7⟩:=aT hx;clear hx hb1 hg;go_wp2_with (go_at_call 98;(first|(refine (bX _ _ _ _ (by omega) (by omega)).mono ?_)|(refine (dH _ _ _ _ (by omega)).mono ?_));rintro e w' ⟨rfl,hb⟩;replace HX:=hid (ig HX.out hb);replace HB:=hid (jX HB.out hb);clear hb;obtain ⟨c0,c1,c2,c3,c4,c5,c6,c7⟩:=aT HX.out)
  go_ret
  exact ⟨rfl,HB.out⟩
 exact absurd ⟨nfa,nbu,nle,nke,nva⟩ h
end Cf
end Go.Proofs.YtjpjjnalpdpljaaGreatDoor
set_option maxHeartbeats 2000000
set_option maxRecDepth 100000
namespace Go.Proofs.YtjpjjnalpdpljaaGreatDoor
open Go.RowKit
open Go.Lib (hid)
open ah (dL tc)
open IntKind (wrap_i64)
namespace Cf
theorem Rs (W:World) (o1 o2:Obj):Bw W ((W.alloc o1).alloc o2)/\((W.alloc o1).alloc o2).heap[W.heap.size]? =some o1/\((W.alloc o1).alloc o2).heap[W.heap.size+1]? =some o2:=by
 have s1:(W.alloc o1).heap.size=W.heap.size+1:=by simp
 refine ⟨(bAx).alloc (by omega) _,?_,?_⟩
 . rw [Below.heap_alloc _ _ _ (by omega)]
   exact heap_alloc_new W o1
 . have:=heap_alloc_new (W.alloc o1) o2
   rwa [s1] at this
theorem sK {w:World} {b:Nat} {C:Array Value} {U:TypeId} (h:w.heap[b]? =some (.cells C U (0,0))) (i:Nat):w.frozen? ⟨b,i,none⟩=false:=by
 simp [World.frozen?,h]
def Og (w:World) (b:Nat) (v0 v1 v2 v3 v4 v5 v6 v7:Value):World:=(((((((w.setCell ⟨b,0,none⟩ v0).setCell ⟨b,1,none⟩ v1).setCell ⟨b,2,none⟩ v2).setCell ⟨b,3,none⟩ v3).setCell ⟨b,4,none⟩ v4).setCell ⟨b,5,none⟩ v5).setCell ⟨b,6,none⟩ v6).setCell ⟨b,7,none⟩ v7
theorem Kk {w:World} {b:Nat} {u0 u1 u2 u3 u4 u5 u6 u7:Value} {U:TypeId} (h:w.heap[b]? =some (.cells #[u0,u1,u2,u3,u4,u5,u6,u7] U (0,0))) (v0 v1 v2 v3 v4 v5 v6 v7:Value):(Og w b v0 v1 v2 v3 v4 v5 v6 v7).heap[b]? =some (.cells #[v0,v1,v2,v3,v4,v5,v6,v7] U (0,0)):=by
 unfold Og;simp [World.setCell,Array.getElem?_modify,h]
theorem Ar {B b:Nat} {a w:World} (h:Below B a w) (hb:B<=b) (v0 v1 v2 v3 v4 v5 v6 v7:Value):Below B a (Og w b v0 v1 v2 v3 v4 v5 v6 v7):=
 (((((((h.setCell hb v0).setCell hb v1).setCell hb v2).setCell hb v3).setCell hb v4).setCell hb v5).setCell hb v6).setCell hb v7
theorem sM (b y fr fa bu le ke va:Int) (W:World) (h:Shape fa bu le ke va):CB 166 #[.agg #[b,y,fr,fa,bu,le,ke,va]] W (.int .i64 (1+ke)):=by
 obtain ⟨⟨h1,h1'⟩,⟨h2,h2'⟩,⟨h3,h3'⟩,⟨h4,h4'⟩,h5,h5'⟩:=h;go_enter Tryz.func166,Tryz.ntmps166
 go_upto_region 1 with fail
 have hx:=heap_alloc_new W (.cells #[b,y,fr,fa,bu,le,ke,va] 23);have hb1:Bw W (W.alloc (.cells #[b,y,fr,fa,bu,le,ke,va] 23)):=bAx;obtain ⟨g,hg⟩:∃g,g=W.heap.size:=⟨_,rfl⟩
 generalize W.alloc (.cells #[b,y,fr,fa,bu,le,ke,va] 23)=w1 at*;rw [<-hg] at hx ⊢;have HX:=hid hx;have HB:=hid hb1;obtain ⟨c0,c1,c2,c3,c4,c5,c6,c7⟩:=aT hx;clear hx hb1 hg
 go_wp2
 go_ret
 exact ⟨rfl,HB.out⟩
theorem o9 (b y fr fa bu le ke va:Int) (W:World) (h:Shape fa bu le ke va):CB 167 #[.agg #[b,y,fr,fa,bu,le,ke,va]] W (.int .i64 (4+ke+va)):=by
 obtain ⟨⟨h1,h1'⟩,⟨h2,h2'⟩,⟨h3,h3'⟩,⟨h4,h4'⟩,h5,h5'⟩:=h;go_enter Tryz.func167,Tryz.ntmps167
 go_upto_region 1 with fail
 have hx:=heap_alloc_new W (.cells #[b,y,fr,fa,bu,le,ke,va] 23);have hb1:Bw W (W.alloc (.cells #[b,y,fr,fa,bu,le,ke,va] 23)):=bAx;obtain ⟨g,hg⟩:∃g,g=W.heap.size:=⟨_,rfl⟩
 generalize W.alloc (.cells #[b,y,fr,fa,bu,le,ke,va] 23)=w1 at*;rw [<-hg] at hx ⊢;have HX:=hid hx;have HB:=hid hb1;obtain ⟨c0,c1,c2,c3,c4,c5,c6,c7⟩:=aT hx;clear hx hb1 hg
 go_wp2
 go_ret
 exact ⟨rfl,HB.out⟩
theorem uQ (b y fr fa bu le ke va:Int) (W:World) (h:Shape fa bu le ke va):CB 168 #[.agg #[b,y,fr,fa,bu,le,ke,va]] W (.int .i64 (3+ke+va)):=by
 obtain ⟨⟨h1,h1'⟩,⟨h2,h2'⟩,⟨h3,h3'⟩,⟨h4,h4'⟩,h5,h5'⟩:=h;go_enter Tryz.func168,Tryz.ntmps168
 go_upto_region 1 with fail
 have hx:=heap_alloc_new W (.cells #[b,y,fr,fa,bu,le,ke,va] 23);have hb1:Bw W (W.alloc (.cells #[b,y,fr,fa,bu,le,ke,va] 23)):=bAx;obtain ⟨g,hg⟩:∃g,g=W.heap.size:=⟨_,rfl⟩
 generalize W.alloc (.cells #[b,y,fr,fa,bu,le,ke,va] 23)=w1 at*;rw [<-hg] at hx ⊢;have HX:=hid hx;have HB:=hid hb1;obtain ⟨c0,c1,c2,c3,c4,c5,c6,c7⟩:=aT hx;clear hx hb1 hg
 go_wp2
 go_ret
 exact ⟨rfl,HB.out⟩
theorem DC (b y fr fa bu le ke va:Int) (W:World) (h:Shape fa bu le ke va):CB 134 #[.agg #[b,y,fr,fa,bu,le,ke,va]] W (.int .i64 (inn fa bu ke va)):=by
 have cS:=fun W=>hid (dO b y fr fa bu le ke va W h);have cP:=fun W=>hid (sM b y fr fa bu le ke va W h);have cM:=fun W=>hid (o9 b y fr fa bu le ke va W h);obtain ⟨⟨h1,h1'⟩,⟨h2,h2'⟩,⟨h3,h3'⟩,⟨h4,h4'⟩,h5,h5'⟩:=h;obtain ⟨p0,p1⟩:=uP (a:=fa-1) (c:=1+ke) (A:=63) (C:=65) (by omega) (by omega) (by omega) (by omega);obtain ⟨s0,s1⟩:=uP (a:=bu) (c:=4+ke+va) (A:=512) (C:=324) (by omega) (by omega) (by omega) (by omega);have HI:Hid (inn fa bu ke va=8+4*fa+(fa-1)*(1+ke)+bu*(4+ke+va)):=rfl;obtain ⟨P,hP⟩:∃P,P=(fa-1)*(1+ke):=⟨_,rfl⟩
 obtain ⟨Q,hQ⟩:∃Q,Q=bu*(4+ke+va):=⟨_,rfl⟩
 rw [<-hP] at p0 p1 HI;rw [<-hQ] at s0 s1 HI;have hwP:IntKind.i64.wrap ((fa-1)*(1+ke))=P:=by rw [<-hP,wrap_i64];omega
 have hwQ:IntKind.i64.wrap (bu*(4+ke+va))=Q:=by rw [<-hQ,wrap_i64];omega
 have hw1:IntKind.i64.wrap (fa-1)=fa-1:=by rw [wrap_i64];omega
 clear hP hQ;go_enter Tryz.func134,Tryz.ntmps134
 go_upto_region 1 with fail
 have hx:=heap_alloc_new W (.cells #[b,y,fr,fa,bu,le,ke,va] 23);have hb1:Bw W (W.alloc (.cells #[b,y,fr,fa,bu,le,ke,va] 23)):=bAx;obtain ⟨g,hg⟩:∃g,g=W.heap.size:=⟨_,rfl⟩
 generalize W.alloc (.cells #[b,y,fr,fa,bu,le,ke,va] 23)=w1 at*;rw [<-hg] at hx ⊢;have HX:=hid hx;have HB:=hid hb1;obtain ⟨c0,c1,c2,c3,c4,c5,c6,c7⟩:=aT hx;clear hx hb1 hg;go_upto_region 3 with (go_at_call 97;refine (cS _).out.mono ?_;rintro e w2 ⟨rfl,hb⟩;replace HX:=hid (ig HX.out hb);replace HB:=hid (jX HB.out hb);clear hb)
 clear c0 c1 c2 c3 c4 c5 c6 c7 cS;obtain ⟨c0,c1,c2,c3,c4,c5,c6,c7⟩:=aT HX.out;go_upto_region 4 with fail
 have z0:=tc c0;have z1:=tc c1;have z2:=tc c2;have z3:=tc c3;have z4:=tc c4;have z5:=tc c5;have z6:=tc c6;have z7:=tc c7;clear c0 c1 c2 c3 c4 c5 c6 c7;refine ah.aj [] [(0,[]),(1,[]),(2,[]),(3,[]),(4,[]),(5,[]),(6,[])] [] [] (by kernel_rfl) (by kernel_rfl) (by simp) ?_;simp only [ah.pick,ah.aO,dL]
 repeat (refine ah.ak (fun K hK=>?_);go_simp;first|(refine hK _ ?_;clear hK K)|(apply Exists.intro;refine ⟨fun q=>?_,hK _ ?_⟩;(first|(go_at_call 166;exact (cP _).out));clear hK K))
 refine ah.walk_nil ?_;intro w3 hb _;replace HX:=hid (ig HX.out hb);replace HB:=hid (jX HB.out hb);clear hb z0 z1 z2 z3 z4 z5 z6 z7 cP hwP hw1;simp only [lC,List.drop_nil,Nat.zero_add,Nat.reduceAdd];obtain ⟨c0,c1,c2,c3,c4,c5,c6,c7⟩:=aT HX.out;go_upto_region 5 with fail
 have z0:=tc c0;have z1:=tc c1;have z2:=tc c2;have z3:=tc c3;have z4:=tc c4;have z5:=tc c5;have z6:=tc c6;have z7:=tc c7;clear c0 c1 c2 c3 c4 c5 c6 c7;refine ah.aj [] [(0,[]),(1,[]),(2,[]),(3,[]),(4,[]),(5,[])] [] [] (by kernel_rfl) (by kernel_rfl) (by simp) ?_;simp only [ah.pick,ah.aO,dL]
 repeat (refine ah.ak (fun K hK=>?_);go_simp;first|(refine hK _ ?_;clear hK K)|(apply Exists.intro;refine ⟨fun q=>?_,hK _ ?_⟩;(first|(go_at_call 167;exact (cM _).out));clear hK K))
 refine ah.walk_nil ?_;intro w4 hb _;replace HX:=hid (ig HX.out hb);replace HB:=hid (jX HB.out hb);clear hb z0 z1 z2 z3 z4 z5 z6 z7 cM hwQ;simp only [lC,List.drop_nil,Nat.zero_add,Nat.reduceAdd]
 go_wp2
 go_ret
 refine ⟨?_,HB.out⟩;rw [HI.out];rfl
theorem DF (b y fr fa bu le ke va:Int) (W:World) (h:Shape fa bu le ke va):CB 135 #[.agg #[b,y,fr,fa,bu,le,ke,va]] W (.int .i64 (out le ke va)):=by
 have cS:=fun W=>hid (dO b y fr fa bu le ke va W h);have cP:=fun W=>hid (uQ b y fr fa bu le ke va W h);obtain ⟨⟨h1,h1'⟩,⟨h2,h2'⟩,⟨h3,h3'⟩,⟨h4,h4'⟩,h5,h5'⟩:=h;obtain ⟨p0,p1⟩:=uP (a:=le) (c:=3+ke+va) (A:=1024) (C:=323) (by omega) (by omega) (by omega) (by omega);have HI:Hid (out le ke va=8+le*(3+ke+va)):=rfl;obtain ⟨P,hP⟩:∃P,P=le*(3+ke+va):=⟨_,rfl⟩
 rw [<-hP] at p0 p1 HI;have hwP:IntKind.i64.wrap (le*(3+ke+va))=P:=by rw [<-hP,wrap_i64];omega
 have hw8:IntKind.i64.wrap (8+P)=8+P:=by rw [wrap_i64];omega
 clear hP;go_enter Tryz.func135,Tryz.ntmps135
 go_upto_region 1 with fail
 have hx:=heap_alloc_new W (.cells #[b,y,fr,fa,bu,le,ke,va] 23);have hb1:Bw W (W.alloc (.cells #[b,y,fr,fa,bu,le,ke,va] 23)):=bAx;obtain ⟨g,hg⟩:∃g,g=W.heap.size:=⟨_,rfl⟩
 generalize W.alloc (.cells #[b,y,fr,fa,bu,le,ke,va] 23)=w1 at*;rw [<-hg] at hx ⊢;have HX:=hid hx;have HB:=hid hb1;obtain ⟨c0,c1,c2,c3,c4,c5,c6,c7⟩:=aT hx;clear hx hb1 hg;go_upto_region 3 with (go_at_call 97;refine (cS _).out.mono ?_;rintro e w2 ⟨rfl,hb⟩;replace HX:=hid (ig HX.out hb);replace HB:=hid (jX HB.out hb);clear hb)
 clear c0 c1 c2 c3 c4 c5 c6 c7 cS;obtain ⟨c0,c1,c2,c3,c4,c5,c6,c7⟩:=aT HX.out;have z0:=tc c0;have z1:=tc c1;have z2:=tc c2;have z3:=tc c3;have z4:=tc c4;have z5:=tc c5;have z6:=tc c6;have z7:=tc c7;clear c0 c1 c2 c3 c4 c5 c6 c7;refine ah.aj [] [(0,[]),(1,[]),(2,[]),(3,[]),(4,[]),(5,[]),(6,[])] [] [] (by kernel_rfl) (by kernel_rfl) (by simp) ?_;simp only [ah.pick,ah.aO,dL]
 repeat (refine ah.ak (fun K hK=>?_);go_simp;first|(refine hK _ ?_;clear hK K)|(apply Exists.intro;refine ⟨fun q=>?_,hK _ ?_⟩;(first|(go_at_call 168;exact (cP _).out));clear hK K))
 refine ah.walk_nil ?_;intro w3 hb _;replace HX:=hid (ig HX.out hb);replace HB:=hid (jX HB.out hb);clear hb z0 z1 z2 z3 z4 z5 z6 z7 cP hwP;simp only [lC,List.drop_nil,Nat.zero_add,Nat.reduceAdd]
 go_wp2
 go_ret
 refine ⟨?_,HB.out⟩;rw [HI.out];rfl
theorem uR (b y fr fa bu le ke va:Int) (W:World) (h:Shape fa bu le ke va):CB 99 #[.agg #[b,y,fr,fa,bu,le,ke,va]] W (.agg #[b,(few fa bu le ke va:Int),fr,fa,bu,le,ke,va]):=by
 have cS:=fun W=>hid (dO b y fr fa bu le ke va W h);have cI:=fun W=>hid (DC b y fr fa bu le ke va W h);have cO:=fun W=>hid (DF b y fr fa bu le ke va W h);have HFW:Hid (few fa bu le ke va=max (max 64 (inn fa bu ke va)) (out le ke va)):=rfl;generalize inn fa bu ke va=P at*;generalize out le ke va=Q at*;generalize few fa bu le ke va=fw at*;clear h;go_enter Tryz.func99,Tryz.ntmps99
 go_upto_region 1 with fail
 obtain ⟨hb1,hx,hy⟩:=Rs W (.cells #[b,y,fr,fa,bu,le,ke,va] 23) (.cells #[(0:Int),(0:Int),(0:Int),(0:Int),(0:Int),(0:Int),(0:Int),(0:Int)] 23);obtain ⟨g,hg⟩:∃g,g=W.heap.size:=⟨_,rfl⟩
 generalize (W.alloc (.cells #[b,y,fr,fa,bu,le,ke,va] 23)).alloc (.cells #[(0:Int),(0:Int),(0:Int),(0:Int),(0:Int),(0:Int),(0:Int),(0:Int)] 23)=w1 at*;rw [<-hg] at hx hy ⊢;have HX:=hid hx;have HY:=hid hy;have HB:=hid hb1;have HG:=hid hg;obtain ⟨c0,c1,c2,c3,c4,c5,c6,c7⟩:=aT hx;clear hx hy hb1 hg;go_upto_region 2 with (go_at_call 97;refine (cS _).out.mono ?_;rintro e w2 ⟨rfl,hb⟩;replace HX:=hid (ig HX.out hb);replace HY:=hid (ig HY.out hb);replace HB:=hid (jX HB.out hb);clear hb)
 clear c0 c1 c2 c3 c4 c5 c6 c7 cS;obtain ⟨c0,c1,c2,c3,c4,c5,c6,c7⟩:=aT HX.out;have z0:=tc c0;have z1:=tc c1;have z2:=tc c2;have z3:=tc c3;have z4:=tc c4;have z5:=tc c5;have z6:=tc c6;have z7:=tc c7;clear c0 c1 c2 c3 c4 c5 c6 c7;refine ah.aj [] [(0,[]),(1,[]),(2,[]),(3,[]),(4,[]),(5,[])] [] [] (by kernel_rfl) (by kernel_rfl) (by simp) ?_;simp only [ah.pick,ah.aO,dL]
 repeat (refine ah.ak (fun K hK=>?_);go_simp;first|(refine hK _ ?_;clear hK K)|(apply Exists.intro;refine ⟨fun q=>?_,hK _ ?_⟩;(first|(go_at_call 134;exact (cI _).out)|(go_at_call 135;exact (cO _).out));clear hK K))
 refine ah.walk_nil ?_;intro w3 hb _;replace HX:=hid (ig HX.out hb);replace HY:=hid (ig HY.out hb);replace HB:=hid (jX HB.out hb);clear hb z0 z1 z2 z3 z4 z5 z6 z7 cI cO
 have hmx:(if (if 64<P then P else 64)<Q then Q else if 64<P then P else 64)=fw:=by
  rw [HFW.out];omega
 simp only [lC,List.drop_zero,Nat.zero_add,Nat.reduceAdd];rw [hmx];clear hmx HFW;obtain ⟨c0,c1,c2,c3,c4,c5,c6,c7⟩:=aT HX.out;have k1:=sK HX.out 1;go_upto_region 3 with fail
 have hx4:(w3.setCell ⟨g,1,none⟩ fw).heap[g]? =some (.cells #[b,fw,fr,fa,bu,le,ke,va] 23 (0,0)):=by
  have:=HX.out;simp [World.setCell,Array.getElem?_modify,this]
 have hy4:(w3.setCell ⟨g,1,none⟩ fw).heap[g+1]? =some (.cells #[(0:Int),(0:Int),(0:Int),(0:Int),(0:Int),(0:Int),(0:Int),(0:Int)] 23 (0,0)):=(Below.heap_setCell _ _ _ _ (by simp)).trans HY.out;have hb4:Bw W (w3.setCell ⟨g,1,none⟩ fw):=HB.out.setCell (by have:=HG.out;show W.heap.size<=g;omega) _;clear c0 c1 c2 c3 c4 c5 c6 c7 k1;generalize w3.setCell ⟨g,1,none⟩ fw=w4 at*;replace HX:=hid hx4;replace HY:=hid hy4;replace HB:=hid hb4;clear hx4 hy4 hb4;obtain ⟨c0,c1,c2,c3,c4,c5,c6,c7⟩:=aT HX.out;obtain ⟨d0,d1,d2,d3,d4,d5,d6,d7⟩:=aT HY.out;have f0:=sK HY.out 0;have f1:=sK HY.out 1;have f2:=sK HY.out 2;have f3:=sK HY.out 3;have f4:=sK HY.out 4;have f5:=sK HY.out 5;have f6:=sK HY.out 6;have f7:=sK HY.out 7;go_wp2_with fail
 have i8:=Ar (B:=W.heap.size) (b:=g+1) HB.out (by have:=HG.out;omega) (.int .i64 b) (.int .i64 fw) (.int .i64 fr) (.int .i64 fa) (.int .i64 bu) (.int .i64 le) (.int .i64 ke) (.int .i64 va);have g8:=Kk HY.out (.int .i64 b) (.int .i64 fw) (.int .i64 fr) (.int .i64 fa) (.int .i64 bu) (.int .i64 le) (.int .i64 ke) (.int .i64 va);unfold Og at i8 g8;generalize (((((((w4.setCell ⟨g+1,0,none⟩ b).setCell ⟨g+1,1,none⟩ fw).setCell ⟨g+1,2,none⟩ fr).setCell ⟨g+1,3,none⟩ fa).setCell ⟨g+1,4,none⟩ bu).setCell ⟨g+1,5,none⟩ le).setCell ⟨g+1,6,none⟩ ke).setCell ⟨g+1,7,none⟩ va=w9 at*;obtain ⟨o0,o1,o2,o3,o4,o5,o6,o7⟩:=aT g8;exact bodyPost_ret (v:= .agg #[b,fw,fr,fa,bu,le,ke,va]) (by simp [results,Tryz.results99,go_sem,o0,o1,o2,o3,o4,o5,o6,o7]) rfl ⟨rfl,i8⟩
end Cf
end Go.Proofs.YtjpjjnalpdpljaaGreatDoor
