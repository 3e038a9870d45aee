import Derived.Test.YtjpjjnalpdpljaaGreatDoorPkAD
import Derived.Test.YtjpjjnalpdpljaaGreatDoorPkAU
import Derived.Test.YtjpjjnalpdpljaaGreatDoorPqDrift
import Derived.Test.YtjpjjnalpdpljaaGreatDoorPkAL
import Derived.SliceStrings
set_option maxHeartbeats 1000000
set_option maxRecDepth 100000
namespace Go.Proofs.YtjpjjnalpdpljaaGreatDoor
open Go.RowKit
open Go.Lib (hid)
namespace No
open Mem Lx Bu Lf Fa
open Wd (be val aD dY isW gH)
def KJ (c:Cfg) (v:Value):Array Value:= #[.int .i64 c.blocks,.int .i64 c.bytes,.int .i64 c.frames,.int .i64 c.fan,.int .i64 c.buffer,.int .i64 c.leaf,.int .i64 c.key,.int .i64 c.val,v]
abbrev Kw (B:Nat) (w w':World):Prop:=Kp 5 196 B w w'
structure Wr (c:Cfg) (B:Nat) (w:World) (g:Nat) (xs:List UInt8):Prop where
 at_:B<=g
 ex:∃v,w.heap[g]? =some (.cells (KJ c v) 196 (0,0))/\Own 5 w B v xs
section
variable {c:Cfg} {B g:Nat} {w w' w1:World} {xs ys:List UInt8} {v v':Value}
theorem Wr.lt (h:Wr c B w g xs):g<w.heap.size:=by
 obtain ⟨v,h1,-⟩:=h.ex;exact (Array.getElem?_eq_some_iff.1 h1).1
theorem Wr.hB (h:Wr c B w g xs):B<=w.heap.size:=Nat.le_trans h.at_ (Nat.le_of_lt h.lt)
theorem Wr.kept (h:Wr c B w g xs) (hb:Bw w w'):Wr c B w' g xs:=by
 obtain ⟨v,h1,h2⟩:=h.ex;exact ⟨h.at_,v,aC h1 hb,h2.kept hb⟩
theorem nS (h1:w.heap[g]? =some (.cells (KJ c v) 196 (0,0))) (h2:Own 5 w B v xs) (hg:w.grownBy w1 v.ownBlock):w1.heap[g]? =some (.cells (KJ c v) 196 (0,0)):=
 (hg.block g (Array.getElem?_eq_some_iff.1 h1).1 fun e=>by
   obtain ⟨-,C,hc⟩:=h2.row g e.symm;rw [h1] at hc;simp only [Option.some.injEq,Obj.cells.injEq] at hc
   exact absurd hc.2.1 (by decide)).trans h1
theorem Ez (hat:B<=g) (h1:w.heap[g]? =some (.cells (KJ c v) 196 (0,0))) (h2:Own 5 w B v xs) (hg:w.grownBy w1 v.ownBlock) (h3:Own 5 w1 B v' ys):Wr c B (w1.setCell ⟨g,8,none⟩ v') g ys/\Kw B w (w1.setCell ⟨g,8,none⟩ v'):=by
 have hB:=Nat.le_trans hat (Nat.le_of_lt (Array.getElem?_eq_some_iff.1 h1).1);have hx:=nS h1 h2 hg;exact ⟨⟨hat,v',by simp [World.setCell,Array.getElem?_modify,hx,KJ],h3.aQ hx (by decide) _⟩,(h2.grown hg hB).set hat hx (.inr rfl) _⟩
theorem fU (h1:w.heap[g]? =some (.cells (KJ c v) 196 (0,0))):w.cell? ⟨g,8,none⟩=some v/\w.cell? ⟨g,3,none⟩=some (.int .i64 c.fan)/\w.cell? ⟨g,6,none⟩=some (.int .i64 c.key)/\w.cell? ⟨g,7,none⟩=some (.int .i64 c.val)/\w.frozen? ⟨g,8,none⟩=false:=by
 simp [World.cell?,World.frozen?,h1,KJ]
end
theorem gP (c:Cfg) {B:Nat} {w:World} {g:Nat} {xs:List UInt8} (h:Wr c B w g xs) (n:Nat) (hx:xs.length+n<=1048576):Calls Tryz.prog 156 #[g,(n:Int)] w fun e w'=>e=.returned (.tuple #[])/\Wr c B w' g (xs++List.replicate n 0)/\Kw B w w':=by
 obtain ⟨v,h1,h2⟩:=h.ex;have hat:=h.at_;have hB:=h.hB;have HX:=hid h1;have HO:=hid h2;obtain ⟨c8,-,-,-,f8⟩:=fU h1;clear h h1 h2;go_enter Tryz.func156,Tryz.ntmps156
 go_wp2_with (refine ku rfl (.tmp 8) (.tmp 9) 72 3 9 rfl B 5 Tryz.underlying72 Tryz.underlying3 Tryz.underlying9 gH v xs rfl HO.out n rfl hx hB ?_;intro v' w1 HO1 hg;obtain ⟨A',m',c',rfl⟩:=Own.sl HO1.out;have HA:=hid (Ez hat HX.out HO.out hg HO1.out);obtain ⟨c8',-,-,-,f8'⟩:=fU (nS HX.out HO.out hg);clear hg c8 f8)
 go_end0
 exact ⟨rfl,HA.out⟩
def RH (n:Nat) (l:List UInt8) (v:Value) (w:World):Prop:=∃A c,v= .slice A n c/\BL w A l
theorem gL (c:Cfg) {B:Nat} {w:World} {g:Nat} {xs:List UInt8} (h:Wr c B w g xs) (wd v:Nat) (hw:isW (wd:Int)=true) (hv:v<9223372036854775808) (hx:xs.length<=1048000):Calls Tryz.prog 179 #[g,(wd:Int),(v:Int)] w fun e w'=>e=.returned (.tuple #[])/\Wr c B w' g (xs++be wd v)/\Kw B w w':=by
 obtain ⟨u,h1,h2⟩:=h.ex;have hat:=h.at_;have hB:=h.hB;have HX:=hid h1;have HO:=hid h2;obtain ⟨c8,-,-,-,-⟩:=fU h1;have hwd:wd<=8:=by have:=Wd.oI hw;omega
 have cP:∀W,Hid (Calls Tryz.prog 202 #[(),(wd:Int),.int .u64 (v:Int)] W fun e w'=>(∃A k,e=.returned (.slice A wd k)/\BL w' A (be wd v))/\Bw W w'):=fun W=>by
  refine (Wd.Cx none 0 [] wd v W (BL.nil _ _) (by simp) hw (by omega)).mono ?_;rintro e w' ⟨rfl,hr,hb⟩;rw [List.nil_append] at hr;rw [List.length_nil,Nat.zero_add];exact ⟨⟨_,_,rfl,hr.bl⟩,hb⟩
 have hu:IntKind.u64.wrap (v:Int)=(v:Int):=by rw [IntKind.wrap_u64];omega
 have hsz:xs.length+wd<=140737488355328:=by omega
 have HL:Hid ((be wd v).length=wd):=aD _ _;have td:=ah.tc c8;clear h h1 h2 hw hv hx hwd c8;go_enter Tryz.func179,Tryz.ntmps179
 refine ah.aB [] [(0,[]),(1,[]),(2,[]),(3,[]),(4,[]),(5,[]),(6,[]),(7,[]),(8,[])] [8] [] [0] (by kernel_rfl) (by kernel_rfl) (by simp) ?_;simp only [ah.pick,ah.aO,ah.dL];refine ah.ay rfl (.pointer (some ⟨g,0,none⟩)) (fun W=>by go_simp) ?_
 repeat (refine ah.ak (fun K hK=>?_);go_simp;(refine hK _ ?_;clear hK K))
 refine ah.aN rfl ah.aF (RH wd (be wd v)) (fun W2 hk _=>?_) (fun y w2 hv hI _ hTd=>?_)
 . go_simp
   go_at_call 202
   refine (cP _).out.mono ?_;rintro e w' ⟨⟨A,k,rfl,hbl⟩,hb⟩;exact ⟨_,rfl,⟨_,_,rfl,hbl⟩,Flow.Into.of_below hb⟩
 obtain ⟨A,k,rfl,hbl⟩:=hv;refine ah.walk_nil ?_;intro w6 hb6 _;have hb:Bw w w6:=hI.below.trans (hb6.mono hI.below.size);have HK:Hid (Kw B w w6):=Kp.of_below hb hB;have HBL:=hid (hbl.below hb6);replace HX:=hid (aC HX.out hb);replace HO:=hid (HO.out.kept hb);have hB6:B<=w6.heap.size:=Nat.le_trans hB hb.size;clear hb hb6 hI hTd hbl td cP hu hB;simp only [lC,List.drop_zero,Nat.zero_add,Nat.reduceAdd];go_wp2_with (refine gW rfl (.tmp 10) (.tmp 14) 72 rfl B 5 Tryz.underlying72 gH u xs rfl HO.out A wd k (be wd v) rfl HL.out HBL.out hsz hB6 ?_;intro v' w1 HO1 hg _;obtain ⟨A',m',c',rfl⟩:=Own.sl HO1.out;have HA:=hid (Ez hat HX.out HO.out hg HO1.out);obtain ⟨c8',-,-,-,f8'⟩:=fU (nS HX.out HO.out hg);clear hg)
 rw [Flow.aP]
 go_end0
 exact ⟨rfl,HA.out.1,HK.out.trans HA.out.2⟩
theorem jM (c:Cfg) {B:Nat} {w:World} {g:Nat} {xs:List UInt8} (h:Wr c B w g xs) (s:ByteArray) (most:Nat) (hs:s.size<=most) (hx:xs.length+most<=1048000):Calls Tryz.prog 180 #[g,.string s,(most:Int)] w fun e w'=>e=.returned (.tuple #[])/\Wr c B w' g (xs++slotL (txt s) most)/\Kw B w w':=by
 obtain ⟨u,h1,h2⟩:=h.ex;have hat:=h.at_;have hB:=h.hB;have HX:=hid h1;have HO:=hid h2;obtain ⟨c8,-,-,-,-⟩:=fU h1;obtain ⟨d,hd⟩:∃d,d=most-s.size:=⟨_,rfl⟩
 have hsl:slotL (txt s) most=txt s++List.replicate d 0:=by
  unfold slotL zs;rw [fC,hd];congr 2
  omega
 have hsz:xs.length+s.size<=1048576:=by omega
 have hz:(xs++txt s).length+d<=1048576:=by
  rw [List.length_append,fC];omega
 have hsub:IntKind.i64.wrap ((most:Int)-(s.size:Int))=(d:Int):=by
  rw [IntKind.wrap_i64];omega
 rw [hsl,<-List.append_assoc];clear h h1 h2 hs hsl hd hx;go_enter Tryz.func180,Tryz.ntmps180
 go_upto_region 1 with (refine wpList_append_text rfl (.tmp 10) (.tmp 11) 72 9 rfl B 5 Tryz.underlying72 Tryz.underlying9 gH u xs rfl HO.out s rfl hsz hB ?_;intro v' w1 HO1 hg;obtain ⟨A',m',c',rfl⟩:=Own.sl HO1.out;have HA:=hid (Ez hat HX.out HO.out hg HO1.out);obtain ⟨c8',-,-,-,f8'⟩:=fU (nS HX.out HO.out hg);clear hg c8)
 clear HO1 c8' f8';generalize w1.setCell ⟨g,8,none⟩ (.slice A' m' c')=w2 at*;have HW:Hid (Wr c B w2 g (xs++txt s)):=HA.out.1;go_wp2_with (go_at_call 156;refine (gP c HW.out d hz).mono ?_;rintro e w3 ⟨rfl,hw,hk⟩;have HW3:=hid hw;have HK3:=hid (HA.out.2.trans hk);clear hw hk)
 go_end0
 exact ⟨rfl,HW3.out,HK3.out⟩
theorem nH (lv:Nat) (w:World):CW 138 #[(lv:Int)] w (.int .i64 (((if lv=0 then 1 else 2:Nat)):Int)):=by
 by_cases h:lv=0
 . subst h
   go_enter Tryz.func138,Tryz.ntmps138
   go_wp2
   go_ret
   exact ⟨rfl,rfl⟩
 . have HR:Hid ((if lv=0 then 1 else 2:Nat)=2):=if_neg h
   have h1:((lv:Int)==0)=false:=(by simp;omega);rw [HR.out];clear h HR;go_enter Tryz.func138,Tryz.ntmps138
   go_wp2
   go_ret
   exact ⟨rfl,rfl⟩
theorem pQ (d:Bool) (w:World):CW 171 #[.bool d] w (.int .i64 ((pO d).toNat:Int)):=by
 cases d
 all_goals
  go_enter Tryz.func171,Tryz.ntmps171
  go_wp2
  go_ret
  exact ⟨rfl,rfl⟩
theorem zu (c:Cfg) {B:Nat} {w:World} {g:Nat} {xs:List UInt8} (h:Wr c B w g xs) (lv np nm:Nat) (hx:xs.length<=1000) (h1:lv<9223372036854775808) (h2:np<9223372036854775808) (h3:nm<9223372036854775808):Calls Tryz.prog 151 #[g,(lv:Int),(np:Int),(nm:Int)] w fun e w'=>e=.returned (.tuple #[])/\Wr c B w' g (xs++(be 1 (if lv=0 then 1 else 2)++(be 1 lv++(be 2 np++(be 2 nm++zs 2)))))/\Kw B w w':=by
 have c0:=fun w=>hid (nH lv w);obtain ⟨mk,hmk⟩:∃mk,mk=(if lv=0 then 1 else 2:Nat):=⟨_,rfl⟩
 have hm9:mk<9223372036854775808:=by
  rw [hmk];split<;>omega
 rw [<-hmk] at c0 ⊢;clear hmk;have cN1:∀(w:World) (xs:List UInt8) (v:Nat),Wr c B w g xs->v<9223372036854775808->xs.length<=1048000->Hid (Calls Tryz.prog 179 #[g,(1:Int),(v:Int)] w fun e w'=>e=.returned (.tuple #[])/\Wr c B w' g (xs++be 1 v)/\Kw B w w'):=fun w xs v h hv hx=>gL c h 1 v rfl hv hx
 have cN2:∀(w:World) (xs:List UInt8) (v:Nat),Wr c B w g xs->v<9223372036854775808->xs.length<=1048000->Hid (Calls Tryz.prog 179 #[g,(2:Int),(v:Int)] w fun e w'=>e=.returned (.tuple #[])/\Wr c B w' g (xs++be 2 v)/\Kw B w w'):=fun w xs v h hv hx=>gL c h 2 v rfl hv hx
 have cZ:∀(w:World) (xs:List UInt8),Wr c B w g xs->xs.length<=1048000->Hid (Calls Tryz.prog 156 #[g,(2:Int)] w fun e w'=>e=.returned (.tuple #[])/\Wr c B w' g (xs++zs 2)/\Kw B w w'):=fun w xs h hx=>gP c h 2 (by omega)
 have H1:=hid h1;have H2:=hid h2;have H3:=hid h3;have HM:=hid hm9;have HW:=hid h;have HX:=hid hx;clear h h1 h2 h3 hm9 hx;go_enter Tryz.func151,Tryz.ntmps151
 go_upto_region 1 with (first
  |(go_at_call 138;refine (c0 _).out.mono ?_;rintro e w' ⟨rfl,rfl⟩)
  |(go_at_call 179;refine (cN1 _ _ mk HW.out HM.out (by have:=HX.out;omega)).out.mono ?_;rintro e w1 ⟨rfl,hw,hk⟩;have HW1:=hid hw;have HK1:=hid hk;clear hw hk))
 go_upto_region 2 with (go_at_call 179;refine (cN1 _ _ lv HW1.out H1.out (by have:=HX.out;simp only [List.length_append,aD];omega)).out.mono ?_;rintro e w2 ⟨rfl,hw,hk⟩;have HW2:=hid hw;have HK2:=hid (HK1.out.trans hk);clear hw hk HW1 HK1)
 go_upto_region 3 with (go_at_call 179;refine (cN2 _ _ np HW2.out H2.out (by have:=HX.out;simp only [List.length_append,aD];omega)).out.mono ?_;rintro e w3 ⟨rfl,hw,hk⟩;have HW3:=hid hw;have HK3:=hid (HK2.out.trans hk);clear hw hk HW2 HK2)
 go_upto_region 4 with (go_at_call 179;refine (cN2 _ _ nm HW3.out H3.out (by have:=HX.out;simp only [List.length_append,aD];omega)).out.mono ?_;rintro e w4 ⟨rfl,hw,hk⟩;have HW4:=hid hw;have HK4:=hid (HK3.out.trans hk);clear hw hk HW3 HK3)
 go_wp2_with (go_at_call 156;refine (cZ _ _ HW4.out (by have:=HX.out;simp only [List.length_append,aD];omega)).out.mono ?_;rintro e w5 ⟨rfl,hw,hk⟩;have HW5:=hid hw;have HK5:=hid (HK4.out.trans hk);clear hw hk HW4 HK4)
 go_end0
 refine ⟨rfl,?_,HK5.out⟩;have:=HW5.out;simp only [List.append_assoc] at this;exact this
end No
end Go.Proofs.YtjpjjnalpdpljaaGreatDoor
namespace Go.Proofs.YtjpjjnalpdpljaaGreatDoor
open Go.RowKit
open List (append_assoc length_append length_cons length_nil mem_of_getElem? range)
namespace No
open Mem Lx Bu Lf Fa
open Wd (be val aD dY)
variable {c:Cfg} {n:Nd}
theorem eT {k:ByteArray} (h:jT c k=true):1<=k.size/\(k.size:Int)<=c.key:=by
 unfold jT at h;simp only [Bool.and_eq_true,decide_eq_true_eq] at h;omega
section
variable {F B L K V:Nat}
theorem sZ (hs:lD c F B L K V) (h:nE c ⟨#[]⟩ ⟨#[]⟩ true n):(lJ c n).length=8+n.prs.length*(3+K+V)/\n.prs.length<=L:=by
 have hc:∀x∈n.prs,(jh c x.1 x.2).length=3+K+V:=fun x hx=>by
  obtain ⟨h1,-,h3⟩:=h.each x hx;rw [lN (eT h1).2 h3,hs.key,hs.val];rfl
 have:=h.few;have:=hs.leaf;refine ⟨?_,by omega⟩;unfold lJ;simp only [length_append,aD,gY,iU hc];simp;omega
theorem vF {a b s:Nat} (h:a<=b):a*s<=b*s:=Nat.mul_le_mul_right s h
theorem EA (hs:lD c F B L K V) (h:nE c ⟨#[]⟩ ⟨#[]⟩ true n) (h0:n.lv=0):(aJ c n).length=c.bytes.toNat/\Ey c (aJ c n)=n:=by
 have hc:∀x∈n.prs,(jh c x.1 x.2).length=3+K+V:=fun x hx=>by
  obtain ⟨h1,-,h3⟩:=h.each x hx;rw [lN (eT h1).2 h3,hs.key,hs.val];rfl
 obtain ⟨hl1,hl2⟩:=sZ hs h;have hm:=vF (s:=3+K+V) hl2;have ho:=hs.out;have hb1:=hs.bytes
 have e0:aJ c n=slotL (lJ c n) c.bytes:=by
  unfold aJ lM;rw [if_pos h0]
 have hlen:(aJ c n).length=c.bytes.toNat:=by
  rw [e0];refine dN ?_;rw [hl1];generalize n.prs.length*(3+K+V)=X at*;generalize L*(3+K+V)=Y at*;omega
 refine ⟨hlen,?_⟩
 obtain ⟨Z,eb⟩:∃Z,aJ c n=[1,0]++(be 2 n.prs.length++(zs 4++((n.prs.flatMap fun x=>jh c x.1 x.2)++Z))):=by
  refine ⟨zs (c.bytes-(lJ c n).length),?_⟩;rw [e0];unfold slotL;generalize zs (c.bytes-(lJ c n).length)=Z;unfold lJ;simp only [append_assoc]
 have d1:atL (aJ c n) 1 1=0:=by
  unfold atL;rw [eb];rfl
 have d2:atL (aJ c n) 2 2=n.prs.length:=uF (R:=zs 4++((n.prs.flatMap fun x=>jh c x.1 x.2)++Z)) (by rw [eb];exact List.drop_left' rfl) (by have:=hs.l;omega);have ek:c.key.toNat=K:=by rw [hs.key];rfl
 have ev:c.val.toNat=V:=by rw [hs.val];rfl
 unfold Ey
 rw [if_pos d1,d2,ek,ev,hlen,zq (by omega) (by
  generalize n.prs.length*(3+K+V)=X at*;generalize L*(3+K+V)=Y at*
  omega)]
 obtain ⟨lv,Ks,P,Bu,Q⟩:=n;obtain rfl:lv=0:=h0;obtain rfl:Ks=[]:=List.eq_nil_of_length_eq_zero h.kids;obtain rfl:P=[]:=List.eq_nil_of_length_eq_zero h.piv;obtain rfl:Bu=[]:=List.eq_nil_of_length_eq_zero h.buf;congr 1
 refine lS fun k x hx=>?_;obtain ⟨h1,-,h3⟩:=h.each x (mem_of_getElem? hx);have h1':=eT h1;have hk:=hs.key;have hv:=hs.val;have hk2:=hs.k;have hv2:=hs.v;obtain ⟨R,hR⟩:=nQ hc ([1,0]++(be 2 Q.length++zs 4)) Z (a:=8) (by simp [gY]) hx;refine Ev (R:=R) ?_ (by omega) (by omega) h1'.2;rw [eb];simp only [append_assoc] at hR ⊢;exact hR
theorem vG (hs:lD c F B L K V) (h:nG c ⟨#[]⟩ ⟨#[]⟩ true n):(n.kids.flatMap (be 4)).length=n.kids.length*4/\(n.piv.flatMap (pvL c)).length=n.piv.length*(1+K)/\(n.buf.flatMap (msL c)).length=n.buf.length*(4+K+V)/\(xH c n).length=8+4*F+(1+K)*(F-1)+n.buf.length*(4+K+V)/\n.buf.length<=B:=by
 have hk:(n.kids.flatMap (be 4)).length=n.kids.length*4:=iU fun x _=>aD 4 x
 have hp:(n.piv.flatMap (pvL c)).length=n.piv.length*(1+K):=iU fun x hx=>by
  rw [xI (eT (h.piv x hx)).2,hs.key];rfl
 have hm:(n.buf.flatMap (msL c)).length=n.buf.length*(4+K+V):=iU fun x hx=>by
  obtain ⟨h1,-,h3,-⟩:=h.buf x hx;rw [xJ (eT h1).2 h3,hs.key,hs.val];rfl
 have h1:=h.fan;have h2:=h.fewer;have h3:=h.few;have h4:=hs.fan;have h5:=hs.buffer;have h6:=hs.f;refine ⟨hk,hp,hm,?_,by omega⟩;unfold xH;simp only [length_append,aD,gY,hk,hp,hm,length_cons,length_nil,hs.fan,hs.key];have e1:(4*((F:Int)-n.kids.length)).toNat=4*F-n.kids.length*4:=by omega
 have e2:((1+(K:Int))*((F:Int)-1-n.piv.length)).toNat=(1+K)*(F-1)-n.piv.length*(1+K):=by
  obtain ⟨r,hr⟩:∃r:Nat,F-1=n.piv.length+r:=⟨F-1-n.piv.length,by omega⟩
  have e3:((F:Int)-1-n.piv.length)=(r:Int):=by omega
  rw [e3,hr,Nat.mul_add,Nat.mul_comm (1+K) n.piv.length,Nat.add_sub_cancel_left]
  have e4:(1+(K:Int))*(r:Int)=(((1+K)*r:Nat):Int):=by
   rw [Int.natCast_mul];rfl
  rw [e4];rfl
 have e5:n.piv.length*(1+K)<=(1+K)*(F-1):=by
  rw [Nat.mul_comm (1+K)];exact vF (by omega)
 rw [e1,e2];generalize n.piv.length*(1+K)=X at*;generalize (1+K)*(F-1)=Y at*;generalize n.buf.length*(4+K+V)=Z at*;omega
theorem AP (hs:lD c F B L K V) (h:nG c ⟨#[]⟩ ⟨#[]⟩ true n) (h0:0<n.lv):(aJ c n).length=c.bytes.toNat/\Ey c (aJ c n)=n:=by
 obtain ⟨hl1,hl2,hl3,hl4,hl5⟩:=vG hs h;have hm:=vF (s:=4+K+V) hl5;have hi:=hs.inn;have hb1:=hs.bytes;have hlv:=h.lv;have h1:=h.fan;have h2:=h.fewer;have h3:=h.one;have h4:=hs.fan;have h6:=hs.f;have h7:=hs.b;have hk:=hs.key;have hv:=hs.val;have hk2:=hs.k;have hv2:=hs.v
 have e0:aJ c n=slotL (xH c n) c.bytes:=by
  unfold aJ lM;rw [if_neg (by omega)]
 have hlen:(aJ c n).length=c.bytes.toNat:=by
  rw [e0];refine dN ?_;rw [hl4];generalize n.buf.length*(4+K+V)=X at*;generalize B*(4+K+V)=Y at*;generalize (1+K)*(F-1)=U at*;omega
 refine ⟨hlen,?_⟩;obtain ⟨Z1,hz1,e1⟩:∃Z1:List UInt8,Z1.length+n.kids.length*4=4*F/\zs (4*(c.fan-n.kids.length))=Z1:=⟨_,by rw [gY,hs.fan];omega,rfl⟩
 obtain ⟨Z2,hz2,e2⟩:∃Z2:List UInt8,n.piv.length*(1+K)+Z2.length=(1+K)*(F-1)/\zs ((1+c.key)*(c.fan-1-n.piv.length))=Z2:=by
  refine ⟨_,?_,rfl⟩;rw [gY,hs.fan,hs.key];obtain ⟨r,hr⟩:∃r:Nat,F-1=n.piv.length+r:=⟨F-1-n.piv.length,by omega⟩
  have e3:((F:Int)-1-n.piv.length)=(r:Int):=by omega
  have e4:(1+(K:Int))*(r:Int)=(((1+K)*r:Nat):Int):=by
   rw [Int.natCast_mul];rfl
  rw [e3,e4,hr,Nat.mul_add (1+K),Nat.mul_comm (1+K) n.piv.length];rfl
 obtain ⟨Z,eb⟩:∃Z,aJ c n=[2]++(be 1 n.lv.toNat++(be 2 n.kids.length++(be 2 n.buf.length++(zs 2++(n.kids.flatMap (be 4)++(Z1++(n.piv.flatMap (pvL c)++(Z2++(n.buf.flatMap (msL c)++Z))))))))):=by
  refine ⟨zs (c.bytes-(xH c n).length),?_⟩;rw [e0];unfold slotL;generalize zs (c.bytes-(xH c n).length)=Z;unfold xH;rw [e1,e2];simp only [append_assoc]
 clear e1 e2;have d0:=eB (b:=aJ c n) (i:=0) (j:=1) (X:=[2]) eb rfl;have d1:=eB d0 (aD 1 _);have d2:=eB d1 (aD 2 _);have d3:=eB d2 (aD 2 _);have d4:=eB (j:=2) d3 rfl;have a1:atL (aJ c n) 1 1=n.lv.toNat:=uF d0 (by omega);have a2:atL (aJ c n) 2 2=n.kids.length:=uF d1 (by omega);have a3:atL (aJ c n) 4 2=n.buf.length:=uF d2 (by omega);have ek:c.key.toNat=K:=by rw [hs.key];rfl
 have ev:c.val.toNat=V:=by rw [hs.val];rfl
 have ef:c.fan.toNat=F:=by rw [hs.fan];rfl
 have em:Ew n.buf.length (8+4*F+(1+K)*(F-1)) (4+K+V) c.bytes.toNat=n.buf.length:=zq (by omega) (by
  generalize n.buf.length*(4+K+V)=X at*;generalize B*(4+K+V)=Y at*;generalize (1+K)*(F-1)=U at*
  omega)
 have jr:∀k∈n.kids,k<65536:=fun k hk=>by
  obtain ⟨i,hi⟩:=List.mem_iff_getElem?.1 hk;have:=(h.kids i k hi).1.2;have:=hs.blocks;omega
 unfold Ey;rw [if_neg (by rw [a1];omega),a1,a2,a3,ek,ev,ef,hlen,em];rw [Nat.min_eq_left (show n.kids.length<=F by omega),Nat.min_eq_left (show n.kids.length-1<=F-1 by omega),show n.kids.length-1=n.piv.length by omega]
 have r1:((range n.kids.length).map fun k=>atL (aJ c n) (8+k*4) 4)=n.kids:=lS fun k x hx=>by
  obtain ⟨R,hR⟩:=nQ (f:=be 4) (S:=4) (fun x _=>aD 4 x) ([2]++(be 1 n.lv.toNat++(be 2 n.kids.length++(be 2 n.buf.length++zs 2)))) (Z1++(n.piv.flatMap (pvL c)++(Z2++(n.buf.flatMap (msL c)++Z)))) (a:=8) (by simp [gY]) hx;have hx2:=jr x (mem_of_getElem? hx);refine uF (R:=R) ?_ (by omega);rw [eb];simp only [append_assoc] at hR ⊢;exact hR
 have r2:((range n.piv.length).map fun k=>Oi (aJ c n) (8+4*F+k*(1+K)))=n.piv:=lS fun k x hx=>by
  obtain ⟨R,hR⟩:=nQ (f:=pvL c) (S:=1+K) (fun x hx=>by rw [xI (eT (h.piv x hx)).2,ek]) ([2]++(be 1 n.lv.toNat++(be 2 n.kids.length++(be 2 n.buf.length++(zs 2++(n.kids.flatMap (be 4)++Z1)))))) (Z2++(n.buf.flatMap (msL c)++Z)) (a:=8+4*F) (by simp only [length_append,aD,gY,hl1,length_cons,length_nil];omega) hx;have hx2:=eT (h.piv x (mem_of_getElem? hx));refine Nl (c:=c) (R:=R) ?_ (by omega);rw [eb];simp only [append_assoc] at hR ⊢;exact hR
 have r3:((range n.buf.length).map fun k=>Oj c (aJ c n) (8+4*F+(1+K)*(F-1)+k*(4+K+V)))=n.buf:=lS fun k x hx=>by
  obtain ⟨R,hR⟩:=nQ (f:=msL c) (S:=4+K+V) (fun x hx=>by
   obtain ⟨h1,-,h3,-⟩:=h.buf x hx
   rw [xJ (eT h1).2 h3,ek,ev]) ([2]++(be 1 n.lv.toNat++(be 2 n.kids.length++(be 2 n.buf.length++(zs 2++(n.kids.flatMap (be 4)++(Z1++(n.piv.flatMap (pvL c)++Z2)))))))) Z (a:=8+4*F+(1+K)*(F-1)) (by
    simp only [length_append,aD,gY,hl1,hl2,length_cons,length_nil];generalize n.piv.length*(1+K)=X at*;generalize (1+K)*(F-1)=U at*
    omega) hx
  obtain ⟨h8,-,h9,-⟩:=h.buf x (mem_of_getElem? hx);have h8':=eT h8;refine Nn (R:=R) ?_ (by omega) (by omega) h8'.2;rw [eb];simp only [append_assoc] at hR ⊢;exact hR
 rw [r1,r2,r3];obtain ⟨lv,Ks,P,Bu,Q⟩:=n;obtain rfl:Q=[]:=List.eq_nil_of_length_eq_zero h.prs;simp only at h0 ⊢;congr 1
 omega
end
theorem iX (h:bQ c n):(aJ c n).length=c.bytes.toNat/\Ey c (aJ c n)=n:=by
 obtain ⟨F,B,L,K,V,hs⟩:=uS h.1;by_cases e:n.lv=0
 . exact EA hs (h.2.1 e) e
 . exact AP hs (h.2.2 e).2 (h.2.2 e).1
theorem EB {m:Nd} (h:bQ c n) (h':bQ c m) (e:aJ c n=aJ c m):n=m:=by
 rw [<-(iX h).2,e,(iX h').2]
def KM (c:Cfg) (b:List UInt8) (r:Option Nd):Prop:=∀n,r=some n↔bQ c n/\aJ c n=b
theorem KM.one {b:List UInt8} {r s:Option Nd} (h:KM c b r) (h':KM c b s):r=s:=by
 cases r with
 |none=>
  cases s with
  |none=>rfl
  |some m=>exact (h m).2 ((h' m).1 rfl)
 |some n=>exact ((h' n).2 ((h n).1 rfl)).symm
end No
end Go.Proofs.YtjpjjnalpdpljaaGreatDoor
set_option maxRecDepth 100000
namespace Go.Proofs.YtjpjjnalpdpljaaGreatDoor
open Go.RowKit Go.WideShapes Go.ChangeShapes
namespace Bu
open Mem
theorem xK {H:Type} {enc:TypeId × Value->H} {W:World} {v:Value} {d:DataW H} {p:List MemPlace} {fuel:Nat} (h:DataW.trod enc Tryz.prog W 0 (fun _=>true) true fuel 40 [v]=some (d,p)):
 ∃(A:Option Addr) (L:List Mg) (c:Nat),v= .slice A L.length c/\RC MgK W A c L/\L.length<=c/\c<=maxLen:=by
 obtain ⟨A,len,c,rfl,hl,hm,hc⟩:=Args.j3 Tryz.underlying40 Tryz.underlying91 (by kernel_rfl) (by kernel_rfl) (by decide) h;by_cases h0:0<len
 . obtain ⟨b,o,rfl,hcell⟩:=hc h0
   have each:∀i,i<len->∃m:Mg,W.cell? ⟨b,o+(i*3+0),none⟩=some (.string m.1)/\W.cell? ⟨b,o+(i*3+1),none⟩=some (.bool m.2.1)/\W.cell? ⟨b,o+(i*3+2),none⟩=some (.string m.2.2):=by
    intro i hi;obtain ⟨u0,y0,n0,h0,k0,-⟩:=hcell i hi 0 _ rfl;obtain ⟨u1,y1,n1,h1,k1,-⟩:=hcell i hi 1 _ rfl;obtain ⟨u2,y2,n2,h2,k2,-⟩:=hcell i hi 2 _ rfl;obtain ⟨s0,e0,_,_⟩:=DataW.trod_string Tryz.underlying9 k0;obtain ⟨s1,e1,_⟩:=DataW.trod_bool Tryz.underlying4 k1;obtain ⟨s2,e2,_,_⟩:=DataW.trod_string Tryz.underlying9 k2;obtain rfl:u0=_:=(by simpa using e0);obtain rfl:u1=_:=(by simpa using e1);obtain rfl:u2=_:=(by simpa using e2);exact ⟨(s0,s1,s2),h0,h1,h2⟩
   have EC:∀i,∃m:Mg,i<len->W.cell? ⟨b,o+(i*3+0),none⟩=some (.string m.1)/\W.cell? ⟨b,o+(i*3+1),none⟩=some (.bool m.2.1)/\W.cell? ⟨b,o+(i*3+2),none⟩=some (.string m.2.2):=fun i=>by
    by_cases hi:i<len
    . obtain ⟨m,hm⟩:=each i hi
      exact ⟨m,fun _=>hm⟩
    . exact ⟨Pv,fun h=>absurd h hi⟩
   (let F:=fun i=>Classical.choose (EC i));have hF:∀i,i<len->W.cell? ⟨b,o+(i*3+0),none⟩=some (.string (F i).1)/\W.cell? ⟨b,o+(i*3+1),none⟩=some (.bool (F i).2.1)/\W.cell? ⟨b,o+(i*3+2),none⟩=some (.string (F i).2.2):=fun i=>Classical.choose_spec (EC i)
   have hb:b<W.heap.size:=by
    have:=(hF 0 h0).1;rcases Nat.lt_or_ge b W.heap.size with h'|h'
    . exact h'
    . simp [World.cell?,Array.getElem?_eq_none h'] at this
   refine ⟨some ⟨b,o,none⟩,(List.range len).map F,c,by simp,⟨fun _=>⟨b,o,rfl,hb,fun i x hx j u hu=>?_⟩,by simpa using hl⟩,by simpa using hl,hm⟩;obtain ⟨hi,hx⟩:=List.getElem?_eq_some_iff.1 hx;have hi':i<len:=(by simpa using hi);obtain rfl:F i=x:=(by simpa using hx);obtain ⟨e0,e1,e2⟩:=hF i hi'
   match j,hu with
   |0,hu=>
    obtain rfl:Value.string (F i).1=u:=(by simpa [MgK] using hu);exact e0
   |1,hu=>
    obtain rfl:Value.bool (F i).2.1=u:=(by simpa [MgK] using hu);exact e1
   |2,hu=>
    obtain rfl:Value.string (F i).2.2=u:=(by simpa [MgK] using hu);exact e2
   |j+3,hu=>simp [MgK] at hu
 . obtain rfl:len=0:=by omega
   exact ⟨A,[],c,rfl,⟨fun h=>absurd h (by simp),Nat.zero_le _⟩,Nat.zero_le _,hm⟩
end Bu
end Go.Proofs.YtjpjjnalpdpljaaGreatDoor
set_option maxRecDepth 100000
namespace Go.Proofs.YtjpjjnalpdpljaaGreatDoor
open Go.RowKit Go.WideShapes Go.ChangeShapes
namespace Lf
open Mem Bu
theorem AQ {H:Type} {enc:TypeId × Value->H} {W:World} {v:Value} {d:DataW H} {p:List MemPlace} {fuel:Nat} (h:DataW.trod enc Tryz.prog W 0 (fun _=>true) true fuel 41 [v]=some (d,p)):
 ∃(A:Option Addr) (L:List Pr) (c:Nat),v= .slice A L.length c/\PC W A c L/\L.length<=c/\c<=maxLen/\∀m,m∈L->m.1.size∈d.weights Tryz.prog 41/\m.2.size∈d.weights Tryz.prog 41:=by
 obtain ⟨A,len,c,rfl,hl,hm,hc⟩:=Args.j3 Tryz.underlying41 Tryz.underlying93 (by kernel_rfl) (by kernel_rfl) (by decide) h;by_cases h0:0<len
 . obtain ⟨b,o,rfl,hcell⟩:=hc h0
   have each:∀i,i<len->∃m:Pr,W.cell? ⟨b,o+(i*2+0),none⟩=some (.string m.1)/\W.cell? ⟨b,o+(i*2+1),none⟩=some (.string m.2)/\m.1.size∈d.weights Tryz.prog 41/\m.2.size∈d.weights Tryz.prog 41:=by
    intro i hi;obtain ⟨u0,y0,n0,h0,k0,z0⟩:=hcell i hi 0 _ rfl;obtain ⟨u1,y1,n1,h1,k1,z1⟩:=hcell i hi 1 _ rfl;obtain ⟨s0,e0,rfl,_⟩:=DataW.trod_string Tryz.underlying9 k0;obtain ⟨s1,e1,rfl,_⟩:=DataW.trod_string Tryz.underlying9 k1;obtain rfl:u0=_:=(by simpa using e0);obtain rfl:u1=_:=(by simpa using e1);exact ⟨(s0,s1),h0,h1,z0 _ (by simp [DataW.weights]),z1 _ (by simp [DataW.weights])⟩
   have EC:∀i,∃m:Pr,i<len->W.cell? ⟨b,o+(i*2+0),none⟩=some (.string m.1)/\W.cell? ⟨b,o+(i*2+1),none⟩=some (.string m.2)/\m.1.size∈d.weights Tryz.prog 41/\m.2.size∈d.weights Tryz.prog 41:=fun i=>by
    by_cases hi:i<len
    . obtain ⟨m,hm⟩:=each i hi
      exact ⟨m,fun _=>hm⟩
    . exact ⟨(⟨#[]⟩,⟨#[]⟩),fun h=>absurd h hi⟩
   (let F:=fun i=>Classical.choose (EC i));have hF:∀i,i<len->W.cell? ⟨b,o+(i*2+0),none⟩=some (.string (F i).1)/\W.cell? ⟨b,o+(i*2+1),none⟩=some (.string (F i).2)/\(F i).1.size∈d.weights Tryz.prog 41/\(F i).2.size∈d.weights Tryz.prog 41:=fun i=>Classical.choose_spec (EC i)
   have hb:b<W.heap.size:=by
    have:=(hF 0 h0).1;rcases Nat.lt_or_ge b W.heap.size with h'|h'
    . exact h'
    . simp [World.cell?,Array.getElem?_eq_none h'] at this
   refine ⟨some ⟨b,o,none⟩,(List.range len).map F,c,by simp,⟨fun _=>⟨b,o,rfl,hb,fun i x hx j u hu=>?_⟩,by simpa using hl⟩,by simpa using hl,hm,fun m hmm=>?_⟩
   rotate_left
   . obtain ⟨i,hi,rfl⟩:=List.mem_map.1 hmm
     exact (hF i (by simpa using hi)).2.2
   obtain ⟨hi,hx⟩:=List.getElem?_eq_some_iff.1 hx;have hi':i<len:=(by simpa using hi);obtain rfl:F i=x:=(by simpa using hx);obtain ⟨e0,e1,-⟩:=hF i hi'
   match j,hu with
   |0,hu=>
    obtain rfl:Value.string (F i).1=u:=(by simpa [PrK] using hu);exact e0
   |1,hu=>
    obtain rfl:Value.string (F i).2=u:=(by simpa [PrK] using hu);exact e1
   |j+2,hu=>simp [PrK] at hu
 . obtain rfl:len=0:=by omega
   exact ⟨A,[],c,rfl,⟨fun h=>absurd h (by simp),Nat.zero_le _⟩,Nat.zero_le _,hm,fun m hmm=>by cases hmm⟩
end Lf
end Go.Proofs.YtjpjjnalpdpljaaGreatDoor
set_option maxRecDepth 100000
namespace Go.Proofs.YtjpjjnalpdpljaaGreatDoor
open Go.RowKit Go.WideShapes Go.ChangeShapes
namespace Fa
open Mem
theorem xL {H:Type} {enc:TypeId × Value->H} {W:World} {v:Value} {d:DataW H} {p:List MemPlace} {fuel:Nat} (hf:DataW.trod enc Tryz.prog W 0 (fun _=>true) true fuel 39 [v]=some (d,p)):
 ∃(A:Option Addr) (L:List ByteArray) (c:Nat),v= .slice A L.length c/\SC W A c L/\L.length<=c/\c<=maxLen:=by
 rcases open_strings Tryz.underlying39 Tryz.underlying9 (by kernel_rfl) hf with ⟨hcs,_⟩|⟨a,len,cap,ss,hcs,_,hl,hm,hz,_,hcell⟩
 . obtain rfl:v=_:=by simpa using hcs
   exact ⟨none,[],0,rfl,RC.nil _ _ _,Nat.le_refl _,Nat.zero_le _⟩
 . obtain rfl:v=_:=by simpa using hcs
   simp only [if_true] at hz;have htl:(ss.take len).length=len:=(by simp;omega);refine ⟨some a,ss.take len,cap,by rw [htl],⟨fun hpos=>?_,by rw [htl];exact hl⟩,by rw [htl];exact hl,hm⟩;rw [htl] at hpos;obtain ⟨b,o,sp⟩:=a;have h0:=hcell.1 0 (by omega);obtain rfl:sp=none:=by simpa [Addr.add] using World.cell?_spot h0
   have hb:b<W.heap.size:=by
    rcases Nat.lt_or_ge b W.heap.size with h'|h'
    . exact h'
    . simp [Addr.add,World.cell?,Array.getElem?_eq_none h'] at h0
   refine ⟨b,o,rfl,hb,fun i x hx j u hu=>?_⟩;obtain ⟨hi,hx⟩:=List.getElem?_eq_some_iff.1 hx;rw [htl] at hi;have h1:=hcell.1 i (by omega);have e:(⟨b,o,none⟩:Addr).add i=⟨b,o+i,none⟩:=(by unfold Addr.add;split<;>simp_all);rw [e] at h1
   have hj:j=0:=by
    have:=(List.getElem?_eq_some_iff.1 hu).1;simp only [StK,List.length_cons,List.length_nil] at this;omega
   subst hj;obtain rfl:Value.string x=u:=(by simpa [StK] using hu);have hk:StK.k=1:=rfl;rw [hk,Nat.mul_one,Nat.add_zero,h1,<-hx];simp [List.getD,show i<ss.length by omega]
end Fa
end Go.Proofs.YtjpjjnalpdpljaaGreatDoor
set_option maxRecDepth 100000
namespace Go.Proofs.YtjpjjnalpdpljaaGreatDoor
open Go.RowKit Go.WideShapes Go.ChangeShapes Go.Deep
open List (getD length_map)
namespace No
open Mem
theorem xM {H:Type} {enc:TypeId × Value->H} {W:World} {v:Value} {d:DataW H} {p:List MemPlace} {fuel:Nat} (hf:DataW.trod enc Tryz.prog W 0 (fun _=>true) true fuel 38 [v]=some (d,p)):
 ∃(A:Option Addr) (L:List Nat) (c:Nat),v= .slice A L.length c/\KC W A c L/\L.length<=c/\c<=maxLen/\∀n,n∈L->n<4294967296:=by
 rcases open_ints Tryz.underlying38 Tryz.underlying25 (by kernel_rfl) hf with ⟨hcs,_⟩|⟨a,len,cap,zs,hcs,_,hl,hm,hz,_,hcell,hwz⟩
 . obtain rfl:v=_:=by simpa using hcs
   exact ⟨none,[],0,rfl,RC.nil _ _ _,Nat.le_refl _,Nat.zero_le _,fun n hn=>by cases hn⟩
 . obtain rfl:v=_:=by simpa using hcs
   simp only [if_true] at hz;have htl:(zs.take len).length=len:=(by simp;omega);have OE:∀z,z∈zs->∃n:Nat,z=(n:Int)/\n<4294967296:=fun z hz'=>Args.mq (hwz z hz')
   refine ⟨some a,(zs.take len).map Int.toNat,cap,by rw [length_map,htl],⟨fun hpos=>?_,by rw [length_map,htl];exact hl⟩,by rw [length_map,htl];exact hl,hm,fun n hn=>?_⟩
   . rw [length_map,htl] at hpos
     obtain ⟨b,o,sp⟩:=a;have h0:=hcell 0 (by omega);obtain rfl:sp=none:=by simpa [Addr.add] using World.cell?_spot h0
     have hb:b<W.heap.size:=by
      rcases Nat.lt_or_ge b W.heap.size with h'|h'
      . exact h'
      . simp [Addr.add,World.cell?,Array.getElem?_eq_none h'] at h0
     refine ⟨b,o,rfl,hb,fun i x hx j u hu=>?_⟩;rw [List.getElem?_map,Option.map_eq_some_iff] at hx;obtain ⟨z,hx,rfl⟩:=hx;obtain ⟨hi,hx⟩:=List.getElem?_eq_some_iff.1 hx;rw [htl] at hi;have h1:=hcell i (by omega);have e:(⟨b,o,none⟩:Addr).add i=⟨b,o+i,none⟩:=(by unfold Addr.add;split<;>simp_all);rw [e] at h1
     have hj:j=0:=by
      have:=(List.getElem?_eq_some_iff.1 hu).1;simp only [KdK,List.length_cons,List.length_nil] at this;omega
     subst hj;rw [List.getElem_take] at hx;obtain ⟨n,hn,-⟩:=OE z (by rw [<-hx];exact List.getElem_mem _);obtain rfl:Value.int .u32 (z.toNat:Int)=u:=(by simpa [KdK] using hu);have hk:KdK.k=1:=rfl;rw [hk,Nat.mul_one,Nat.add_zero,h1];have e2:zs.getD i 0=z:=by simp [getD,show i<zs.length by omega,hx]
     first|rw [e2,hn];rfl|(simp [getD,show i<zs.length by omega,hx,hn])
   . obtain ⟨z,hz',rfl⟩:=List.mem_map.1 hn
     obtain ⟨n,rfl,hlt⟩:=OE z (List.mem_of_mem_take hz');simpa using hlt
structure Ol (n:Nd):Prop where
 lv: -9223372036854775808<=n.lv/\n.lv<=9223372036854775807
 kids:n.kids.length<=maxLen
 piv:n.piv.length<=maxLen
 buf:n.buf.length<=maxLen
 prs:n.prs.length<=maxLen
 kid:∀k,k∈n.kids->k<4294967296
 val:∀m,m∈n.prs->m.2.size<=reachBytes
theorem Ia:oneCellFields Tryz.prog (Tryz.prog.fieldsOf 43)=true:=by kernel_rfl
end No
end Go.Proofs.YtjpjjnalpdpljaaGreatDoor
set_option maxHeartbeats 4000000
set_option maxRecDepth 100000
namespace Go.Proofs.YtjpjjnalpdpljaaGreatDoor
open Go.RowKit
open Go.Lib (hid)
namespace No
open Mem Lx Bu Lf Fa
structure Fit (n:Nd):Prop where
 kids:n.kids.length<=80
 piv:n.piv.length<=80
 buf:n.buf.length<=150
 prs:n.prs.length<=150
 pk:∀p,p∈n.piv->p.size<=200
 bk:∀m,m∈n.buf->m.1.size<=200
 qk:∀m,m∈n.prs->m.1.size<=200
theorem lT {W:World} {n:Nd} {a:At} (h:gK W n a) (hok:Ol n):Calls Tryz.prog 11 #[.agg (bL n a)] W fun e w'=>(∃v:Bool,e=.returned (.bool v)/\(v=false↔Fit n))/\Bw W w':=by
 obtain ⟨P,hP⟩:∃P:Prop,P=Fit n:=⟨_,rfl⟩
 have HP:Hid (P->Fit n):=fun h=>by rw [hP] at h;exact h
 have HQ:Hid (Fit n->P):=fun h=>by rw [hP];exact h
 rw [<-hP];clear hP;obtain ⟨lv,K,L,B,Q⟩:=n;obtain ⟨kA,kc,pA,pc,bA,bc,qA,qc⟩:=a;have h2:=hok.kids;have h3:=hok.piv;have h4:=hok.buf;have h5:=hok.prs;have HL:Hid (SL W pA L):=h.piv.1;have HB:Hid (RdK MgK W bA B):=h.buf.1;have HR:Hid (PL W qA Q):=h.prs.1;unfold bL;simp only at*;unfold maxLen at h2 h3 h4 h5;generalize hkn:K.length=kn at*;generalize hpn:L.length=pn at*;generalize hbn:B.length=bn at*;generalize hqn:Q.length=qn at*;have HKN:=hid hkn;have HPN:=hid hpn;have HBN:=hid hbn;have HQN:=hid hqn;clear h hok hkn hpn hbn hqn;go_enter Tryz.func11,Tryz.ntmps11
 go_upto_region 1 with fail
 have hx:=heap_alloc_new W (.cells #[lv,.slice kA kn kc,.slice pA pn pc,.slice bA bn bc,.slice qA qn qc] 43);have hb0:Bw W (W.alloc (.cells #[lv,.slice kA kn kc,.slice pA pn pc,.slice bA bn bc,.slice qA qn qc] 43)):=bAx;generalize W.alloc (.cells #[lv,.slice kA kn kc,.slice pA pn pc,.slice bA bn bc,.slice qA qn qc] 43)=w1 at*;have HW:=hid hb0;obtain ⟨g,hg⟩:∃g,g=W.heap.size:=⟨_,rfl⟩
 simp only [<-hg];rw [<-hg] at hx;obtain ⟨d0,d1,d2,d3,d4⟩:=aG hx;clear hx hb0 hg d0;by_cases e0:kn<=80
 case neg=>
  have hd:(80:Int)<(kn:Int):=by omega
  have HNO:Hid (¬P):=fun h=>e0 (by rw [<-HKN.out];exact (HP.out h).kids);clear e0;go_wp2_with fail
  go_ret
  exact ⟨⟨true,rfl,(fun h=>by cases h),fun h=>absurd h HNO.out⟩,HW.out⟩
 have n0:decide ((80:Int)<(kn:Int))=false:=by simp;omega
 by_cases e1:pn<=80
 case neg=>
  have hd:(80:Int)<(pn:Int):=by omega
  have HNO:Hid (¬P):=fun h=>e1 (by rw [<-HPN.out];exact (HP.out h).piv);clear e1;go_wp2_with fail
  go_ret
  exact ⟨⟨true,rfl,(fun h=>by cases h),fun h=>absurd h HNO.out⟩,HW.out⟩
 have n1:decide ((80:Int)<(pn:Int))=false:=by simp;omega
 by_cases e2:bn<=150
 case neg=>
  have hd:(150:Int)<(bn:Int):=by omega
  have HNO:Hid (¬P):=fun h=>e2 (by rw [<-HBN.out];exact (HP.out h).buf);clear e2;go_wp2_with fail
  go_ret
  exact ⟨⟨true,rfl,(fun h=>by cases h),fun h=>absurd h HNO.out⟩,HW.out⟩
 have n2:decide ((150:Int)<(bn:Int))=false:=by simp;omega
 by_cases e3:qn<=150
 case neg=>
  have hd:(150:Int)<(qn:Int):=by omega
  have HNO:Hid (¬P):=fun h=>e3 (by rw [<-HQN.out];exact (HP.out h).prs);clear e3;go_wp2_with fail
  go_ret
  exact ⟨⟨true,rfl,(fun h=>by cases h),fun h=>absurd h HNO.out⟩,HW.out⟩
 have n3:decide ((150:Int)<(qn:Int))=false:=by simp;omega
 have HE:Hid (kn<=80/\pn<=80/\bn<=150/\qn<=150):=⟨e0,e1,e2,e3⟩;clear e0 e1 e2 e3;go_upto_block 0 with fail
 clear n0 n1 n2 n3
 go_cut [] (fun wx=>Hid (∀y,y∈L->y.size<=200)/\w1=wx)
 case first=>
  go_wp2_with fail
  go_loopg [3] pn (fun gk iv wx=>∃j:Nat,j<=pn/\gk=pn-j/\iv= .int .i64 (j:Int)/\Hid (∀(i:Nat) (y:ByteArray),i<j->L[i]? =some y->y.size<=200)/\w1=wx)
  case atStart=>exact ⟨0,Nat.zero_le _,rfl,rfl,fun i x hi=>by omega,rfl⟩
  case round=>
   obtain ⟨j,hj,rfl,rfl,HJ,rfl⟩:=hrel;by_cases hlt2:j<pn
   . have hjL:j<L.length:=by rw [HPN.out];exact hlt2
     obtain ⟨x,hxx⟩:∃x,x=L[j]:=⟨_,rfl⟩
     have hx':=iH hjL;rw [<-hxx] at hx';obtain ⟨b,o,e,-,c0⟩:=RdK.str (HL.out.kept HW.out) hx';subst e;have HXX:=hid hx';have hw3:IntKind.i64.wrap ((j:Int)+1)=((j+1:Nat):Int):=(by rw [IntKind.wrap_i64];omega);clear hxx hx' hjL;by_cases hz:x.size<=200
     . have HJ2:Hid (∀(i:Nat) (y:ByteArray),i<j+1->L[i]? =some y->y.size<=200):=fun i y hi hy=>by
        by_cases e:i=j
        . subst e
          rw [HXX.out] at hy;(cases hy);exact hz
        . exact HJ.out i y (by omega) hy
       have hd:decide (200<(x.size:Int))=false:=(by simp;omega);clear hz;go_wp2_with fail
       go_roundg (pn-(j+1))
       case measure=>omega
       case rel=>exact ⟨j+1,hlt2,rfl,by go_num,HJ2,rfl⟩
     . have hd:(200:Int)<(x.size:Int):=by omega
       have HNO:Hid (¬P):=fun h=>hz ((HP.out h).pk x (List.mem_of_getElem? HXX.out));clear hz;go_wp2_with fail
       go_ret
       exact ⟨⟨true,rfl,(fun h=>by cases h),fun h=>absurd h HNO.out⟩,HW.out⟩
   . have HZ:Hid (∀y,y∈L->y.size<=200):=fun x hx=>by
      obtain ⟨i,hi⟩:=List.getElem?_of_mem hx;have:=(List.getElem?_eq_some_iff.1 hi).1;rw [HPN.out] at this;exact HJ.out i x (by omega) hi
     obtain rfl:j=pn:=(by omega);clear hlt2;go_wp2_with fail
     go_meet
     exact ⟨HZ,rfl⟩
 case rest=>
 obtain ⟨Hx0,rfl⟩:=hcut;go_upto_block 2 with fail
 skip
 go_cut [] (fun wx=>Hid (∀y,y∈B->y.1.size<=200)/\w1=wx)
 case first=>
  go_wp2_with fail
  go_loopg [4] bn (fun gk iv wx=>∃j:Nat,j<=bn/\gk=bn-j/\iv= .int .i64 (j:Int)/\Hid (∀(i:Nat) (y:Mg),i<j->B[i]? =some y->y.1.size<=200)/\w1=wx)
  case atStart=>exact ⟨0,Nat.zero_le _,rfl,rfl,fun i x hi=>by omega,rfl⟩
  case round=>
   obtain ⟨j,hj,rfl,rfl,HJ,rfl⟩:=hrel;by_cases hlt2:j<bn
   . have hjL:j<B.length:=by rw [HBN.out];exact hlt2
     obtain ⟨x,hxx⟩:∃x,x=B[j]:=⟨_,rfl⟩
     have hx':=dB hjL;rw [<-hxx] at hx';obtain ⟨b,o,e,-,c0,-,-⟩:=RdK.msg (HB.out.kept HW.out) hx';subst e;have HXX:=hid hx';have hw3:IntKind.i64.wrap ((j:Int)+1)=((j+1:Nat):Int):=(by rw [IntKind.wrap_i64];omega);clear hxx hx' hjL;by_cases hz:x.1.size<=200
     . have HJ2:Hid (∀(i:Nat) (y:Mg),i<j+1->B[i]? =some y->y.1.size<=200):=fun i y hi hy=>by
        by_cases e:i=j
        . subst e
          rw [HXX.out] at hy;(cases hy);exact hz
        . exact HJ.out i y (by omega) hy
       have hd:decide (200<(x.1.size:Int))=false:=(by simp;omega);clear hz;go_wp2_with fail
       go_roundg (bn-(j+1))
       case measure=>omega
       case rel=>exact ⟨j+1,hlt2,rfl,by go_num,HJ2,rfl⟩
     . have hd:(200:Int)<(x.1.size:Int):=by omega
       have HNO:Hid (¬P):=fun h=>hz ((HP.out h).bk x (List.mem_of_getElem? HXX.out));clear hz;go_wp2_with fail
       go_ret
       exact ⟨⟨true,rfl,(fun h=>by cases h),fun h=>absurd h HNO.out⟩,HW.out⟩
   . have HZ:Hid (∀y,y∈B->y.1.size<=200):=fun x hx=>by
      obtain ⟨i,hi⟩:=List.getElem?_of_mem hx;have:=(List.getElem?_eq_some_iff.1 hi).1;rw [HBN.out] at this;exact HJ.out i x (by omega) hi
     obtain rfl:j=bn:=(by omega);clear hlt2;go_wp2_with fail
     go_meet
     exact ⟨HZ,rfl⟩
 case rest=>
 obtain ⟨Hx1,rfl⟩:=hcut;go_upto_block 4 with fail
 skip
 go_cut [] (fun wx=>Hid (∀y,y∈Q->y.1.size<=200)/\w1=wx)
 case first=>
  go_wp2_with fail
  go_loopg [5] qn (fun gk iv wx=>∃j:Nat,j<=qn/\gk=qn-j/\iv= .int .i64 (j:Int)/\Hid (∀(i:Nat) (y:Pr),i<j->Q[i]? =some y->y.1.size<=200)/\w1=wx)
  case atStart=>exact ⟨0,Nat.zero_le _,rfl,rfl,fun i x hi=>by omega,rfl⟩
  case round=>
   obtain ⟨j,hj,rfl,rfl,HJ,rfl⟩:=hrel;by_cases hlt2:j<qn
   . have hjL:j<Q.length:=by rw [HQN.out];exact hlt2
     obtain ⟨x,hxx⟩:∃x,x=Q[j]:=⟨_,rfl⟩
     have hx':=dB hjL;rw [<-hxx] at hx';obtain ⟨b,o,e,-,c0,-⟩:=RdK.pair (HR.out.kept HW.out) hx';subst e;have HXX:=hid hx';have hw3:IntKind.i64.wrap ((j:Int)+1)=((j+1:Nat):Int):=(by rw [IntKind.wrap_i64];omega);clear hxx hx' hjL;by_cases hz:x.1.size<=200
     . have HJ2:Hid (∀(i:Nat) (y:Pr),i<j+1->Q[i]? =some y->y.1.size<=200):=fun i y hi hy=>by
        by_cases e:i=j
        . subst e
          rw [HXX.out] at hy;(cases hy);exact hz
        . exact HJ.out i y (by omega) hy
       have hd:decide (200<(x.1.size:Int))=false:=(by simp;omega);clear hz;go_wp2_with fail
       go_roundg (qn-(j+1))
       case measure=>omega
       case rel=>exact ⟨j+1,hlt2,rfl,by go_num,HJ2,rfl⟩
     . have hd:(200:Int)<(x.1.size:Int):=by omega
       have HNO:Hid (¬P):=fun h=>hz ((HP.out h).qk x (List.mem_of_getElem? HXX.out));clear hz;go_wp2_with fail
       go_ret
       exact ⟨⟨true,rfl,(fun h=>by cases h),fun h=>absurd h HNO.out⟩,HW.out⟩
   . have HZ:Hid (∀y,y∈Q->y.1.size<=200):=fun x hx=>by
      obtain ⟨i,hi⟩:=List.getElem?_of_mem hx;have:=(List.getElem?_eq_some_iff.1 hi).1;rw [HQN.out] at this;exact HJ.out i x (by omega) hi
     obtain rfl:j=qn:=(by omega);clear hlt2;go_wp2_with fail
     go_meet
     exact ⟨HZ,rfl⟩
 case rest=>
 obtain ⟨Hx2,rfl⟩:=hcut;have HT:Hid P:=HQ.out ⟨by rw [HKN.out];exact HE.out.1,by rw [HPN.out];exact HE.out.2.1,by rw [HBN.out];exact HE.out.2.2.1,by rw [HQN.out];exact HE.out.2.2.2,Hx0.out,Hx1.out,Hx2.out⟩;go_wp2_with fail
 go_ret
 exact ⟨⟨false,rfl,(fun _=>HT.out),fun _=>rfl⟩,HW.out⟩
end No
end Go.Proofs.YtjpjjnalpdpljaaGreatDoor
set_option maxHeartbeats 8000000
set_option maxRecDepth 100000
namespace Go.Proofs.YtjpjjnalpdpljaaGreatDoor
open Go.RowKit
open Go.Lib (hid)
namespace No
open Mem Lx Bu Lf Fa
theorem zw (c:Cfg) (key:ByteArray) (W:World):CB 181 #[.agg (aZ c),.string key] W (.bool (jT c key)):=by
 have HP:=hid (show jT c key=(decide (1<=(key.size:Int))&&decide ((key.size:Int)<=c.key)) from rfl);generalize jT c key=v at*;unfold aZ;obtain ⟨cB,cY,cF,cN,cU,cL,cK,cV⟩:=c;simp only at*;by_cases h1:1<=(key.size:Int)
 . have HR:Hid (v=decide ((key.size:Int)<=cK)):=hid (by rw [HP.out];simp [h1])
   clear HP;go_enter Tryz.func181,Tryz.ntmps181
   go_wp2_with fail
   go_ret
   exact ⟨dS HR.out.symm,bAx⟩
 . have HR:Hid (v=false):=hid (by rw [HP.out];simp [h1])
   have h2:decide (1<=(key.size:Int))=false:=(by simpa using h1);clear HP h1;go_enter Tryz.func181,Tryz.ntmps181
   go_wp2_with fail
   go_ret
   exact ⟨dS HR.out.symm,bAx⟩
theorem ED {W:World} (c:Cfg) (lo hi:ByteArray) (top:Bool) {n:Nd} {a:At} (h:gK W n a) (hf:Sz n) (hlo:lo.size<=maxLen):Calls Tryz.prog 159 #[.agg (aZ c),fu lo hi top,.agg (bL n a)] W fun e w'=>(∃v:Bool,e=.returned (.bool v)/\(v=true↔nE c lo hi top n))/\Bw W w':=by
 obtain ⟨P,hP⟩:∃P:Prop,P=nE c lo hi top n:=⟨_,rfl⟩
 have HP:Hid (P->nE c lo hi top n):=fun h=>by rw [hP] at h;exact h
 have HQ:Hid (nE c lo hi top n->P):=fun h=>by rw [hP];exact h
 rw [<-hP];clear hP;have cK:=fun (k:ByteArray) (w:World)=>hid (zw c k w);obtain ⟨lv,K,L,B,Q⟩:=n;obtain ⟨kA,kc,pA,pc,bA,bc,qA,qc⟩:=a;have l1:=hf.kl;have l2:=hf.pl;have l3:=hf.bl;have l4:=hf.ql;have HKI:Hid (KL W kA K):=h.kids.1;have HPI:Hid (SL W pA L):=h.piv.1;have HBU:Hid (RdK MgK W bA B):=h.buf.1;have HPR:Hid (PL W qA Q):=h.prs.1;have HSK:Hid (∀p,p∈L->p.size<=maxLen):=hf.piv;have HSB:Hid (∀m,m∈B->m.1.size<=maxLen):=hf.buf;have HSQ:Hid (∀m,m∈Q->m.1.size<=maxLen):=hf.prs;have cI:=fun (k:ByteArray) (w:World) (hk:k.size<=maxLen)=>hid (xD lo hi top k w hlo hk);have cR:=fun (w:World) (hb:Bw W w)=>hid (Lf.gN (c:=qc) (HPR.out.kept hb) HSQ.out (Nat.le_trans l4 (by decide)));obtain ⟨cB,cY,cF,cN,cU,cL,cKy,cV⟩:=c;unfold bL aZ;unfold aZ at cK;simp only at*;generalize hkn:K.length=kn at*;generalize hpn:L.length=pn at*;generalize hbn:B.length=bn at*;generalize hqn:Q.length=qn at*;have HKN:=hid hkn;have HPN:=hid hpn;have HBN:=hid hbn;have HQN:=hid hqn;clear h hf hkn hpn hbn hqn hlo;go_enter Tryz.func159,Tryz.ntmps159
 go_upto_region 1 with fail
 have HB0:=hid (B3.new W (.cells #[cB,cY,cF,cN,cU,cL,cKy,cV] 23) (.cells #[.string lo,.string hi,.bool top] 152) (.cells #[lv,.slice kA kn kc,.slice pA pn pc,.slice bA bn bc,.slice qA qn qc] 43));generalize ((W.alloc (.cells #[cB,cY,cF,cN,cU,cL,cKy,cV] 23)).alloc (.cells #[.string lo,.string hi,.bool top] 152)).alloc (.cells #[lv,.slice kA kn kc,.slice pA pn pc,.slice bA bn bc,.slice qA qn qc] 43)=w1 at*;obtain ⟨g,hg⟩:∃g,g=W.heap.size:=⟨_,rfl⟩
 rw [<-hg] at HB0;simp only [<-hg];clear hg;go_upto_block 0 with fail
 go_cut [] (fun wx=>Hid (∀p,p∈Q->H9 ⟨cB,cY,cF,cN,cU,cL,cKy,cV⟩ lo hi top p)/\Hid (B3 W g (.cells #[cB,cY,cF,cN,cU,cL,cKy,cV] 23) (.cells #[.string lo,.string hi,.bool top] 152) (.cells #[lv,.slice kA kn kc,.slice pA pn pc,.slice bA bn bc,.slice qA qn qc] 43) wx))
 case first=>
  go_wp2_with fail
  go_loopg [7] qn (fun gk iv wx=>∃j:Nat,j<=qn/\gk=qn-j/\iv= .int .i64 (j:Int)/\Hid (∀(i:Nat) (y:Pr),i<j->Q[i]? =some y->H9 ⟨cB,cY,cF,cN,cU,cL,cKy,cV⟩ lo hi top y)/\Hid (B3 W g (.cells #[cB,cY,cF,cN,cU,cL,cKy,cV] 23) (.cells #[.string lo,.string hi,.bool top] 152) (.cells #[lv,.slice kA kn kc,.slice pA pn pc,.slice bA bn bc,.slice qA qn qc] 43) wx))
  case atStart=>exact ⟨0,Nat.zero_le _,rfl,rfl,fun i x hi=>by omega,HB0⟩
  case round=>
   clear HB0;obtain ⟨j,hj,rfl,rfl,HJ,HB⟩:=hrel;obtain ⟨d0,d1,d2,d3,d4⟩:=aG HB.out.z;by_cases hlt:j<qn
   . have hjL:j<Q.length:=by rw [HQN.out];exact hlt
     obtain ⟨x,hxx⟩:∃x,x=Q[j]:=⟨_,rfl⟩
     have hx':=dB hjL;rw [<-hxx] at hx';obtain ⟨b,o,e,-,c0,c1⟩:=RdK.pair (HPR.out.kept HB.out.below) hx';subst e;have HXX:=hid hx';have hsz:=HSQ.out x (List.mem_of_getElem? hx');have hw3:IntKind.i64.wrap ((j:Int)+1)=((j+1:Nat):Int):=(by rw [IntKind.wrap_i64];omega);clear hxx hx' hjL;go_upto_region 5 with fail
     have hba:Bw wr (wr.alloc (.cells #[.string x.1,.string x.2] 93)):=bAx;have hnew:=heap_alloc_new wr (.cells #[.string x.1,.string x.2] 93);have HB2:=hid (HB.out.kept hba);generalize wr.alloc (.cells #[.string x.1,.string x.2] 93)=w2 at*;generalize wr.heap.size=u at*;have HU:=hid hnew;clear hba hnew HB d0 d1 d2 d3 d4 c0 c1;obtain ⟨f0,f1⟩:w2.cell? ⟨u,0,none⟩=some (.string x.1)/\w2.cell? ⟨u,1,none⟩=some (.string x.2):=(by simp [World.cell?,HU.out]);obtain ⟨e0,e1,e2⟩:=bR HB2.out.y;obtain ⟨g0,g1,g2,g3,g4,g5,g6,g7⟩:=aT HB2.out.x;have HOK:Hid (jT ⟨cB,cY,cF,cN,cU,cL,cKy,cV⟩ x.1=true->inB lo hi top x.1=true->(x.2.size:Int)<=cV->H9 ⟨cB,cY,cF,cN,cU,cL,cKy,cV⟩ lo hi top x):=fun a b c=>⟨a,b,c⟩
     have HNK:Hid (jT ⟨cB,cY,cF,cN,cU,cL,cKy,cV⟩ x.1=false->¬P):=fun e hp=>by
      have:=((HP.out hp).each x (List.mem_of_getElem? HXX.out)).1;rw [e] at this;cases this
     have HNI:Hid (inB lo hi top x.1=false->¬P):=fun e hp=>by
      have:=((HP.out hp).each x (List.mem_of_getElem? HXX.out)).2.1;rw [e] at this;cases this
     have HNV:Hid (¬(x.2.size:Int)<=cV->¬P):=fun e hp=>e ((HP.out hp).each x (List.mem_of_getElem? HXX.out)).2.2;have cX:=fun w=>cK x.1 w;have cY':=fun w=>cI x.1 w hsz;generalize jT ⟨cB,cY,cF,cN,cU,cL,cKy,cV⟩ x.1=kb at*;generalize inB lo hi top x.1=ib at*;clear hsz;go_upto_region 5 with fail
     cases kb with
     |false=>
      have HNO:=hid (HNK.out rfl);clear HNK HNI HNV HOK;go_wp2_with (first|(go_at_call 181;refine (cX _).out.mono ?_;rintro e w3 ⟨rfl,hb⟩;replace HU:=hid (aC HU.out hb);replace HB2:=hid (HB2.out.kept hb);clear hb f0 f1 e0 e1 e2 g0 g1 g2 g3 g4 g5 g6 g7;obtain ⟨f0,f1⟩:w3.cell? ⟨u,0,none⟩=some (.string x.1)/\w3.cell? ⟨u,1,none⟩=some (.string x.2):=(by simp [World.cell?,HU.out]);obtain ⟨e0,e1,e2⟩:=bR HB2.out.y;obtain ⟨g0,g1,g2,g3,g4,g5,g6,g7⟩:=aT HB2.out.x)|(go_at_call 182;refine (cY' _).out.mono ?_;rintro e w3 ⟨rfl,hb⟩;replace HU:=hid (aC HU.out hb);replace HB2:=hid (HB2.out.kept hb);clear hb f0 f1 e0 e1 e2 g0 g1 g2 g3 g4 g5 g6 g7;obtain ⟨f0,f1⟩:w3.cell? ⟨u,0,none⟩=some (.string x.1)/\w3.cell? ⟨u,1,none⟩=some (.string x.2):=(by simp [World.cell?,HU.out]);obtain ⟨e0,e1,e2⟩:=bR HB2.out.y;obtain ⟨g0,g1,g2,g3,g4,g5,g6,g7⟩:=aT HB2.out.x))
      go_ret
      exact ⟨⟨false,rfl,(fun h=>by cases h),fun h=>absurd h HNO.out⟩,HB2.out.below⟩
     |true=>
      cases ib with
      |false=>
       have HNO:=hid (HNI.out rfl);clear HNK HNI HNV HOK;go_wp2_with (first|(go_at_call 181;refine (cX _).out.mono ?_;rintro e w3 ⟨rfl,hb⟩;replace HU:=hid (aC HU.out hb);replace HB2:=hid (HB2.out.kept hb);clear hb f0 f1 e0 e1 e2 g0 g1 g2 g3 g4 g5 g6 g7;obtain ⟨f0,f1⟩:w3.cell? ⟨u,0,none⟩=some (.string x.1)/\w3.cell? ⟨u,1,none⟩=some (.string x.2):=(by simp [World.cell?,HU.out]);obtain ⟨e0,e1,e2⟩:=bR HB2.out.y;obtain ⟨g0,g1,g2,g3,g4,g5,g6,g7⟩:=aT HB2.out.x)|(go_at_call 182;refine (cY' _).out.mono ?_;rintro e w3 ⟨rfl,hb⟩;replace HU:=hid (aC HU.out hb);replace HB2:=hid (HB2.out.kept hb);clear hb f0 f1 e0 e1 e2 g0 g1 g2 g3 g4 g5 g6 g7;obtain ⟨f0,f1⟩:w3.cell? ⟨u,0,none⟩=some (.string x.1)/\w3.cell? ⟨u,1,none⟩=some (.string x.2):=(by simp [World.cell?,HU.out]);obtain ⟨e0,e1,e2⟩:=bR HB2.out.y;obtain ⟨g0,g1,g2,g3,g4,g5,g6,g7⟩:=aT HB2.out.x))
       go_ret
       exact ⟨⟨false,rfl,(fun h=>by cases h),fun h=>absurd h HNO.out⟩,HB2.out.below⟩
      |true=>
       by_cases hv:(x.2.size:Int)<=cV
       . have HJ2:Hid (∀(i:Nat) (y:Pr),i<j+1->Q[i]? =some y->H9 ⟨cB,cY,cF,cN,cU,cL,cKy,cV⟩ lo hi top y):=fun i y hi hy=>by
          by_cases e:i=j
          . subst e
            rw [HXX.out] at hy;(cases hy);exact HOK.out rfl rfl hv
          . exact HJ.out i y (by omega) hy
         have hd:decide (cV<(x.2.size:Int))=false:=(by simp;omega);clear hv HNK HNI HNV HOK;go_wp2_with (first|(go_at_call 181;refine (cX _).out.mono ?_;rintro e w3 ⟨rfl,hb⟩;replace HU:=hid (aC HU.out hb);replace HB2:=hid (HB2.out.kept hb);clear hb f0 f1 e0 e1 e2 g0 g1 g2 g3 g4 g5 g6 g7;obtain ⟨f0,f1⟩:w3.cell? ⟨u,0,none⟩=some (.string x.1)/\w3.cell? ⟨u,1,none⟩=some (.string x.2):=(by simp [World.cell?,HU.out]);obtain ⟨e0,e1,e2⟩:=bR HB2.out.y;obtain ⟨g0,g1,g2,g3,g4,g5,g6,g7⟩:=aT HB2.out.x)|(go_at_call 182;refine (cY' _).out.mono ?_;rintro e w3 ⟨rfl,hb⟩;replace HU:=hid (aC HU.out hb);replace HB2:=hid (HB2.out.kept hb);clear hb f0 f1 e0 e1 e2 g0 g1 g2 g3 g4 g5 g6 g7;obtain ⟨f0,f1⟩:w3.cell? ⟨u,0,none⟩=some (.string x.1)/\w3.cell? ⟨u,1,none⟩=some (.string x.2):=(by simp [World.cell?,HU.out]);obtain ⟨e0,e1,e2⟩:=bR HB2.out.y;obtain ⟨g0,g1,g2,g3,g4,g5,g6,g7⟩:=aT HB2.out.x))
         go_roundg (qn-(j+1))
         case measure=>omega
         case rel=>exact ⟨j+1,hlt,rfl,by go_num,HJ2,HB2⟩
       . have HNO:=hid (HNV.out hv)
         have hd:cV<(x.2.size:Int):=(by omega);clear hv HNK HNI HNV HOK;go_wp2_with (first|(go_at_call 181;refine (cX _).out.mono ?_;rintro e w3 ⟨rfl,hb⟩;replace HU:=hid (aC HU.out hb);replace HB2:=hid (HB2.out.kept hb);clear hb f0 f1 e0 e1 e2 g0 g1 g2 g3 g4 g5 g6 g7;obtain ⟨f0,f1⟩:w3.cell? ⟨u,0,none⟩=some (.string x.1)/\w3.cell? ⟨u,1,none⟩=some (.string x.2):=(by simp [World.cell?,HU.out]);obtain ⟨e0,e1,e2⟩:=bR HB2.out.y;obtain ⟨g0,g1,g2,g3,g4,g5,g6,g7⟩:=aT HB2.out.x)|(go_at_call 182;refine (cY' _).out.mono ?_;rintro e w3 ⟨rfl,hb⟩;replace HU:=hid (aC HU.out hb);replace HB2:=hid (HB2.out.kept hb);clear hb f0 f1 e0 e1 e2 g0 g1 g2 g3 g4 g5 g6 g7;obtain ⟨f0,f1⟩:w3.cell? ⟨u,0,none⟩=some (.string x.1)/\w3.cell? ⟨u,1,none⟩=some (.string x.2):=(by simp [World.cell?,HU.out]);obtain ⟨e0,e1,e2⟩:=bR HB2.out.y;obtain ⟨g0,g1,g2,g3,g4,g5,g6,g7⟩:=aT HB2.out.x))
         go_ret
         exact ⟨⟨false,rfl,(fun h=>by cases h),fun h=>absurd h HNO.out⟩,HB2.out.below⟩
   . have HZ:Hid (∀p,p∈Q->H9 ⟨cB,cY,cF,cN,cU,cL,cKy,cV⟩ lo hi top p):=fun x hx=>by
      obtain ⟨i,hi⟩:=List.getElem?_of_mem hx;have:=(List.getElem?_eq_some_iff.1 hi).1;rw [HQN.out] at this;exact HJ.out i x (by omega) hi
     obtain rfl:j=qn:=(by omega);clear hlt;go_wp2_with fail
     go_meet
     exact ⟨HZ,HB⟩
 case rest=>
 clear HB0;obtain ⟨HZ,HB⟩:=hcut;obtain ⟨d0,d1,d2,d3,d4⟩:=aG HB.out.z;obtain ⟨g0,g1,g2,g3,g4,g5,g6,g7⟩:=aT HB.out.x;by_cases ekn:kn=0
 case neg=>
  have hd:((kn:Int)==0)=false:=by simp;omega
  have HNO:Hid (¬P):=fun h=>ekn (by rw [<-HKN.out];exact (HP.out h).kids);clear ekn;go_wp2_with fail
  go_ret
  exact ⟨⟨false,rfl,(fun h=>by cases h),fun h=>absurd h HNO.out⟩,HB.out.below⟩
 subst ekn;by_cases epn:pn=0
 case neg=>
  have hd:((pn:Int)==0)=false:=by simp;omega
  have HNO:Hid (¬P):=fun h=>epn (by rw [<-HPN.out];exact (HP.out h).piv);clear epn;go_wp2_with fail
  go_ret
  exact ⟨⟨false,rfl,(fun h=>by cases h),fun h=>absurd h HNO.out⟩,HB.out.below⟩
 subst epn;by_cases ebn:bn=0
 case neg=>
  have hd:((bn:Int)==0)=false:=by simp;omega
  have HNO:Hid (¬P):=fun h=>ebn (by rw [<-HBN.out];exact (HP.out h).buf);clear ebn;go_wp2_with fail
  go_ret
  exact ⟨⟨false,rfl,(fun h=>by cases h),fun h=>absurd h HNO.out⟩,HB.out.below⟩
 subst ebn;by_cases el:(qn:Int)<=cL
 case neg=>
  have hd:decide ((qn:Int)<=cL)=false:=by simpa using el
  have HNO:Hid (¬P):=fun h=>el (by rw [<-HQN.out];exact (HP.out h).few);clear el;go_wp2_with fail
  go_ret
  exact ⟨⟨false,rfl,(fun h=>by cases h),fun h=>absurd h HNO.out⟩,HB.out.below⟩
 have HFW:Hid ((Q.length:Int)<=cL):=hid (by rw [HQN.out];exact el);have hel:decide ((qn:Int)<=cL)=true:=by simpa using el
 clear el;obtain ⟨r,hr⟩:=bU (mM Q);have HRR:=hid hr;clear hr;have cR2:Hid (CB 183 #[.slice qA qn qc] wc (.bool r)):=(cR _ HB.out.below).out.mono fun e w' ⟨⟨v,he,hv⟩,hb⟩=>⟨by rw [he,dA hv HRR.out],hb⟩;have HF:Hid (r=true↔P):=⟨fun h=>HQ.out ⟨HZ.out,HKN.out,HPN.out,HBN.out,HFW.out,HRR.out.1 h⟩,fun h=>HRR.out.2 (HP.out h).rise⟩;clear cR;go_wp2_with (go_at_call 183;refine cR2.out.mono ?_;rintro e w3 ⟨rfl,hb⟩;replace HB:=hid (HB.out.kept hb);clear hb)
 go_ret
 exact ⟨⟨r,rfl,HF.out⟩,HB.out.below⟩
end No
end Go.Proofs.YtjpjjnalpdpljaaGreatDoor
namespace Go.Proofs.YtjpjjnalpdpljaaGreatDoor
open Go.RowKit
namespace No
open Mem Lx Bu Lf Fa
theorem mO {α:Type} {K:Kind α} {w w':World} {c:Nat} {A:Option Addr} {L:List α} {T:List Nat} (h:RC K w A c L) (hi:Flow.Into T w w') (hb:∀y,0<L.length->A=some y->y.block∉T):RC K w' A c L:=⟨fun h0=>by
 obtain ⟨yb,yo,e,hl,-⟩:=h.1 h0;refine h.1.keep hi.size (fun a ha=>?_) h0;have h2:=hb a h0 ha;rw [ha] at e;cases e
 exact hi.block _ hl h2,h.2⟩
def kG (w:World) (b:Nat):Prop:=∃(v:Int) (A0 A1 A2 A3:Option Addr) (n0 c0 n1 c1 n2 c2 n3 c3:Nat) (U:TypeId),w.heap[b]? =some (.cells #[v,.slice A0 n0 c0,.slice A1 n1 c1,.slice A2 n2 c2,.slice A3 n3 c3] U (0,0))
def mR {α:Type} (K:Kind α):Prop:=∀x,∃u,(K.cs x)[0]? =some u/\(∀n,u≠ .int .i64 n)/\∀A n c,u≠ .slice A n c
theorem AU:mR KdK:=fun x=>⟨.int .u32 x,rfl,(fun n h=>by cases h),fun A n c h=>by cases h⟩
theorem AV:mR StK:=fun x=>⟨.string x,rfl,(fun n h=>by cases h),fun A n c h=>by cases h⟩
theorem AX:mR MgK:=fun x=>⟨.string x.1,rfl,(fun n h=>by cases h),fun A n c h=>by cases h⟩
theorem AY:mR PrK:=fun x=>⟨.string x.1,rfl,(fun n h=>by cases h),fun A n c h=>by cases h⟩
theorem Np {α:Type} {K:Kind α} {w:World} {A:Option Addr} {c g:Nat} {L:List α} (h:RC K w A c L) (hx:kG w g) (hs:mR K):∀y,0<L.length->A=some y->y.block≠g:=fun y h0 hy hg=>by
 obtain ⟨v,A0,A1,A2,A3,n0,c0,n1,c1,n2,c2,n3,c3,U,hx⟩:=hx;obtain ⟨b,o,e,hl,hc⟩:=h.1 h0;rw [hy] at e;cases e
 simp only at hg;subst hg;obtain ⟨x,hx0⟩:∃x,L[0]? =some x:=⟨L[0],List.getElem?_eq_getElem h0⟩
 obtain ⟨u,hu,hu1,hu2⟩:=hs x;have h1:=hc 0 x hx0 0 _ hu;simp only [World.cell?,hx,Option.isSome_none,Bool.false_eq_true,if_false,Nat.zero_mul,Nat.add_zero] at h1
 match o,h1 with
 |0,h1=>exact hu1 v (by simpa using h1.symm)
 |1,h1=>exact hu2 A0 n0 c0 (by simpa using h1.symm)
 |2,h1=>exact hu2 A1 n1 c1 (by simpa using h1.symm)
 |3,h1=>exact hu2 A2 n2 c2 (by simpa using h1.symm)
 |4,h1=>exact hu2 A3 n3 c3 (by simpa using h1.symm)
 |o+5,h1=>simp at h1
theorem zx {α:Type} {K:Kind α} {w w':World} {A:Option Addr} {c:Nat} {L:List α} {T:List Nat} (h:RC K w A c L) (hi:Flow.Into T w w') (hT:∀b∈T,kG w b) (hs:mR K):RC K w' A c L:=mO h hi fun y h0 hy hm=>Np h (hT _ hm) hs y h0 hy rfl
theorem Je {w w':World} {n:Nd} {a:At} {T:List Nat} (h:gK w n a) (hi:Flow.Into T w w') (hT:∀b∈T,kG w b):gK w' n a:=⟨zx h.kids hi hT AU,zx h.piv hi hT AV,zx h.buf hi hT AX,zx h.prs hi hT AY⟩
theorem kG.of {w:World} {b:Nat} {v:Int} {A0 A1 A2 A3:Option Addr} {n0 c0 n1 c1 n2 c2 n3 c3:Nat} {U:TypeId} (h:w.heap[b]? =some (.cells #[v,.slice A0 n0 c0,.slice A1 n1 c1,.slice A2 n2 c2,.slice A3 n3 c3] U (0,0))):kG w b:=⟨v,A0,A1,A2,A3,n0,c0,n1,c1,n2,c2,n3,c3,U,h⟩
theorem kG.one {w:World} {b:Nat} (h:kG w b):∀k∈[b],kG w k:=fun k hk=>by
 obtain rfl:k=b:=by simpa using hk
 exact h
theorem kG.two {w:World} {b d:Nat} (h:kG w b) (h':kG w d):∀k∈[b,d],kG w k:=fun k hk=>by
 rcases (by simpa using hk:k=b\/k=d) with rfl|rfl
 . exact h
 . exact h'
end No
end Go.Proofs.YtjpjjnalpdpljaaGreatDoor
