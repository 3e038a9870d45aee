import Derived.Test.YtmcbidhpkpmalaaGreatDoorPkAI
import Derived.Test.YtmcbidhpkpmalaaGreatDoorPkAB
set_option maxHeartbeats 4000000
set_option maxRecDepth 100000
namespace Go.Proofs.YtmcbidhpkpmalaaGreatDoor
open Go.RowKit
open Go.Lib (hid)
namespace Dv
open Mem
theorem DZ{U:TypeId}{w:World}{B:Nat}{v:Value}{l:List UInt8}(h:Own U w B v l)(h0:0<l.length):∃q c C,v= .slice (some (q:Nat)) l.length c/\B<=q/\Cells U w q C/\l.length<=c/\l.length<=C.length/\win C 0 l.length=aD l:=by
 obtain⟨_,h2⟩:=h;rcases h2 with⟨_,h'⟩|⟨g,cap,cur,rfl,hB,hh,hle,_,hsz,htake⟩
 . omega
 . exact⟨g,cap,cur.toList,rfl,hB,by unfold Cells;simpa using hh,hle,by simp;omega,by simpa[win]using htake⟩
def NH(w w':World)(n:Nat)(l:List UInt8)(e:Ending):Prop:=∃q c' C,e=.returned (.slice (some (q:Nat)) n c')/\Cells 5 w' q C/\n<=c'/\n<=C.length/\win C 0 n=aD l/\w.heap.size<=q
theorem xW(A:Option Addr)(c:Nat)(l:List UInt8)(w:World)(hA:BL w A l)(h0:0<l.length)(hm:l.length<=1048576):
 Calls Tryz.prog 73 #[.slice A l.length c] w fun e w'=>NH w w' l.length l e/\Bw w w':=by
 obtain⟨b,o,rfl,_⟩:=hA h0;obtain⟨m,hm'⟩:=eX l.length;have hnil:∀W,(binOp .eql 26 (.slice (some ⟨b,o,none⟩) m c) (.slice none 0 0)).run Tryz.prog W= .ok (.bool false) W:=fun W=>Lib.run_eql_slice_nil W _ _ _ _ _ _ _ Tryz.underlying26
 have HO:Hid (Own 5 (w.alloc (.cells #[] 5)) w.heap.size (.slice (some w.heap.size) 0 0) []):=Own.lit 5 w w.heap.size [] (Nat.le_refl _) (by decide);have HA:=hid (hA.alloc (.cells #[] 5));have HL:=hid hm'.symm;have HP:=hid h0;have hs:w.heap.size<=(w.alloc (.cells #[] 5)).heap.size:=by simp
 have HB:Hid (Bw w (w.alloc (.cells #[] 5))):=bAx;rw[<-hm']at hm ⊢;clear hA h0 hm';go_enter Tryz.func73,Tryz.ntmps73
 have hmm:([]:List UInt8).length+m<=140737488355328:=by simp;omega
 go_wp2_with (with_reducible refine gU rfl (.tmp 5) (.tmp 6) _ rfl w.heap.size 5 Tryz.underlying26 gK (.slice (some w.heap.size) 0 0) [] rfl HO.out (some ⟨b,o,none⟩) m c l rfl HL.out HA.out hmm hs ?_;intro v' w1 hO hg _)
 have HOO:Hid (Own 5 w1 w.heap.size v' l):=by unfold Hid;simpa using hO.out
 obtain⟨q,c',C,rfl,h1,h2,h3,h4,h5⟩:=DZ HOO.out HP.out
 have HB1:=hid (HB.grown hg hs (fun k hk=>by
  obtain rfl:w.heap.size=k:=by simpa[Value.ownBlock]using hk
  exact Nat.le_refl _))
 have H5:=hid h5;clear hO hg h5;rw[HL.out]at*;go_wp2_with fail
 go_ret
 exact⟨⟨q,c',C,rfl,h2,h3,h4,H5.out,h1⟩,HB1.out⟩
end Dv
end Go.Proofs.YtmcbidhpkpmalaaGreatDoor
namespace Go.Proofs.YtmcbidhpkpmalaaGreatDoor
open Go.RowKit
namespace So
open Mem Po
section
variable{w wr w':World}{g c n i j k:Nat}{l L:List Nat}
end
end So
namespace So
open Mem Po
end So
namespace Pq
open Mem Hp
def nV(x:Nat):Value:= .int .u32 (x:Int)
theorem D6(x:Int)(w:World):CW 213 #[.int .u32 x] w (.bool false):=by go_enter Tryz.func213,Tryz.ntmps213;go_wp2;go_ret;exact⟨by simp,rfl⟩
theorem Hg(x y:Nat)(w:World):CW 203 #[.int .u32 (x:Int),.int .u32 (y:Int)] w (.bool (decide (x<y))):=by have cN:=fun x=>Lib.hid (D6 x w);go_enter Tryz.func203,Tryz.ntmps203;go_wp2_with (go_at_call 213;refine(cN _).mono ?_;rintro e w' ⟨rfl,rfl⟩);(all_goals go_ret);all_goals exact⟨by simp_all,rfl⟩
theorem bI{x y:Nat}{t:Bool}(h:t=true↔x<y)(w:World):CW 203 #[.int .u32 (x:Int),.int .u32 (y:Int)] w (.bool t):=by (have e:decide (x<y)=t:=by cases t;(. simp only[Bool.false_eq_true,false_iff]at h;exact decide_eq_false h);. exact decide_eq_true (h.1 rfl));rw[<-e];exact Hg x y w
theorem iE(w:World)(m:Nat):Bw w (w.drewN m):=⟨rfl,rfl,rfl,Nat.le_refl _,fun _ _=>rfl⟩
structure US(w wr:World)(g c n:Nat)(l L:List Nat)(a b:Nat):Prop where
 ow:Ow 30 wr g c (L.map nV)
 mv:Mvd l L a b
 hi:Flow.Into [g] w wr
 le:l.length=n
section
variable{w wr w':World}{g c n i j a b:Nat}{l L:List Nat}
theorem US.start(h:Ow 30 w g c (l.map nV))(hl:l.length=n)(a b:Nat):US w w g c n l l a b:=⟨h,Mvd.refl _ _ _,Flow.Into.refl _ _,hl⟩
theorem US.len(h:US w wr g c n l L a b):L.length=n:=by rw[h.mv.len,h.le]
theorem US.kept(h:US w wr g c n l L a b)(hb:Bw wr w'):US w w' g c n l L a b:=⟨h.ow.kept hb,h.mv,h.hi.trans (Flow.Into.of_below hb),h.le⟩
theorem US.drew(h:US w wr g c n l L a b)(m:Nat):US w (wr.drewN m) g c n l L a b:=h.kept (iE wr m)
theorem US.cell(h:US w wr g c n l L a b)(hi:i<n):wr.cell? ⟨g,i,none⟩=some (.int .u32 ((gt L i:Nat):Int)):=by have hl:=h.len;rw[h.ow.cell (by rw[List.length_map,hl];exact hi)];simp[nV,gt,hl,hi]
theorem US.free(h:US w wr g c n l L a b)(i:Nat):wr.frozen? ⟨g,i,none⟩=false:=h.ow.free i
theorem US.swap(h:US w wr g c n l L a b)(hb:b<=n)(hi:a<=i)(hi2:i<b)(hj:a<=j)(hj2:j<b):US w ((wr.setCell ⟨g,i,none⟩ (.int .u32 ((gt L j:Nat):Int))).setCell ⟨g,j,none⟩ (.int .u32 ((gt L i:Nat):Int))) g c n l (swp L i j) a b:=by obtain⟨o1,i1⟩:=h.ow.set i (.int .u32 ((gt L j:Nat):Int));obtain⟨o2,i2⟩:=o1.set j (.int .u32 ((gt L i:Nat):Int));refine⟨?_,h.mv.swap (by rw[h.le];exact hb) hi hi2 hj hj2,(h.hi.trans i1).trans i2,h.le⟩;(have e:((L.map nV).set i (.int .u32 ((gt L j:Nat):Int))).set j (.int .u32 ((gt L i:Nat):Int))=(swp L i j).map nV:=by unfold swp;rw[List.map_set,List.map_set];rfl);rw[<-e];exact o2
theorem US.wide{a' b':Nat}(h:US w wr g c n l L a b)(ha:a'<=a)(hb:b<=b'):US w wr g c n l L a' b':=⟨h.ow,h.mv.mono ha hb,h.hi,h.le⟩
theorem US.then_{M:List Nat}{w2:World}{m:Nat}(h:US w wr g c n l L a b)(k:US wr w2 g c m L M a b):US w w2 g c n l M a b:=⟨k.ow,h.mv.trans k.mv,h.hi.trans k.hi,h.le⟩
end
end Pq
end Go.Proofs.YtmcbidhpkpmalaaGreatDoor
namespace Go.Proofs.YtmcbidhpkpmalaaGreatDoor
open Go.RowKit
open Go.Lib (hid)
namespace Pq
open Mem Hp
theorem um{w:World}{g c n a b:Nat}{l:List Nat}(h:Ow 30 w g c (l.map nV))(hl:l.length=n)(hab:a<=b)(hbn:b<=n)(hn:n<=1000):Calls Tryz.prog 197 #[.slice (some g) n c,(a:Int),(b:Int)] w fun e w'=>e=.returned (.tuple #[])/\∃L,US w w' g c n l L a b/\Adj L a b:=by (have H0:=hid (US.start h hl a b);have hw0:IntKind.i64.wrap ((a:Int)+1)=((a+1:Nat):Int):=by rw[IntKind.wrap_i64];omega);clear h hl;go_enter Tryz.func197,Tryz.ntmps197;go_wp2_with fail;go_loopg[6] (b-(a+1)) (fun gk iv wr=>∃(k:Nat) (L:List Nat),a+1<=k/\gk=b-k/\iv= .int .i64 (k:Int)/\Hid (k<=1001)/\Hid (US w wr g c n l L a b)/\Hid (Adj L a k));(case atStart=>exact⟨a+1,l,Nat.le_refl _,rfl,by go_num,hid (by omega),H0,fun i h1 h2=>by omega⟩);case round=>obtain⟨k,L,k0,rfl,rfl,K1,HO,HA⟩:=hrel;clear H0 hw0;by_cases hk:k<b;(. go_upto_block 1 with fail;go_cut[6] (fun iv wx=>iv= .int .i64 (k:Int)/\Hid (∃L,US w wx g c n l L a b/\Adj L a (k+1)));(case first=>obtain⟨wo,rfl⟩:=eX (wr:World);have HI:=hid (Ins.start HA.out);clear HA;go_wp2_with fail;go_loopg[7] k (fun gk jv wx=>∃(j:Nat) (L:List Nat),j<=k/\a<=j/\gk=j/\jv= .int .i64 (j:Int)/\Hid (US w wx g c n l L a b)/\Hid (Ins L a k j));(case atStart=>exact⟨k,L,Nat.le_refl _,by omega,rfl,rfl,HO,HI⟩);case round=>obtain⟨j,L,hj,haj,hgk,rfl,HS,HI⟩:=hrel;replace hgk:=hgk.symm;subst hgk;clear HO;obtain⟨wx,rfl⟩:=eX (wr:World);by_cases hja:j=a;(. have HZ:Hid (∃L,US w wx g c n l L a b/\Adj L a (k+1)):=⟨L,HS.out,HI.stop (.inl (by omega))⟩;subst hja;clear HS HI;go_upto_region 4 with fail;go_quiet (fail);go_wp2_with fail;go_meet;obtain⟨L,h1,h2⟩:=HZ.out;exact⟨rfl,L,h1.drew _,h2⟩);. obtain⟨k1,hk1⟩:∃k1,j=k1+1:=⟨j-1,by omega⟩;have hg0:a<j:=(by omega);have hjb:j<b:=(by omega);have hjn:j<n:=(by omega);have hkn:k1<n:=(by omega);have hak:a<=k1:=(by omega);have hkb:k1<b:=(by omega);have hw1:IntKind.i64.wrap ((j:Int)-1)=(k1:Int):=(by rw[IntKind.wrap_i64];omega);have hne:j≠k1:=(by omega);have hne':k1≠j:=(by omega);have HJ:=hid hk1;have d1:=HS.cell hjn;have d2:=HS.cell hkn;by_cases hxy:gt L j<gt L k1;(. have cL:=fun w=>hid (bI (t:=true) (x:=gt L j) (y:=gt L k1) (by simpa using hxy) w);(have HI2:Hid (Ins (swp L j k1) a k k1):=by have:=HI.out;subst hk1;exact this.step hak hj (by rw[HS.len];omega) hxy);clear hja hk1 hxy HI;go_upto_region 4 with fail;go_quiet ((go_at_call 203;exact Calls.quiet_of_same ((cL _).mono fun e w' ⟨he,hw⟩=>⟨he,hw.symm⟩)));go_upto_region 6 with fail;have HSq:=hid (HS.drew nq);clear HS d1 d2 cL;generalize wx.drewN nq=wx at*;have HS:=HSq;clear HSq;go_upto_region 6 with fail;have x0:=fun t:ah.aQ [] wx []=>ah.aQ.cell (HS.cell hjn) (by simp) t;have x1:=fun t:ah.aQ [] wx []=>ah.aQ.cell (HS.cell hkn) (by simp) t;refine ah.ay [] [(0,[]),(1,[]),(2,[]),(3,[]),(4,[]),(5,[]),(6,[]),(7,[]),(8,[]),(9,[]),(10,[]),(11,[]),(12,[]),(13,[]),(14,[])] [] [] [2,3,4] (by kernel_rfl) (by kernel_rfl) (by simp) ?_;simp only[ah.pick,ah.aM,ah.dL];(repeat (refine ah.ak (fun K hK=>?_);go_simp;(refine hK _ ?_;clear hK K)));refine ah.au rfl (.slice (some g) n c) (fun W=>by go_simp) ?_;refine ah.au rfl (.int .i64 (j:Int)) (fun W=>by go_simp) ?_;refine ah.au rfl (.int .i64 (k1:Int)) (fun W=>by go_simp) ?_;(repeat (refine ah.ak (fun K hK=>?_);go_simp;(refine hK _ ?_;clear hK K)));refine ah.walk_nil ?_;intro w6 hb6 _;clear x0 x1;have h6:=HS.kept hb6;have f:=h6.free;have e1:=h6.cell hjn;have e2:=h6.cell hkn;have H7:=hid (h6.swap hbn haj hjb hak hkb);clear h6 hb6 HS;simp only[lC,List.drop_zero,Nat.zero_add,Nat.reduceAdd];go_wp2_with fail;rw[Flow.aN];clear e1 e2 f;generalize (w6.setCell ⟨g,j,none⟩ (.int .u32 ((gt L k1:Nat):Int))).setCell ⟨g,k1,none⟩ (.int .u32 ((gt L j:Nat):Int))=w7 at*;go_wp2_with fail;go_roundg k1;(case measure=>have:=HJ.out;omega);case rel=>exact⟨k1,_,by have:=HJ.out;omega,by have:=HJ.out;omega,rfl,rfl,H7,HI2⟩);. have cL:=fun w=>hid (bI (t:=false) (x:=gt L j) (y:=gt L k1) (by simpa using hxy) w);have HZ:Hid (∃L,US w (wx.drewN 0) g c n l L a b/\Adj L a (k+1)):=⟨L,HS.drew 0,HI.stop (.inr (by rw[show j-1=k1 by omega];omega))⟩;clear hja hk1 hxy HI;go_upto_region 4 with fail;go_quiet ((go_at_call 203;exact Calls.quiet_of_same ((cL _).mono fun e w' ⟨he,hw⟩=>⟨he,hw.symm⟩)));go_wp2_with fail;go_meet;obtain⟨L,h1,h2⟩:=HZ.out;exact⟨rfl,L,(h1.drew _),h2⟩);case rest=>obtain⟨rfl,HC⟩:=hcut;obtain⟨L',h1,h2⟩:=HC.out;have HO2:=hid h1;have HA2:=hid h2;clear HC h1 h2 HO HA;have hw1:IntKind.i64.wrap ((k:Int)+1)=((k+1:Nat):Int):=(by rw[IntKind.wrap_i64];omega);go_wp2_with fail;go_roundg (b-(k+1));(case measure=>omega);case rel=>exact⟨k+1,L',by omega,rfl,by go_num,hid (by omega),HO2,HA2⟩);. have HE:Hid (Adj L a b):=fun i h1 h2=>HA.out i h1 (by omega);go_wp2_with fail;go_end0;exact⟨rfl,L,HO.out,HE.out⟩
end Pq
end Go.Proofs.YtmcbidhpkpmalaaGreatDoor
namespace Go.Proofs.YtmcbidhpkpmalaaGreatDoor
open Go.RowKit
open Go.Lib (hid)
open IntKind (wrap_i64)
namespace Pq
open Mem Hp
def gD(x y:Nat):Bool:=decide (y<x)
theorem D7:Hp.Ord gD:=⟨fun a b h=>by simp only[gD,decide_eq_true_eq,decide_eq_false_iff_not]at*;omega,fun a b c h1 h2=>by simp only[gD,decide_eq_false_iff_not]at*;omega⟩
theorem KZ(a:Nat):gD a a=false:=by simp[gD]
theorem zD{L:List Nat}{f i j:Nat}:(swp L (f+i) (f+j)).drop f=swp (L.drop f) i j:=by unfold swp;rw[iG,iG,List.drop_set,if_neg (by omega),List.drop_set,if_neg (by omega)];congr 2<;>omega
theorem jS{w:World}{g c n lo hi first:Nat}{l:List Nat}(h:Ow 30 w g c (l.map nV))(hl:l.length=n)(hbn:first+hi<=n)(hn:n<=1000)(hlo:lo<=1000)(hp:HpF gD (l.drop first) hi (lo+1)):Calls Tryz.prog 208 #[.slice (some g) n c,(lo:Int),(hi:Int),(first:Int)] w fun e w'=>e=.returned (.tuple #[])/\∃L,US w w' g c n l L first (first+hi)/\HpF gD (L.drop first) hi lo:=by have H0:=hid (US.start h hl first (first+hi));have HF:=hid hp.sf;clear h hl hp;go_enter Tryz.func208,Tryz.ntmps208;go_wp2_with fail;go_loopg[8] (1001-lo) (fun gk rv wr=>∃(root:Nat) (L:List Nat),root<=1000/\gk=1001-root/\rv= .int .i64 (root:Int)/\Hid (US w wr g c n l L first (first+hi))/\Hid (Sf gD (L.drop first) hi lo root));(case atStart=>exact⟨lo,l,hlo,rfl,rfl,H0,HF⟩);case round=>(obtain⟨root,L,hr,rfl,rfl,HS,HI⟩:=hrel;clear H0 HF;obtain⟨a2,ha2⟩:=eX (2*root);obtain⟨c0,hc0⟩:=eX (a2+1);obtain⟨c1,hc1⟩:=eX (c0+1);obtain⟨f0,hf0⟩:=eX (first+c0);obtain⟨f1,hf1⟩:=eX (f0+1);obtain⟨fr,Rq⟩:=eX (first+root);have hw1:IntKind.i64.wrap (2*(root:Int))=(a2:Int):=by rw[wrap_i64];omega);(have hw2:IntKind.i64.wrap ((a2:Int)+1)=(c0:Int):=by rw[wrap_i64];omega);by_cases hch:c0<hi;(case neg=>have hge:hi<=c0:=(by omega);(have HR:Hid (HpF gD (L.drop first) hi lo):=HI.stop fun j h1 h2 h3=>by omega);clear hch ha2 hc0 hc1 hf0 hf1 Rq;go_wp2_with fail;go_end0;exact⟨rfl,L,HS.out,HR.out⟩);(have hcn:¬(hi<=c0):=by omega);(have hw3:IntKind.i64.wrap ((c0:Int)+1)=(c1:Int):=by rw[wrap_i64];omega);(have hw4:IntKind.i64.wrap ((first:Int)+(c0:Int))=(f0:Int):=by rw[wrap_i64];omega);(have hw5:IntKind.i64.wrap ((f0:Int)+1)=(f1:Int):=by rw[wrap_i64];omega);(have hw6:IntKind.i64.wrap ((first:Int)+(root:Int))=(fr:Int):=by rw[wrap_i64];omega);(have Rs:f0<n:=by omega);(have hfr:fr<n:=by omega);(have hr1:first<=fr:=by omega);(have hr2:fr<first+hi:=by omega);have HA:=hid (show c0=2*root+1/\c1=2*root+2/\f0=first+c0/\f1=first+c1/\fr=first+root by omega);obtain⟨wx,rfl⟩:=eX (wr:World);clear ha2 hc0 hc1 hf0 hf1 Rq;go_upto_region 3 with fail;clear hcn;go_cut[36] (fun tv wy=>∃t:Bool,tv= .bool t/\Hid (t=true↔c1<hi/\gt L f0<gt L f1)/\Hid (US w wy g c n l L first (first+hi)));(case first=>by_cases h1:c1<hi;(. (have SF:f1<n:=by have:=HA.out;omega);obtain⟨t,ht⟩:∃t:Bool,t=true↔gt L f0<gt L f1:=⟨decide (gt L f0<gt L f1),by simp⟩;have cL:=fun w=>hid (bI ht w);have HT:Hid (t=true↔c1<hi/\gt L f0<gt L f1):=ht.trans ⟨fun h=>⟨h1,h⟩,fun h=>h.2⟩;have d1:=HS.cell Rs;have d2:=HS.cell SF;clear ht;go_quiet ((go_at_call 203;exact Calls.quiet_of_same ((cL _).mono fun e w' ⟨he,hw⟩=>⟨he,hw.symm⟩)));go_wp2_with fail;go_meet;exact⟨t,rfl,HT,HS.drew _⟩);. have HT:Hid (false=true↔c1<hi/\gt L f0<gt L f1):=⟨(fun h=>by cases h),fun h=>absurd h.1 h1⟩;(have h1':decide (c1<hi)=false:=by simp;omega);go_quiet (fail);go_wp2_with fail;go_meet;exact⟨false,rfl,HT,HS.drew _⟩);case rest=>obtain⟨t,rfl,HT,HS2⟩:=hcut;clear HS;go_upto_if 36 with fail;go_cut[9] (fun jv wy=>∃j:Nat,jv= .int .i64 (j:Int)/\Hid (0<j/\j<hi/\(j-1) / 2=root/\∀q,0<q->q<hi->(q-1) / 2=root->gt L (first+q)<=gt L (first+j))/\Hid (US w wy g c n l L first (first+hi)));(case first=>cases t with|true=>(have HJ:Hid (0<c1/\c1<hi/\(c1-1) / 2=root/\∀q,0<q->q<hi->(q-1) / 2=root->gt L (first+q)<=gt L (first+c1)):=by obtain⟨h2,h3⟩:=HT.1 rfl;have:=HA.out;refine⟨by omega,h2,by omega,fun q h4 h5 h6=>?_⟩;rcases(show q=c0\/q=c1 by omega)with e|e;(. rw[e,<-this.2.2.1,<-this.2.2.2.1];exact Nat.le_of_lt h3);. rw[e];exact Nat.le_refl _);clear HT;go_wp2_with fail;go_meet;exact⟨c1,rfl,HJ,HS2⟩|false=>(have HJ:Hid (0<c0/\c0<hi/\(c0-1) / 2=root/\∀q,0<q->q<hi->(q-1) / 2=root->gt L (first+q)<=gt L (first+c0)):=by have:=HA.out;refine⟨by omega,hch,by omega,fun q h4 h5 h6=>?_⟩;rcases(show q=c0\/q=c1 by omega)with e|e;(. rw[e];exact Nat.le_refl _);. (have h7:¬(gt L f0<gt L f1):=fun h8=>by have:=HT.2 ⟨by omega,h8⟩;cases this);rw[e,<-this.2.2.1,<-this.2.2.2.1];omega);clear HT;go_wp2_with fail;go_meet;exact⟨c0,rfl,HJ,HS2⟩);case rest=>(obtain⟨j,rfl,HJ,HS⟩:=hcut;clear HS2 HT hw1 hw2 hw3 hw4 hw5;obtain⟨fj,Rt⟩:=eX (first+j);have hjb:=HJ.out;have hw7:IntKind.i64.wrap ((first:Int)+(j:Int))=(fj:Int):=by rw[wrap_i64];omega);(have hfj:fj<n:=by omega);(have hj1:first<=fj:=by omega);(have hj2:fj<first+hi:=by omega);(have hj3:j<=1000:=by omega);(have hjr:root<j:=by omega);(have hne:fr≠fj:=by have:=HA.out;omega);(have hne':fj≠fr:=by omega);have HE:=hid (show fr=first+root/\fj=first+j from⟨HA.2.2.2.2,Rt⟩);(have HC:Hid (∀q,0<q->q<hi->(q-1) / 2=root->gD (gt (L.drop first) q) (gt (L.drop first) j)=false):=fun q h1 h2 h3=>by have:=hjb.2.2.2 q h1 h2 h3;simp only[gD,iG,decide_eq_false_iff_not];omega);have HB2:=hid (show 0<j/\j<hi/\(j-1) / 2=root from⟨hjb.1,hjb.2.1,hjb.2.2.1⟩);clear hjb Rt HJ hch Rs HA;have d1:=HS.cell hfr;have d2:=HS.cell hfj;by_cases hxy:gt L fr<gt L fj;(. have cL:=fun w=>hid (bI (t:=true) (x:=gt L fr) (y:=gt L fj) (by simpa using hxy) w);(have HI2:Hid (Sf gD ((swp L fr fj).drop first) hi lo j):=by have h1:=HE.out;rw[h1.1,h1.2,zD];refine HI.step D7 ?_ HB2.1 HB2.2.1 HB2.2.2 ?_ HC.out;(. rw[List.length_drop,HS.len];omega);. simp only[gD,iG,decide_eq_true_eq];rw[<-h1.1,<-h1.2];exact hxy);clear hxy HI HC HB2 HE;go_upto_region 5 with fail;go_quiet ((go_at_call 203;exact Calls.quiet_of_same ((cL _).mono fun e w' ⟨he,hw⟩=>⟨he,hw.symm⟩)));go_upto_region 6 with fail;have HSq:=hid (HS.drew nq);clear HS d1 d2 cL;generalize wc.drewN nq=wc at*;have HS:=HSq;clear HSq;go_upto_region 6 with fail;have x0:=fun t:ah.aQ [] wc []=>ah.aQ.cell (HS.cell hfr) (by simp) t;have x1:=fun t:ah.aQ [] wc []=>ah.aQ.cell (HS.cell hfj) (by simp) t;refine ah.ay [] [(0,[]),(1,[]),(2,[]),(3,[]),(4,[]),(5,[]),(6,[]),(7,[]),(8,[]),(9,[]),(10,[]),(11,[]),(12,[]),(13,[]),(14,[]),(15,[]),(16,[]),(17,[]),(18,[]),(19,[]),(20,[])] [] [] [4,5,6,7] (by kernel_rfl) (by kernel_rfl) (by simp) ?_;simp only[ah.pick,ah.aM,ah.dL];(repeat (refine ah.ak (fun K hK=>?_);go_simp;(refine hK _ ?_;clear hK K)));refine ah.au rfl (.slice (some g) n c) (fun W=>by go_simp) ?_;refine ah.au rfl (.int .i64 (first:Int)) (fun W=>by go_simp) ?_;refine ah.au rfl (.int .i64 (j:Int)) (fun W=>by go_simp) ?_;refine ah.au rfl (.int .i64 (fj:Int)) (fun W=>by go_simp) ?_;(repeat (refine ah.ak (fun K hK=>?_);go_simp;(refine hK _ ?_;clear hK K)));refine ah.walk_nil ?_;intro w6 hb6 _;clear x0 x1;have h6:=HS.kept hb6;have f:=h6.free;have e1:=h6.cell hfr;have e2:=h6.cell hfj;have H7:=hid (h6.swap hbn hr1 hr2 hj1 hj2);clear h6 hb6 HS;simp only[lC,List.drop_zero,Nat.zero_add,Nat.reduceAdd];go_wp2_with fail;rw[Flow.aN];clear e1 e2 f;generalize (w6.setCell ⟨g,fr,none⟩ (.int .u32 ((gt L fj:Nat):Int))).setCell ⟨g,fj,none⟩ (.int .u32 ((gt L fr:Nat):Int))=w7 at*;go_wp2_with fail;go_roundg (1001-j);(case measure=>omega);case rel=>exact⟨j,_,hj3,rfl,rfl,H7,HI2⟩);. have cL:=fun w=>hid (bI (t:=false) (x:=gt L fr) (y:=gt L fj) (by simpa using hxy) w);(have HR:Hid (HpF gD (L.drop first) hi lo):=HI.stop fun q h1 h2 h3=>by refine D7.trans _ _ _ ?_ (HC.out q h1 h2 h3);simp only[gD,iG,decide_eq_false_iff_not];rw[<-HE.1,<-HE.2];omega);clear hxy HI HC HB2 HE;go_upto_region 5 with fail;go_quiet ((go_at_call 203;exact Calls.quiet_of_same ((cL _).mono fun e w' ⟨he,hw⟩=>⟨he,hw.symm⟩)));go_wp2_with fail;exact bodyPost_ret (results_none rfl _ _ _) rfl ⟨rfl,L,HS.drew _,HR.out⟩
end Pq
end Go.Proofs.YtmcbidhpkpmalaaGreatDoor
namespace Go.Proofs.YtmcbidhpkpmalaaGreatDoor
open Go.RowKit
open Go.Lib (hid)
open ah.aQ (cell)
open IntKind (wrap_i64)
namespace Pq
open Mem Hp
def vR(L:List Nat)(a j b:Nat):Prop:=∀p q,a<=p->p<q->a+j<=q->q<b->gt L p<=gt L q
theorem D8{L L2:List Nat}{a i b:Nat}(hT:vR L a (i+1) b)(hH:HpF gD (L.drop a) (i+1) 0)(hib:a+i<b)(hb:b<=L.length)(hM:Mvd (swp L a (a+i)) L2 a (a+i)):vR L2 a i b:=by have G:=jH (l:=L) (i:=a) (j:=a+i) (by omega) (by omega);(have hroot:∀q,q<i+1->gt L (a+q)<=gt L a:=fun q hq=>by have:=hH.root D7 KZ (i+1) q hq hq;simp only[gD,iG,decide_eq_false_iff_not,Nat.add_zero]at this;omega);(have hin:∀p,a<=p->p<a+i->∃p2,a<=p2/\p2<a+(i+1)/\gt L2 p=gt L p2:=fun p h1 h2=>by obtain⟨p',h3,h4,e⟩:=hM.ex (by rw[Ki];omega) h1 h2;rw[e,G];by_cases e1:p'=a+i;(. exact⟨a,Nat.le_refl _,by omega,by rw[if_pos e1]⟩);. rw[if_neg e1];by_cases e2:p'=a;(. exact⟨a+i,by omega,by omega,by rw[if_pos e2]⟩);. exact⟨p',h3,by omega,by rw[if_neg e2]⟩);(have hout:∀q,a+i<=q->gt L2 q=if q=a+i then gt L a else if q=a then gt L (a+i)else gt L q:=fun q h1=>by rw[hM.out q (.inr h1),G]);intro p q h1 h2 h3 h4;rw[hout q h3];by_cases eq:q=a+i;(. rw[if_pos eq];obtain⟨p2,g1,g2,e⟩:=hin p h1 (by omega);rw[e];have:=hroot (p2-a) (by omega);rwa [show a+(p2-a)=p2 by omega]at this);. rw[if_neg eq,if_neg (by omega)];by_cases hp:p<a+i;(. obtain⟨p2,g1,g2,e⟩:=hin p h1 hp;rw[e];exact hT p2 q g1 (by omega) (by omega) h4);. rw[hout p (by omega)];by_cases ep:p=a+i;(. rw[if_pos ep];exact hT a q (Nat.le_refl _) (by omega) (by omega) h4);. rw[if_neg ep,if_neg (by omega)];exact hT p q h1 h2 (by omega) h4
theorem vS{w:World}{g c n a b:Nat}{l:List Nat}(h:Ow 30 w g c (l.map nV))(hl:l.length=n)(Ru:a<=b)(hbn:b<=n)(hn:n<=1000):Calls Tryz.prog 198 #[.slice (some g) n c,(a:Int),(b:Int)] w fun e w'=>e=.returned (.tuple #[])/\∃L,US w w' g c n l L a b/\Adj L a b:=by (obtain⟨hi,hhi⟩:=eX (b-a);have Rv:a+hi=b:=by omega);(obtain⟨q0,hq0⟩:=eX ((hi-1) / 2);obtain⟨z1,hz1⟩:=eX ((hi:Int)-1:Int);have hw1:IntKind.i64.wrap ((b:Int)-(a:Int))=(hi:Int):=by rw[wrap_i64];omega);(have hw2:IntKind.i64.wrap ((hi:Int)-1)=z1:=by rw[wrap_i64];omega);(have hw3:z1.tdiv 2=(q0:Int):=by rcases Nat.eq_zero_or_pos hi with h0|h0;(. rw[hz1,h0,hq0,h0];rfl);. rw[Int.tdiv_eq_ediv_of_nonneg (by omega)];omega);(have hw4:IntKind.i64.wrap (q0:Int)=(q0:Int):=by rw[wrap_i64];omega);(have hq1:q0+1<=1000:=by omega);(have HF:Hid (US w w g c n l l a b/\HpF gD (l.drop a) hi (q0+1)):=⟨US.start h hl a b,fun j h1 h2 h3=>by omega⟩;have HZ:=hid hz1;have HIB:=hid Rv;have SG:a+hi<=n:=by omega);clear h hl hq0 hz1 hhi Rv;go_enter Tryz.func198,Tryz.ntmps198;go_upto_block 0 with fail;clear hw1 hw2 hw3 hw4;go_cut[9] (fun iv wx=>(∃z:Int,iv= .int .i64 z)/\Hid (∃L,US w wx g c n l L a b/\HpF gD (L.drop a) hi 0));(case first=>go_wp2_with fail;go_loopg[9] (q0+1) (fun gk zv wr=>∃(j:Nat) (z:Int),j<=1000/\gk=j/\zv= .int .i64 z/\Hid (z+1=(j:Int))/\Hid (∃L,US w wr g c n l L a b/\HpF gD (L.drop a) hi j));(case atStart=>exact⟨q0+1,(q0:Int),hq1,rfl,rfl,hid (by omega),l,HF.out⟩);case round=>obtain⟨j,z,hj,rfl,rfl,HZ2,HI⟩:=hrel;clear HF;rcases Nat.eq_zero_or_pos gk with rfl|h0;(. (obtain rfl:z= -1:=by have:=HZ2.out;omega);go_wp2_with fail;go_meet;exact⟨⟨_,rfl⟩,HI⟩);. obtain⟨i,hi2⟩:∃i,gk=i+1:=⟨gk-1,by omega⟩;(obtain rfl:z=(i:Int):=by have:=HZ2.out;omega);have hwi:IntKind.i64.wrap ((i:Int)-1)=(i:Int)-1:=(by rw[wrap_i64];omega);obtain⟨L,h1,h2⟩:=HI.out;rw[hi2]at h2;have cD:=hid (jS (first:=a) (hi:=hi) (lo:=i) h1.ow h1.len SG hn (by omega) h2);have H1:=hid h1;have hii:i<gk:=(by omega);clear h1 h2 HI HZ2 hi2;go_wp2_with (go_at_call 208;refine cD.mono ?_;rintro e w8 ⟨rfl,L2,h1,h2⟩);have HE:Hid (∃L,US w w8 g c n l L a b/\HpF gD (L.drop a) hi i):=⟨L2,H1.then_ (h1.wide (Nat.le_refl _) (by rw[HIB.out];exact Nat.le_refl _)),h2⟩;clear h1 h2 cD H1;go_wp2_with fail;go_roundg i;(case measure=>omega);case rel=>exact⟨i,(i:Int)-1,by omega,rfl,rfl,hid (by omega),HE⟩);case rest=>(obtain⟨⟨zz,rfl⟩,HC⟩:=hcut;clear HF;have hw2:IntKind.i64.wrap ((hi:Int)-1)=z1:=by rw[wrap_i64,HZ.out];have:=HIB.out;omega);(have HS0:Hid (∃L,US w wc g c n l L a b/\HpF gD (L.drop a) hi 0/\vR L a hi b):=by obtain⟨L,h1,h2⟩:=HC.out;exact⟨L,h1,h2,fun p q h3 h4 h5 h6=>by have:=HIB.out;omega⟩);(have hin:hi<=1000:=by omega);clear HC hq1;go_upto_block 2 with fail;clear hw2;go_wp2_with fail;go_loopg[10] hi (fun gk zv wr=>∃(j:Nat) (z:Int),j<=hi/\gk=j/\zv= .int .i64 z/\Hid (z+1=(j:Int))/\Hid (∃L,US w wr g c n l L a b/\HpF gD (L.drop a) j 0/\vR L a j b));(case atStart=>exact⟨hi,z1,Nat.le_refl _,rfl,rfl,hid (by rw[HZ.out];omega),HS0⟩);case round=>obtain⟨j,z,hj,rfl,rfl,HZ2,HI⟩:=hrel;clear HS0;rcases Nat.eq_zero_or_pos gk with rfl|h0;(. (obtain rfl:z= -1:=by have:=HZ2.out;omega);(have HE:Hid (∃L,US w wr g c n l L a b/\Adj L a b):=by obtain⟨L,h1,h2,h3⟩:=HI.out;exact⟨L,h1,fun i h4 h5=>h3 (i-1) i (by omega) (by omega) (by omega) h5⟩);clear HI HZ2;go_wp2_with fail;go_end0;exact⟨rfl,HE.out⟩);. obtain⟨i,hi2⟩:∃i,gk=i+1:=⟨gk-1,by omega⟩;(obtain rfl:z=(i:Int):=by have:=HZ2.out;omega);obtain⟨L,h1,h2,h3⟩:=HI.out;rw[hi2]at h2 h3;have HS:=hid h1;have hii:i<gk:=(by omega);have SH:a+i<b:=(by have:=HIB.out;omega);have hab:a<b:=(by omega);have han:a<n:=(by omega);have hib:a+i<=n:=(by omega);have Qr:a+i<=b:=(by omega);have HTS:Hid (∀L2,Mvd (swp L a (a+i)) L2 a (a+i)->vR L2 a i b):=fun L2 hM=>D8 h3 h2 SH (by rw[h1.len];exact hbn) hM;(have HD:Hid (HpF gD ((swp L a (a+i)).drop a) i (0+1)):=by have:=HpF.Gw (lt:=gD) (l:=L.drop a) (n:=i) h2 (by rw[List.length_drop,h1.len];omega);rw[<-zD,Nat.add_zero]at this;exact this);have hwi:IntKind.i64.wrap ((i:Int)-1)=(i:Int)-1:=(by rw[wrap_i64];omega);by_cases hi0:i=0;(. subst hi0;rw[Nat.add_zero]at HD HTS hib Qr;have hw5:IntKind.i64.wrap ((a:Int)+((0:Nat):Int))=(a:Int):=(by rw[wrap_i64];omega);have hw6:IntKind.i64.wrap (a:Int)=(a:Int):=(by rw[wrap_i64];omega);clear h1 h2 h3 HI HZ2 hi2;go_upto_region 10 with fail;have x0:=fun t:ah.aQ [] wr []=>cell (HS.cell han) (by simp) t;have x1:=fun t:ah.aQ [] wr []=>cell (HS.cell han) (by simp) t;refine ah.ay [] [(0,[]),(1,[]),(2,[]),(3,[]),(4,[]),(5,[]),(6,[]),(7,[]),(8,[]),(9,[]),(10,[]),(11,[]),(12,[]),(13,[]),(14,[]),(15,[]),(16,[])] [] [] [2,3,4,5] (by kernel_rfl) (by kernel_rfl) (by simp) ?_;simp only[ah.pick,ah.aM,ah.dL];(repeat (refine ah.ak (fun K hK=>?_);go_simp;(refine hK _ ?_;clear hK K)));refine ah.au rfl (.slice (some g) n c) (fun W=>by go_simp) ?_;refine ah.au rfl (.int .i64 (a:Int)) (fun W=>by go_simp) ?_;refine ah.au rfl (.int .i64 0) (fun W=>by go_simp) ?_;refine ah.au rfl (.int .i64 (a:Int)) (fun W=>by go_simp) ?_;(repeat (refine ah.ak (fun K hK=>?_);go_simp;(refine hK _ ?_;clear hK K)));refine ah.walk_nil ?_;intro w6 hb6 _;clear x0 x1;have h6:=HS.kept hb6;have f:=h6.free;have e1:=h6.cell han;have e2:=h6.cell han;have H7:=hid (h6.swap hbn (Nat.le_refl a) hab (Nat.le_refl a) hab);clear h6 hb6 HS;simp only[lC,List.drop_zero,Nat.zero_add,Nat.reduceAdd];go_wp2_with fail;rw[Flow.aN];clear e1 e2 f;generalize (w6.setCell ⟨g,a,none⟩ (.int .u32 ((gt L a:Nat):Int))).setCell ⟨g,a,none⟩ (.int .u32 ((gt L a:Nat):Int))=w7 at*;have cD:=hid (jS (first:=a) (hi:=0) (lo:=0) H7.ow H7.len hib hn (by omega) HD.out);go_wp2_with (go_at_call 208;refine cD.mono ?_;rintro e w8 ⟨rfl,L2,h1,h2⟩);have HE:Hid (∃L,US w w8 g c n l L a b/\HpF gD (L.drop a) 0 0/\vR L a 0 b):=⟨L2,H7.then_ (h1.wide (Nat.le_refl _) Qr),h2,HTS.out _ h1.mv⟩;clear h1 h2 cD H7;go_wp2_with fail;go_roundg 0;(case measure=>omega);case rel=>exact⟨0,-1,by omega,rfl,by go_num,hid (by omega),HE⟩);. obtain⟨fi,hfi⟩:=eX (a+i);have Rx:Hid (∀L2,Mvd (swp L a fi) L2 a (a+i)->vR L2 a i b):=(by rw[hfi];exact HTS);rw[<-hfi]at HD;clear HTS;have HTS:=Rx;clear Rx;have hfn:fi<n:=(by omega);have hf1:a<=fi:=(by omega);have hf2:fi<b:=(by omega);have hne:a≠fi:=(by omega);have hne':fi≠a:=(by omega);have hw5:IntKind.i64.wrap ((a:Int)+(i:Int))=(fi:Int):=(by rw[wrap_i64];omega);clear h1 h2 h3 HI HZ2 hi2 hfi hi0;go_upto_region 10 with fail;have x0:=fun t:ah.aQ [] wr []=>cell (HS.cell han) (by simp) t;have x1:=fun t:ah.aQ [] wr []=>cell (HS.cell hfn) (by simp) t;refine ah.ay [] [(0,[]),(1,[]),(2,[]),(3,[]),(4,[]),(5,[]),(6,[]),(7,[]),(8,[]),(9,[]),(10,[]),(11,[]),(12,[]),(13,[]),(14,[]),(15,[]),(16,[])] [] [] [2,3,4,5] (by kernel_rfl) (by kernel_rfl) (by simp) ?_;simp only[ah.pick,ah.aM,ah.dL];(repeat (refine ah.ak (fun K hK=>?_);go_simp;(refine hK _ ?_;clear hK K)));refine ah.au rfl (.slice (some g) n c) (fun W=>by go_simp) ?_;refine ah.au rfl (.int .i64 (a:Int)) (fun W=>by go_simp) ?_;refine ah.au rfl (.int .i64 (i:Int)) (fun W=>by go_simp) ?_;refine ah.au rfl (.int .i64 (fi:Int)) (fun W=>by go_simp) ?_;(repeat (refine ah.ak (fun K hK=>?_);go_simp;(refine hK _ ?_;clear hK K)));refine ah.walk_nil ?_;intro w6 hb6 _;clear x0 x1;have h6:=HS.kept hb6;have f:=h6.free;have e1:=h6.cell han;have e2:=h6.cell hfn;have H7:=hid (h6.swap hbn (Nat.le_refl a) hab hf1 hf2);clear h6 hb6 HS;simp only[lC,List.drop_zero,Nat.zero_add,Nat.reduceAdd];go_wp2_with fail;rw[Flow.aN];clear e1 e2 f;generalize (w6.setCell ⟨g,a,none⟩ (.int .u32 ((gt L fi:Nat):Int))).setCell ⟨g,fi,none⟩ (.int .u32 ((gt L a:Nat):Int))=w7 at*;have cD:=hid (jS (first:=a) (hi:=i) (lo:=0) H7.ow H7.len hib hn (by omega) HD.out);go_wp2_with (go_at_call 208;refine cD.mono ?_;rintro e w8 ⟨rfl,L2,h1,h2⟩);have HE:Hid (∃L,US w w8 g c n l L a b/\HpF gD (L.drop a) i 0/\vR L a i b):=⟨L2,H7.then_ (h1.wide (Nat.le_refl _) Qr),h2,HTS.out _ h1.mv⟩;clear h1 h2 cD H7;go_wp2_with fail;go_roundg i;(case measure=>omega);case rel=>exact⟨i,(i:Int)-1,by omega,rfl,rfl,hid (by omega),HE⟩
end Pq
end Go.Proofs.YtmcbidhpkpmalaaGreatDoor
namespace Go.Proofs.YtmcbidhpkpmalaaGreatDoor
open Go.RowKit
open Go.Lib (hid)
open ah (dL)
open ah.aQ (cell)
open IntKind (wrap_i64)
namespace Pq
open Mem Hp
structure Peq(p:Nat)(l:List Nat)(a b i j:Nat):Prop extends Pe l a b i j where
 at_:gt l a=p
section
variable{l:List Nat}{p a b i j:Nat}
theorem Peq.up(h:Peq p l a b i j)(hij:i<=j)(hx:gt l i<=gt l a):Peq p l a b (i+1) j:=⟨h.toPe.up hij hx,h.at_⟩
theorem Peq.down(h:Peq p l a b i (j+1))(hij:i<=j+1)(hx:gt l a<gt l (j+1)):Peq p l a b i j:=⟨h.toPe.down hij hx,h.at_⟩
theorem Peq.swap(h:Peq p l a b i (j+1))(hij:i<=j+1)(hb:b<=l.length)(hx:¬gt l i<=gt l a)(hy:¬gt l a<gt l (j+1)):Peq p (Hp.swp l i (j+1)) a b (i+1) j:=⟨h.toPe.swap hij hb hx hy,by have h1:=h.ai;have h2:=h.jb;rw[jH (by omega) (by omega),if_neg (by omega),if_neg (by omega)];exact h.at_⟩
end
structure uo(l L:List Nat)(a b pv m:Nat):Prop where
 am:a<m
 mb:m<=b
 at_:gt L a=gt l pv
 lo:∀k,a<=k->k<m->gt L k<=gt L a
 hi:∀k,m<=k->k<b->gt L a<gt L k
theorem Bb{w:World}{g c n a b pv:Nat}{l:List Nat}(h:Ow 30 w g c (l.map nV))(hl:l.length=n)(hap:a<=pv)(Qs:pv<b)(hbn:b<=n)(hn:n<=1000):Calls Tryz.prog 204 #[.slice (some g) n c,(a:Int),(b:Int),(pv:Int)] w fun e w'=>∃(m:Nat),e=.returned (m:Int)/\∃L,US w w' g c n l L a b/\uo l L a b pv m:=by
 have hab:a<b:=by omega
 have han:a<n:=by omega
 obtain⟨b1,hb1⟩:∃b1,b=b1+1:=⟨b-1,by omega⟩
 have HS:Hid (US w w g c n l l a b):=US.start h hl a b;have hpn:=han;have hqn:pv<n:=by omega
 have hpa:=Nat.le_refl a;have hpb:=hab;have hqa:=hap;have hqb:=Qs;have HB:=hid hb1;obtain⟨L,hL⟩:=eX l;obtain⟨p,hp⟩:=eX (gt l pv);have HPE:Hid (gt l pv=p):=hp.symm
 have HPP:Hid (gt (swp L a pv) a=p):=by
  unfold Hid;rw[hL,jH (by omega) (by omega),hp];by_cases e:a=pv
  . rw[if_pos e,e]
  . rw[if_neg e,if_pos rfl]
 have HS1:Hid (US w w g c n l L a b):=by rw[hL];exact HS.out
 clear h hl hb1 HS hL hp;have HS:=HS1;clear HS1;go_enter Tryz.func204,Tryz.ntmps204
 go_upto_region 1 with fail
 go_cut[11] (fun sv wx=>sv=(.slice (some g) n c)/\(∃L,Hid (US w wx g c n l L a b)/\Hid (gt L a=p)))
 case first=>
  by_cases hpq:a=pv
  . subst hpq
    go_upto_region 1 with fail
    have x0:=fun t:ah.aQ [] w []=>cell (HS.cell hpn) (by simp) t;have x1:=fun t:ah.aQ [] w []=>cell (HS.cell hpn) (by simp) t;refine ah.ay [] [(0,[]),(1,[]),(2,[]),(3,[]),(4,[]),(5,[]),(6,[]),(7,[]),(8,[]),(9,[]),(10,[]),(11,[]),(12,[])] [] [] [2,3] (by kernel_rfl) (by kernel_rfl) (by simp) ?_;simp only[ah.pick,ah.aM,dL]
    repeat (refine ah.ak (fun K hK=>?_);go_simp;(refine hK _ ?_;clear hK K))
    refine ah.au rfl (.slice (some g) n c) (fun W=>by go_simp) ?_;refine ah.au rfl (.int .i64 (a:Int)) (fun W=>by go_simp) ?_
    repeat (refine ah.ak (fun K hK=>?_);go_simp;(refine hK _ ?_;clear hK K))
    refine ah.walk_nil ?_;intro w6 hb6 _;clear x0 x1;have h6:=HS.kept hb6;have f:=h6.free;have e1:=h6.cell hpn;have e2:=h6.cell hpn;have H7:=hid (h6.swap hbn hpa hpb hpa hpb);clear h6 hb6 HS;simp only[lC,List.drop_zero,Nat.zero_add,Nat.reduceAdd];go_wp2_with fail
    (try rw[Flow.aN]);clear e1 e2 f;generalize (w6.setCell ⟨g,a,none⟩ (.int .u32 ((gt L a:Nat):Int))).setCell ⟨g,a,none⟩ (.int .u32 ((gt L a:Nat):Int))=w7 at*;(try go_wp2_with fail);go_meet
    exact⟨rfl,_,H7,HPP⟩
  . have hne:a≠pv:=hpq
    have hne':pv≠a:=fun e=>hpq e.symm;go_upto_region 1 with fail
    have x0:=fun t:ah.aQ [] w []=>cell (HS.cell hpn) (by simp) t;have x1:=fun t:ah.aQ [] w []=>cell (HS.cell hqn) (by simp) t;refine ah.ay [] [(0,[]),(1,[]),(2,[]),(3,[]),(4,[]),(5,[]),(6,[]),(7,[]),(8,[]),(9,[]),(10,[]),(11,[]),(12,[])] [] [] [2,3] (by kernel_rfl) (by kernel_rfl) (by simp) ?_;simp only[ah.pick,ah.aM,dL]
    repeat (refine ah.ak (fun K hK=>?_);go_simp;(refine hK _ ?_;clear hK K))
    refine ah.au rfl (.slice (some g) n c) (fun W=>by go_simp) ?_;refine ah.au rfl (.int .i64 (pv:Int)) (fun W=>by go_simp) ?_
    repeat (refine ah.ak (fun K hK=>?_);go_simp;(refine hK _ ?_;clear hK K))
    refine ah.walk_nil ?_;intro w6 hb6 _;clear x0 x1;have h6:=HS.kept hb6;have f:=h6.free;have e1:=h6.cell hpn;have e2:=h6.cell hqn;have H7:=hid (h6.swap hbn hpa hpb hqa hqb);clear h6 hb6 HS;simp only[lC,List.drop_zero,Nat.zero_add,Nat.reduceAdd];go_wp2_with fail
    (try rw[Flow.aN]);clear e1 e2 f;generalize (w6.setCell ⟨g,a,none⟩ (.int .u32 ((gt L pv:Nat):Int))).setCell ⟨g,pv,none⟩ (.int .u32 ((gt L a:Nat):Int))=w7 at*;(try go_wp2_with fail);go_meet
    exact⟨rfl,_,H7,HPP⟩
 case rest=>
 obtain⟨-,HC⟩:=hcut;clear HS HPP L;obtain⟨L,HS,HPP⟩:=HC;obtain⟨i,hi⟩:=eX (a+1);obtain⟨j,hj⟩:=eX b1;have hwi:IntKind.i64.wrap ((a:Int)+1)=(i:Int):=by rw[wrap_i64];omega
 have hwj:IntKind.i64.wrap ((b:Int)-1)=(j:Int):=by rw[wrap_i64];have:=HB.out;omega
 have HP:Hid (Peq p L a b i j):=by
  have:=HB.out;exact⟨⟨by omega,by omega,by omega,fun k h1 h2=>by rw[show k=a by omega];exact Nat.le_refl _,fun k h1 h2=>by omega⟩,HPP.out⟩
 have hin:i<=n:=by omega
 clear hi hj HB hpn hqn hpa hpb hqa hqb HPP;go_upto_block 0 with fail
 clear hwi hwj
 go_cut[9] (fun iv wx=>∃(i j:Nat) (L:List Nat),iv= .int .i64 (i:Int)/\Hid (j<i)/\Hid (US w wx g c n l L a b)/\Hid (Peq p L a b i j))
 case first=>
  go_wp2_with fail
  go_loopg[9,10] (j+1-i) (fun gk iv jv wr=>∃(i j:Nat) (L:List Nat),gk=j+1-i/\iv= .int .i64 (i:Int)/\jv= .int .i64 (j:Int)/\i<=n/\Hid (US w wr g c n l L a b)/\Hid (Peq p L a b i j))
  case atStart=>exact⟨i,j,_,rfl,rfl,rfl,hin,HS,HP⟩
  case round=>
   clear HS HP hin;obtain⟨i0,j0,L0,rfl,rfl,rfl,hin,HS,HP⟩:=hrel;obtain⟨i,rfl⟩:=eX i0;obtain⟨j,rfl⟩:=eX j0;obtain⟨L,rfl⟩:=eX L0;obtain⟨mm,hmm⟩:=eX (j+1-i);have HM:Hid (j+1-i<=mm):=(by unfold Hid;omega);have HMM:=hid hmm;clear hmm;obtain⟨io,hio⟩:=eX i;have hile:io<=i:=(by omega);have HMo:Hid (j+1-io<=mm):=(by rw[hio];exact HM.out);clear HM;clear hio;go_upto_block 2 with fail
   go_cut[9] (fun iv wx=>∃i:Nat,iv= .int .i64 (i:Int)/\io<=i/\i<=n/\Hid (US w wx g c n l L a b)/\Hid (Peq p L a b i j)/\Hid (i<=j->¬gt L i<=gt L a))
   case first=>
    have HS0:=HS;have HP0:=HP;clear HS HP;go_wp2_with fail
    go_loopg[9] (j+1-i) (fun gk iv wr=>∃i:Nat,gk=j+1-i/\iv= .int .i64 (i:Int)/\io<=i/\i<=n/\Hid (US w wr g c n l L a b)/\Hid (Peq p L a b i j))
    case atStart=>exact⟨i,rfl,rfl,hile,hin,HS0,HP0⟩
    case round=>
     obtain⟨i2,rfl,rfl,vT,hin2,HS,HP⟩:=hrel;clear HS0 HP0 hin hile;obtain⟨i,rfl⟩:=eX i2;obtain⟨wx,rfl⟩:=eX (wr:World);by_cases hij:i<=j
     . have hjn:j<n:=by have:=HP.jb;omega
       have hilt:i<n:=(by omega);have hw1:IntKind.i64.wrap ((i:Int)+1)=((i+1:Nat):Int):=(by rw[wrap_i64];omega);have d1:=HS.cell hilt;have d2:=HS.cell han;by_cases hxy:gt L a<gt L i
       .
        have cL:=fun w=>hid (bI (t:=true) (x:=gt L a) (y:=gt L i) (by simpa using hxy) w);(have HX:Hid (i<=j->¬gt L i<=gt L a):=fun _=>by omega);clear hxy;go_upto_region 3 with fail
        go_quiet ((go_at_call 203;exact Calls.quiet_of_same ((cL _).mono fun e w' ⟨he,hw⟩=>⟨he,hw.symm⟩)))
        have HSq:=hid (HS.drew nq);clear HS d1 d2;go_wp2_with fail
        go_meet
        exact⟨i,rfl,by omega,by omega,HSq,HP,HX⟩
       .
        have cL:=fun w=>hid (bI (t:=false) (x:=gt L a) (y:=gt L i) (by simpa using hxy) w);have HP2:=hid (HP.up hij (by omega));clear hxy HP;go_upto_region 3 with fail
        go_quiet ((go_at_call 203;exact Calls.quiet_of_same ((cL _).mono fun e w' ⟨he,hw⟩=>⟨he,hw.symm⟩)))
        have HSq:=hid (HS.drew nq);clear HS d1 d2;go_wp2_with fail
        go_roundg (j+1-(i+1))
        case measure=>omega
        case rel=>exact⟨i+1,rfl,by go_num,by omega,by omega,HSq,HP2⟩
     . have HX:Hid (i<=j->¬gt L i<=gt L a):=fun h=>absurd h hij
       have hij':j<i:=(by omega);go_upto_region 3 with fail
       go_quiet (fail)
       have HSq:=hid (HS.drew nq);clear HS;go_wp2_with fail
       go_meet
       exact⟨i,rfl,by omega,by omega,HSq,HP,HX⟩
   case rest=>
   obtain⟨i2,rfl,vT,hin2,HS2,HP2,HIX⟩:=hcut;have HM:Hid (j+1-i2<=mm):=(by have:=HMo.out;unfold Hid;omega);clear HMo;clear HS HP hin hile vT;obtain⟨i,rfl⟩:=eX i2;have HS:=HS2;have HP:=HP2;have hin:=hin2;clear HS2 HP2 hin2;obtain⟨jo,hjo⟩:=eX j;have JQ:Hid (∀j',j'<=jo->i<=j'->¬gt L i<=gt L a):=fun j' h1 h2=>HIX.out (by omega);have hjle:j<=jo:=(by omega);have HMo:Hid (jo+1-i<=mm):=(by rw[hjo];exact HM.out);clear HM;clear hjo HIX;go_upto_block 4 with fail
   go_cut[10] (fun jv wx=>∃j:Nat,jv= .int .i64 (j:Int)/\j<=jo/\Hid (US w wx g c n l L a b)/\Hid (Peq p L a b i j)/\Hid (i<=j->¬gt L a<gt L j))
   case first=>
    have HS0:=HS;have HP0:=HP;clear HS HP;go_wp2_with fail
    go_loopg[10] (j+1-i) (fun gk jv wr=>∃j:Nat,gk=j+1-i/\jv= .int .i64 (j:Int)/\j<=jo/\Hid (US w wr g c n l L a b)/\Hid (Peq p L a b i j))
    case atStart=>exact⟨j,rfl,rfl,hjle,HS0,HP0⟩
    case round=>
     obtain⟨j2,rfl,rfl,jT,HS,HP⟩:=hrel;clear HS0 HP0 hjle;obtain⟨j,rfl⟩:=eX j2;obtain⟨wx,rfl⟩:=eX (wr:World);by_cases hij:i<=j
     . have hjn:j<n:=by have:=HP.jb;omega
       obtain⟨j1,hj1⟩:∃j1,j=j1+1:=⟨j-1,by have:=HP.ai;omega⟩
       have HJ:=hid hj1;have hw1:IntKind.i64.wrap ((j:Int)-1)=(j1:Int):=(by rw[wrap_i64];omega);have d1:=HS.cell hjn;have d2:=HS.cell han;clear hj1;by_cases hxy:gt L a<gt L j
       .
        have cL:=fun w=>hid (bI (t:=true) (x:=gt L a) (y:=gt L j) (by simpa using hxy) w)
        have HP2:Hid (Peq p L a b i j1):=by
         have h1:=HP.out;rw[HJ.out]at h1;exact h1.down (by have:=HJ.out;omega) (by rw[<-HJ.out];exact hxy)
        clear hxy HP;go_upto_region 5 with fail
        go_quiet ((go_at_call 203;exact Calls.quiet_of_same ((cL _).mono fun e w' ⟨he,hw⟩=>⟨he,hw.symm⟩)))
        have HSq:=hid (HS.drew nq);clear HS d1 d2;go_wp2_with fail
        go_roundg (j1+1-i)
        case measure=>have:=HJ.out;omega
        case rel=>exact⟨j1,rfl,rfl,by have:=HJ.out;omega,HSq,HP2⟩
       .
        have cL:=fun w=>hid (bI (t:=false) (x:=gt L a) (y:=gt L j) (by simpa using hxy) w);(have HX:Hid (i<=j->¬gt L a<gt L j):=fun _=>by omega);clear hxy;go_upto_region 5 with fail
        go_quiet ((go_at_call 203;exact Calls.quiet_of_same ((cL _).mono fun e w' ⟨he,hw⟩=>⟨he,hw.symm⟩)))
        have HSq:=hid (HS.drew nq);clear HS d1 d2;go_wp2_with fail
        go_meet
        exact⟨j,rfl,jT,HSq,HP,HX⟩
     . have HX:Hid (i<=j->¬gt L a<gt L j):=fun h=>absurd h hij
       have hij':j<i:=(by omega);go_upto_region 5 with fail
       go_quiet (fail)
       have HSq:=hid (HS.drew nq);clear HS;go_wp2_with fail
       go_meet
       exact⟨j,rfl,jT,HSq,HP,HX⟩
   case rest=>
   obtain⟨j2,rfl,jT,HS2,HP2,HJX⟩:=hcut;have HIX:Hid (i<=j2->¬gt L i<=gt L a):=fun h=>JQ.out j2 jT h;have HM:Hid (j2+1-i<=mm):=(by have:=HMo.out;unfold Hid;omega);clear HMo;clear HS HP JQ hjle jT;obtain⟨j,rfl⟩:=eX j2;have HS:=HS2;have HP:=HP2;clear HS2 HP2;by_cases hgt:j<i
   . have HG:=hid hgt
     clear HIX HJX hgt;go_wp2_with fail
     go_meet
     exact⟨i,j,L,rfl,HG,HS,HP⟩
   . go_upto_region 8 with fail
     have hij2:i<=j:=(by omega);have hx1:=HIX.out hij2;have hx2:=HJX.out hij2;obtain⟨j1,hj1⟩:∃j1,j=j1+1:=⟨j-1,by have:=HP.ai;omega⟩
     have HPN:Hid (Peq p (swp L i j) a b (i+1) j1):=by
      have h1:=HP.out;rw[hj1]at h1 hx2 ⊢;exact h1.swap (by omega) (by rw[HS.len];exact hbn) hx1 hx2
     have hne:i≠j:=fun e=>by
      rw[e]at hx1;omega
     have hne':j≠i:=fun e=>hne e.symm;have hjb:j<b:=HP.jb;have hjn:j<n:=(by omega);have hia:a<=i:=(by have:=HP.ai;omega);have hilt:i<n:=(by omega);have hib:i<b:=(by omega);have hja:a<=j:=(by omega);have hw1:IntKind.i64.wrap ((i:Int)+1)=((i+1:Nat):Int):=(by rw[wrap_i64];omega);have hw2:IntKind.i64.wrap ((j:Int)-1)=(j1:Int):=(by rw[wrap_i64];omega);have HJ:=hid hj1;have HLE:=hid hij2;clear hx1 hx2 hj1 HIX HJX HP hij2 hgt;go_upto_region 8 with fail
     have x0:=fun t:ah.aQ [] wc []=>cell (HS.cell hilt) (by simp) t;have x1:=fun t:ah.aQ [] wc []=>cell (HS.cell hjn) (by simp) t;refine ah.ay [] [(0,[]),(1,[]),(2,[]),(3,[]),(4,[]),(5,[]),(6,[]),(7,[]),(8,[]),(9,[]),(10,[]),(11,[]),(12,[])] [] [] [2,3] (by kernel_rfl) (by kernel_rfl) (by simp) ?_;simp only[ah.pick,ah.aM,dL]
     repeat (refine ah.ak (fun K hK=>?_);go_simp;(refine hK _ ?_;clear hK K))
     refine ah.au rfl (.slice (some g) n c) (fun W=>by go_simp) ?_;refine ah.au rfl (.int .i64 (j:Int)) (fun W=>by go_simp) ?_
     repeat (refine ah.ak (fun K hK=>?_);go_simp;(refine hK _ ?_;clear hK K))
     refine ah.walk_nil ?_;intro w6 hb6 _;clear x0 x1;have h6:=HS.kept hb6;have f:=h6.free;have e1:=h6.cell hilt;have e2:=h6.cell hjn;have H7:=hid (h6.swap hbn hia hib hja hjb);clear h6 hb6 HS;simp only[lC,List.drop_zero,Nat.zero_add,Nat.reduceAdd];go_wp2_with fail
     rw[Flow.aN];clear e1 e2 f;generalize (w6.setCell ⟨g,i,none⟩ (.int .u32 ((gt L j:Nat):Int))).setCell ⟨g,j,none⟩ (.int .u32 ((gt L i:Nat):Int))=w7 at*;go_wp2_with fail
     go_roundg (j1+1-(i+1))
     case measure=>have:=HJ.out;have:=HLE.out;have:=HM.out;have:=HMM.out;omega
     case rel=>exact⟨i+1,j1,_,rfl,by go_num,rfl,by omega,H7,HPN⟩
 case rest=>
 clear HS HP;obtain⟨i0,j0,L0,rfl,HG,HS,HP⟩:=hcut
 have HE:Hid (uo l L0 a b pv i0):=by
  have h1:=HP.out;have h2:=HG.out;have h3:=h1.ij;have h4:=h1.jb;exact⟨h1.ai,by omega,by rw[h1.at_];exact HPE.symm,h1.lo,fun k h5 h6=>h1.hi k (by omega) h6⟩
 go_wp2_with fail
 go_ret
 exact⟨i0,rfl,L0,HS.out,HE.out⟩
end Pq
end Go.Proofs.YtmcbidhpkpmalaaGreatDoor
namespace Go.Proofs.YtmcbidhpkpmalaaGreatDoor
open Go.RowKit
open Go.Lib (hid)
open IntKind (wrap_i64)
namespace Pq
open Mem Hp
theorem xX{w:World}{g c n a b:Nat}{l:List Nat}(h:Ow 30 w g c (l.map nV))(hl:l.length=n)(hab:a<b)(hbn:b<=n)(hn:n<=1000):Calls Tryz.prog 201 #[.slice (some g) n c,(a:Int),(b:Int)] w fun e w'=>e=.returned (.tuple #[])/\∃L,US w w' g c n l L a b:=by have H0:=hid (US.start h hl a b);obtain⟨b1,hb1⟩:∃b1,b=b1+1:=⟨b-1,by omega⟩;(have hw0:IntKind.i64.wrap ((b:Int)-1)=(b1:Int):=by rw[wrap_i64];omega);(have hbb:b1<b:=by omega);clear h hl hb1;go_enter Tryz.func201,Tryz.ntmps201;go_upto_block 0 with fail;clear hw0;go_wp2_with fail;go_loopg[6,7] (b1+1-a) (fun gk iv jv wr=>∃(i j:Nat) (L:List Nat),gk=j+1-i/\iv= .int .i64 (i:Int)/\jv= .int .i64 (j:Int)/\a<=i/\j<b/\Hid (US w wr g c n l L a b));(case atStart=>exact⟨a,b1,l,rfl,rfl,rfl,Nat.le_refl _,hbb,H0⟩);case round=>obtain⟨i,j,L,rfl,rfl,rfl,hia,hjb,HS⟩:=hrel;clear H0 hbb;obtain⟨wx,rfl⟩:=eX (wr:World);by_cases hij:i<j;(. obtain⟨j1,hj1⟩:∃j1,j=j1+1:=⟨j-1,by omega⟩;have hin:i<n:=(by omega);have hjn:j<n:=(by omega);have hib:i<b:=(by omega);have hja:a<=j:=(by omega);have hne:i≠j:=(by omega);have hne':j≠i:=(by omega);have hw1:IntKind.i64.wrap ((i:Int)+1)=((i+1:Nat):Int):=(by rw[wrap_i64];omega);have hw2:IntKind.i64.wrap ((j:Int)-1)=(j1:Int):=(by rw[wrap_i64];omega);have HJ:=hid hj1;clear hj1;go_upto_region 3 with fail;have x0:=fun t:ah.aQ [] wx []=>ah.aQ.cell (HS.cell hin) (by simp) t;have x1:=fun t:ah.aQ [] wx []=>ah.aQ.cell (HS.cell hjn) (by simp) t;refine ah.ay [] [(0,[]),(1,[]),(2,[]),(3,[]),(4,[]),(5,[]),(6,[]),(7,[]),(8,[]),(9,[]),(10,[]),(11,[]),(12,[])] [] [] [2,3] (by kernel_rfl) (by kernel_rfl) (by simp) ?_;simp only[ah.pick,ah.aM,ah.dL];(repeat (refine ah.ak (fun K hK=>?_);go_simp;(refine hK _ ?_;clear hK K)));refine ah.au rfl (.slice (some g) n c) (fun W=>by go_simp) ?_;refine ah.au rfl (.int .i64 (j:Int)) (fun W=>by go_simp) ?_;(repeat (refine ah.ak (fun K hK=>?_);go_simp;(refine hK _ ?_;clear hK K)));refine ah.walk_nil ?_;intro w6 hb6 _;clear x0 x1;have h6:=HS.kept hb6;have f:=h6.free;have e1:=h6.cell hin;have e2:=h6.cell hjn;have H7:=hid (h6.swap hbn hia hib hja hjb);clear h6 hb6 HS;simp only[lC,List.drop_zero,Nat.zero_add,Nat.reduceAdd];go_wp2_with fail;rw[Flow.aN];clear e1 e2 f;generalize (w6.setCell ⟨g,i,none⟩ (.int .u32 ((gt L j:Nat):Int))).setCell ⟨g,j,none⟩ (.int .u32 ((gt L i:Nat):Int))=w7 at*;go_wp2_with fail;go_roundg (j1+1-(i+1));(case measure=>have:=HJ.out;omega);case rel=>exact⟨i+1,j1,_,rfl,by go_num,rfl,by omega,by have:=HJ.out;omega,H7⟩);. (have hij':j<=i:=by omega);go_wp2_with fail;go_end0;exact⟨rfl,L,HS.out⟩
structure MS(W w:World)(g c n s:Nat)(L:List Nat):Prop where
 ow:Ow 30 w g c (L.map nV)
 le:L.length=n
 box:∃z:Int,w.heap[s]? =some (.cells #[z] 3 (0,0))
 ne:g≠s
 hi:Flow.Into [s] W w
section
variable{W w w':World}{g c n s i:Nat}{L:List Nat}
theorem MS.kept(h:MS W w g c n s L)(hb:Bw w w'):MS W w' g c n s L:=by obtain⟨z,hz⟩:=h.box;exact⟨h.ow.kept hb,h.le,⟨z,(hb.block s (Array.getElem?_eq_some_iff.1 hz).1).trans hz⟩,h.ne,h.hi.trans (Flow.Into.of_below hb)⟩
theorem MS.cell(h:MS W w g c n s L)(hi:i<n):w.cell? ⟨g,i,none⟩=some (.int .u32 ((gt L i:Nat):Int)):=(US.start h.ow h.le 0 0).cell hi
theorem MS.set(h:MS W w g c n s L)(z:Int):MS W (w.setCell ⟨s,0,none⟩ z) g c n s L:=by obtain⟨y,hy⟩:=h.box;refine⟨h.ow.keep (Below.heap_setCell _ _ _ _ h.ne),h.le,⟨z,?_⟩,h.ne,h.hi.trans ⟨rfl,rfl,rfl,by simp[World.setCell],fun i _ hn=>Below.heap_setCell _ _ _ _ (by simpa using hn)⟩⟩;simp[World.setCell,Array.getElem?_modify,hy]
end
theorem nK{W w:World}{g c n s a b:Nat}{L:List Nat}(h:MS W w g c n s L)(ha:a<n)(hb:b<n):Calls Tryz.prog 214 #[.slice (some g) n c,(a:Int),(b:Int),s] w fun e w'=>∃x y:Nat,e=.returned (.tuple #[(x:Int),(y:Int)])/\(x=a/\y=b\/x=b/\y=a)/\MS W w' g c n s L:=by obtain⟨t,ht⟩:∃t:Bool,t=true↔gt L b<gt L a:=⟨decide (gt L b<gt L a),by simp⟩;have cL:=fun w=>hid (bI ht w);have d1:=h.cell ha;have d2:=h.cell hb;have HM:=hid h;clear h ht;go_enter Tryz.func214,Tryz.ntmps214;cases t with|true=>go_upto_region 1 with fail;go_quiet ((go_at_call 203;exact Calls.quiet_of_same ((cL _).mono fun e w' ⟨he,hw⟩=>⟨he,hw.symm⟩)));go_upto_region 2 with fail;(have HM2:=hid (HM.kept (iE w nq));clear d1 d2 cL HM;generalize w.drewN nq=w2 at*;obtain⟨z,hz⟩:=HM2.box;have e1:w2.cell? ⟨s,0,none⟩=some (.int .i64 z):=by simp[World.cell?,hz]);(have e2:w2.frozen? ⟨s,0,none⟩=false:=by simp[World.frozen?,hz]);obtain⟨z1,hz1⟩:∃z1,IntKind.i64.wrap (z+1)=z1:=⟨_,rfl⟩;have HM3:=hid (HM2.set z1);clear HM2 hz;go_wp2_with fail;exact bodyPost_ret (v:= .tuple #[(b:Int),(a:Int)]) (by simp[results,Tryz.results214,go_sem]) rfl ⟨b,a,rfl,.inr ⟨rfl,rfl⟩,HM3.out⟩|false=>go_upto_region 1 with fail;go_quiet ((go_at_call 203;exact Calls.quiet_of_same ((cL _).mono fun e w' ⟨he,hw⟩=>⟨he,hw.symm⟩)));have HM2:=hid (HM.kept (iE w nq));clear d1 d2 cL HM;go_wp2_with fail;exact bodyPost_ret (v:= .tuple #[(a:Int),(b:Int)]) (by simp[results,Tryz.results214,go_sem]) rfl ⟨a,b,rfl,.inl ⟨rfl,rfl⟩,HM2.out⟩
theorem sD{W w:World}{g c n s a b d:Nat}{L:List Nat}(h:MS W w g c n s L)(ha:a<n)(hb:b<n)(hd:d<n):Calls Tryz.prog 212 #[.slice (some g) n c,(a:Int),(b:Int),(d:Int),s] w fun e w'=>∃x:Nat,e=.returned (x:Int)/\(x=a\/x=b\/x=d)/\MS W w' g c n s L:=by have H0:=hid h;clear h;go_enter Tryz.func212,Tryz.ntmps212;go_upto_region 2 with(go_at_call 214;refine(nK H0.out ha hb).mono ?_;rintro e w1 ⟨x1,y1,rfl,hx1,h1⟩);(have H1:=hid h1;have SI:x1<n:=by omega);(have SK:y1<n:=by omega);have HX1:=hid hx1;clear h1 hx1 H0;go_upto_region 3 with(go_at_call 214;refine(nK H1.out SK hd).mono ?_;rintro e w2 ⟨x2,y2,rfl,hx2,h2⟩);(have H2:=hid h2;have SN:x2<n:=by omega);have HX2:=hid hx2;clear h2 hx2 H1;go_wp2_with (go_at_call 214;refine(nK H2.out SI SN).mono ?_;rintro e w3 ⟨x3,y3,rfl,hx3,h3⟩);have H3:=hid h3;(have HX:Hid (y3=a\/y3=b\/y3=d):=by have:=HX1.out;have:=HX2.out;unfold Hid;omega);clear h3 hx3;go_wp2_with fail;go_ret;exact⟨y3,rfl,HX.out,H3.out⟩
theorem jh{W w:World}{g c n s a:Nat}{L:List Nat}(h:MS W w g c n s L)(h1:1<=a)(ha:a+1<n)(hn:n<=1000):Calls Tryz.prog 211 #[.slice (some g) n c,(a:Int),s] w fun e w'=>∃x:Nat,e=.returned (x:Int)/\(a<=x+1/\x<=a+1)/\MS W w' g c n s L:=by (obtain⟨p,hp⟩:=eX (a-1);obtain⟨q,hq⟩:=eX (a+1);have hw1:IntKind.i64.wrap ((a:Int)-1)=(p:Int):=by rw[wrap_i64];omega);(have hw2:IntKind.i64.wrap ((a:Int)+1)=(q:Int):=by rw[wrap_i64];omega);(have cM:=hid (sD h (show p<n by omega) (show a<n by omega) (show q<n by omega));have HE:Hid (∀x,x=p\/x=a\/x=q->a<=x+1/\x<=a+1):=fun x hx=>by omega);clear h hp hq h1 ha;go_enter Tryz.func211,Tryz.ntmps211;go_wp2_with (go_at_call 212;refine cM.mono ?_;rintro e w3 ⟨x,rfl,hx,h3⟩);go_ret;exact⟨x,rfl,HE.out x hx,h3⟩
theorem qB{w:World}{g c n a b:Nat}{l:List Nat}(h:Ow 30 w g c (l.map nV))(hl:l.length=n)(hab:a+12<b)(hbn:b<=n)(hn:n<=1000):Calls Tryz.prog 200 #[.slice (some g) n c,(a:Int),(b:Int)] w fun e w'=>∃(x:Nat) (z:Int),e=.returned (.tuple #[(x:Int),z])/\(z=0\/z=1\/z=2)/\a<=x/\x<b/\Bw w w':=by (obtain⟨m,hm⟩:=eX (b-a);obtain⟨q,hq⟩:=eX (m / 4);obtain⟨i,hi⟩:=eX (a+q);obtain⟨j,hj⟩:=eX (a+2*q);obtain⟨k,hk⟩:=eX (a+3*q);obtain⟨q2,hq2⟩:=eX (2*q);obtain⟨q3,hq3⟩:=eX (3*q);have hw1:IntKind.i64.wrap ((b:Int)-(a:Int))=(m:Int):=by rw[wrap_i64];omega);(have hw2:(m:Int).tdiv 4=(q:Int):=by rw[Int.tdiv_eq_ediv_of_nonneg (by omega)];omega);(have hw3:IntKind.i64.wrap (q:Int)=(q:Int):=by rw[wrap_i64];omega);(have hw4:IntKind.i64.wrap ((q:Int)*2)=(q2:Int):=by rw[wrap_i64];omega);(have hw5:IntKind.i64.wrap ((q:Int)*3)=(q3:Int):=by rw[wrap_i64];omega);(have hw6:IntKind.i64.wrap ((a:Int)+(q:Int))=(i:Int):=by rw[wrap_i64];omega);(have hw7:IntKind.i64.wrap ((a:Int)+(q2:Int))=(j:Int):=by rw[wrap_i64];omega);(have hw8:IntKind.i64.wrap ((a:Int)+(q3:Int))=(k:Int):=by rw[wrap_i64];omega);(have hm8:8<=m:=by omega);have HR:=hid (show 1<=q/\i=a+q/\j=a+2*q/\k=a+3*q/\a+3*q+1<b/\b<=n by omega);have hb0:Bw w (w.alloc (.cells #[(0:Int)] 3)):=bAx;have HM:Hid (MS (w.alloc (.cells #[(0:Int)] 3)) (w.alloc (.cells #[(0:Int)] 3)) g c n w.heap.size l):=⟨h.kept hb0,hl,⟨0,heap_alloc_new w _⟩,(by have:=h.lt;omega),Flow.Into.refl _ _⟩;have HB0:=hid hb0;clear h hl hm hq hi hj hk hq2 hq3 hb0 hab;go_enter Tryz.func200,Tryz.ntmps200;go_upto_region 6 with fail;(generalize w.alloc (.cells #[(0:Int)] 3)=w1 at*;obtain⟨s,hs⟩:=eX w.heap.size;rw[<-hs]at HM;simp only[<-hs];have HSW:Hid (w.heap.size<=s):=by rw[hs];exact Nat.le_refl _);(clear hw1 hw2 hw3 hw4 hw5 hw6 hw7 hw8 hs;have hmg:¬(m<8):=by omega);go_upto_if 34 with fail;go_cut[10,11,12] (fun iv jv kv wx=>∃i j k:Nat,iv= .int .i64 (i:Int)/\jv= .int .i64 (j:Int)/\kv= .int .i64 (k:Int)/\Hid (a<=i/\i<b/\a<=j/\j<b/\a<=k/\k<b/\b<=n)/\Hid (MS w1 wx g c n s l));(case first=>have hr:=HR.out;by_cases h50:50<=m;(. have c1:=hid (jh HM.out (show 1<=i by omega) (show i+1<n by omega) hn);have HB1:=hid (show 1<=j/\j+1<n/\1<=k/\k+1<n by omega);clear hr;go_upto_region 9 with(go_at_call 211;refine c1.mono ?_;rintro e w2 ⟨x1,rfl,hx1,h1⟩);have c2:=hid (jh h1 HB1.1 HB1.2.1 hn);have HX1:=hid hx1;clear c1 h1 hx1;go_upto_region 10 with(go_at_call 211;refine c2.mono ?_;rintro e w3 ⟨x2,rfl,hx2,h2⟩);have c3:=hid (jh h2 HB1.2.2.1 HB1.2.2.2 hn);have HX2:=hid hx2;clear c2 h2 hx2;go_wp2_with (go_at_call 211;refine c3.mono ?_;rintro e w4 ⟨x3,rfl,hx3,h3⟩);(have HX3:Hid (a<=x1/\x1<b/\a<=x2/\x2<b/\a<=x3/\x3<b/\b<=n):=by have:=HX1.out;have:=HX2.out;have:=HR.out;unfold Hid;omega);have H3:=hid h3;clear h3 hx3 c3;go_wp2_with fail;go_meet;exact⟨x1,x2,x3,rfl,rfl,rfl,HX3,H3⟩);. (have HX3:Hid (a<=i/\i<b/\a<=j/\j<b/\a<=k/\k<b/\b<=n):=by unfold Hid;omega);have Rz:m<50:=(by omega);clear hr;go_wp2_with fail;go_meet;exact⟨i,j,k,rfl,rfl,rfl,HX3,HM⟩);case rest=>obtain⟨i2,j2,k2,rfl,rfl,rfl,HX,H2⟩:=hcut;clear HR HM hm8 hmg;have hx:=HX.out;have c4:=hid (sD H2.out (show i2<n by omega) (show j2<n by omega) (show k2<n by omega));clear hx H2;go_upto_region 12 with(go_at_call 212;refine c4.mono ?_;rintro e w5 ⟨x,rfl,hx,h5⟩);(obtain⟨z,hz⟩:=h5.box;have e1:w5.cell? ⟨s,0,none⟩=some (.int .i64 z):=by simp[World.cell?,hz]);(have HE:Hid (a<=x/\x<b/\Bw w w5):=by have:=HX.out;refine⟨by omega,by omega,HB0.trans ⟨h5.hi.os,h5.hi.tape,h5.hi.output,h5.hi.size,fun q hq=>h5.hi.block q (Nat.lt_of_lt_of_le hq HB0.size) ?_⟩⟩;have:=HSW.out;simp only[List.mem_singleton];omega);clear hx h5 hz c4 HX;by_cases h0:z=0;(. subst h0;go_wp2_with fail;exact bodyPost_ret (v:= .tuple #[(x:Int),(1:Int)]) (by simp[results,Tryz.results200,go_sem]) rfl ⟨x,1,rfl,by omega,HE.out⟩);. by_cases h12:z=12;(. subst h12;go_wp2_with fail;exact bodyPost_ret (v:= .tuple #[(x:Int),(2:Int)]) (by simp[results,Tryz.results200,go_sem]) rfl ⟨x,2,rfl,by omega,HE.out⟩);. (have hd0:(z==0)=false:=by simpa using h0);have hd1:(z==12)=false:=(by simpa using h12);go_wp2_with fail;exact bodyPost_ret (v:= .tuple #[(x:Int),(0:Int)]) (by simp[results,Tryz.results200,go_sem]) rfl ⟨x,0,rfl,by omega,HE.out⟩
end Pq
end Go.Proofs.YtmcbidhpkpmalaaGreatDoor
