import Derived.Test.YtmcbidhpkpmalaaGreatDoorPkAH
import Derived.StillTailTactics
set_option maxHeartbeats 2000000
set_option maxRecDepth 100000
namespace Go.Proofs.YtmcbidhpkpmalaaGreatDoor
open Go.RowKit
open Go.Lib (hid)
namespace Cn
open Mem
theorem bq{S:List Nat}{w w':World}(h:Flow.Into S w w')(a:Addr)(v:Value)(ha:a.block∈S):Flow.Into S w (w'.setCell a v):=h.trans (GZ w' a v ha)
theorem zA(g b c n i a:Nat)(k:Int)(A B:Nat->Nat)(w:World)(h:ChW w g b c n k A B)(hi:i<=n)(ha:a<=n)(hb:B a<=n)(hk:0<=k/\k<=4096)(hia:i≠a)(hib:i≠B a):Calls Tryz.prog 111 #[g,(i:Int),(a:Int)] w fun e w'=>e=.returned (.tuple #[])/\ChW w' g b c n (k+1) (upd (upd A i a) (B a) i) (upd (upd B i (B a)) a i)/\Flow.Into [g,b] w w':=by
 have HR:=hid h;obtain⟨d0,d1⟩:=h.cells;have d2:=h.lk.xQ (i:=a) (by omega);have d3:=h.lk.ug (i:=i) (by omega);have d4:=h.lk.xQ (i:=i) (by omega);have d5:=h.lk.ug (i:=B a) (by omega);have f0:=h.KP;have f1:=h.lk.free;have hn:=h.hi;have hne:=h.ne;have hwk:IntKind.i64.wrap (k+1)=k+1:=by rw[IntKind.wrap_i64];omega
 obtain⟨x,hx⟩:=eX (B a);rw[<-hx]at d2 d5 hb hib ⊢;have HX:=hid hx;generalize (A i:Int)=y1 at d3;generalize (B i:Int)=y2 at d4;generalize (A x:Int)=y3 at d5;clear h hx;have n1:i*2≠a*2+1:=by omega
 have n2:a*2+1≠i*2:=by omega
 have n3:i*2+1≠x*2:=by omega
 have n4:x*2≠i*2+1:=by omega
 have n5:a*2+1≠x*2:=by omega
 have n6:x*2≠a*2+1:=by omega
 have hL1:(i:Int)<(n:Int)+1:=by omega
 have hL2:(a:Int)<(n:Int)+1:=by omega
 have hL3:(x:Int)<(n:Int)+1:=by omega
 have HB:=hid hb;have HI:=hid hi;have HA:=hid ha;clear hb hi ha;go_enter Tryz.func111,Tryz.ntmps111
 go_wp2
 go_end0
 refine⟨rfl,((((HR.KN HI.out a).KO HI.out x).KO HA.out i).KN HB.out i).Rm _,?_⟩;refine bq (bq (bq (bq (bq (Flow.Into.refl _ _) _ _ ?_) _ _ ?_) _ _ ?_) _ _ ?_) _ _ ?_ <;>simp
theorem AY(g b c n i:Nat)(k:Int)(A B:Nat->Nat)(w:World)(h:ChW w g b c n k A B)(hi:i<n)(hb:B i=i):CW 104 #[g,(i:Int)] w (.tuple #[]):=by have HR:=hid h;have cH:=fun w h=>hid (su g b c n i k A B w h hi);rw[hb,bne_self_eq_false]at cH;clear h hb;go_enter Tryz.func104,Tryz.ntmps104;go_wp2_with (go_at_call 103;refine(cH _ HR.out).mono ?_;rintro e w' ⟨rfl,rfl⟩);refine bodyPost_ret (results_none rfl _ _ _) rfl ⟨rfl,rfl⟩
theorem DN(g b c n i:Nat)(k:Int)(A B:Nat->Nat)(w:World)(h:ChW w g b c n k A B)(hi:i<n)(hb:B i<=n)(ha:A i<=n)(hk:0<=k/\k<=4096)(hia:A i≠i)(hib:B i≠i):Calls Tryz.prog 104 #[g,(i:Int)] w fun e w'=>e=.returned (.tuple #[])/\ChW w' g b c n (k-1) (upd (upd A (B i) (A i)) i i) (upd (upd B (A i) (B i)) i i)/\Flow.Into [g,b] w w':=by
 have HR:=hid h;have cH:=fun w h=>hid (su g b c n i k A B w h hi);rw[show(B i != i)=true by simpa using hib]at cH;obtain⟨d0,d1⟩:=h.cells;have d3:=h.lk.ug (i:=i) (by omega);have d4:=h.lk.xQ (i:=i) (by omega);have d2:=h.lk.xQ (i:=A i) (by omega);have d5:=h.lk.ug (i:=B i) (by omega);have f0:=h.KP;have f1:=h.lk.free;have hn:=h.hi;have hne:=h.ne;have hwk:IntKind.i64.wrap (k-1)=k-1:=by rw[IntKind.wrap_i64];omega
 obtain⟨x,hx⟩:=eX (B i);obtain⟨a,hxa⟩:=eX (A i);rw[<-hx]at d4 d5 hb hib ⊢;rw[<-hxa]at d2 d3 ha hia ⊢;generalize (B a:Int)=y2 at d2;generalize (A x:Int)=y3 at d5;have hs:=h.DJ;have hs2:=h.lk.lt;clear h hx hxa;have hL1:(i:Int)<(n:Int)+1:=by omega
 have hL2:(a:Int)<(n:Int)+1:=by omega
 have hL3:(x:Int)<(n:Int)+1:=by omega
 have HB:=hid hb;have HI:=hid hi;have HA:=hid ha;clear hb hi ha;go_enter Tryz.func104,Tryz.ntmps104
 go_wp2_with (go_at_call 103;refine(cH _ HR.out).mono ?_;rintro e w' ⟨rfl,rfl⟩)
 obtain⟨w1,hw1⟩:=eX (w.alloc (Obj.cells #[(a:Int),(x:Int)] 198));have hB1:Bw w w1:=by rw[hw1];exact bAx
 have l0:w1.cell? ⟨w.heap.size,0,none⟩=some (.int .i64 (a:Int)):=by rw[hw1];exact congrArg (fun o=>match o with|some (Obj.cells c _ _)=>c[0]? |_=>none) (heap_alloc_new w (.cells #[(a:Int),(x:Int)] 198))
 have l1:w1.cell? ⟨w.heap.size,1,none⟩=some (.int .i64 (x:Int)):=by rw[hw1];exact congrArg (fun o=>match o with|some (Obj.cells c _ _)=>c[1]? |_=>none) (heap_alloc_new w (.cells #[(a:Int),(x:Int)] 198))
 have ht:w.heap.size<w1.heap.size:=by rw[hw1];simp
 rw[<-hw1];have HR1:=hid (HR.kept hB1);have HB1:=hid hB1;obtain⟨t,htt⟩:=eX w.heap.size;rw[<-htt]at l0 l1 ht hs hs2 ⊢;have HT:=hid htt;have hcd:=HR1.cells.1;have d2':=(Below.cell hB1 (p:=⟨b,a*2+1,none⟩) (by rw[<-htt];exact hs2)).trans d2;have d3':=(Below.cell hB1 (p:=⟨b,i*2,none⟩) (by rw[<-htt];exact hs2)).trans d3;have d4':=(Below.cell hB1 (p:=⟨b,i*2+1,none⟩) (by rw[<-htt];exact hs2)).trans d4;have d5':=(Below.cell hB1 (p:=⟨b,x*2,none⟩) (by rw[<-htt];exact hs2)).trans d5;clear hw1 hB1 htt d0 d1 d2 d3 d4 d5 f0 f1 cH;have e0:=ah.tc hcd;have e1:=ah.tc l0;have e2:=ah.tc l1;have D2:=hid d2';have D3:=hid d3';have D4:=hid d4';have D5:=hid d5';have L0:=hid l0;have L1:=hid l1;clear hcd l0 l1 d2' d3' d4' d5';refine ah.aj [] [(0,[]),(1,[]),(2,[]),(3,[]),(4,[]),(5,[]),(6,[]),(7,[])] [] [] (by kernel_rfl) (by kernel_rfl) (by simp) ?_;simp only[ah.pick,ah.aM,ah.dL]
 repeat (refine ah.ak (fun K hK=>?_);go_simp;refine hK _ ?_;clear hK K)
 refine ah.walk_nil ?_;intro w2 hb2 _;clear e0 e1 e2;have d2:=(Below.cell hb2 (p:=⟨b,a*2+1,none⟩) (Nat.lt_trans hs2 ht)).trans D2.out;have d3:=(Below.cell hb2 (p:=⟨b,i*2,none⟩) (Nat.lt_trans hs2 ht)).trans D3.out;have d4:=(Below.cell hb2 (p:=⟨b,i*2+1,none⟩) (Nat.lt_trans hs2 ht)).trans D4.out;have d5:=(Below.cell hb2 (p:=⟨b,x*2,none⟩) (Nat.lt_trans hs2 ht)).trans D5.out;have l0:=(Below.cell hb2 (p:=⟨t,0,none⟩) ht).trans L0.out;have l1:=(Below.cell hb2 (p:=⟨t,1,none⟩) ht).trans L1.out;have HR2:=hid (HR1.kept hb2);have HB2:=hid hb2;have f1:=HR2.lk.free;clear hb2 D2 D3 D4 D5 L0 L1;simp only[lC,Nat.zero_add,Nat.reduceAdd];go_wp2_with fail
 obtain⟨w3,hw3⟩:=eX (w2.setCell ⟨b,a*2+1,none⟩ (x:Int));rw[<-hw3]
 have HI3:Hid (Flow.Into [g,b] w w3):=by
  rw[hw3];exact bq ((Flow.Into.of_below HB1.out).trans ((Flow.Into.of_below HB2.out))) _ _ (by simp)
 have HR3:Hid (ChW w3 g b c n k A (upd B a x)):=by rw[hw3];exact HR2.KO HA.out x
 have htb:t≠b:=by omega
 have htb':b≠t:=by omega
 have m0:w3.cell? ⟨t,0,none⟩=some (.int .i64 (a:Int)):=by rw[hw3,World.cell?_setCell_other w2 _ _ _ (by simp)];exact l0
 have m1:w3.cell? ⟨t,1,none⟩=some (.int .i64 (x:Int)):=by rw[hw3,World.cell?_setCell_other w2 _ _ _ (by simp)];exact l1
 have ht3:t<w3.heap.size:=World.block_lt_of_cell? w3 _ m0;clear hw3 l0 l1 d2 d3 d4 d5 f1 HR2 HR1;have hcd:=HR3.cells.1;have e0:=ah.tc hcd;have e1:=ah.tc m0;have e2:=ah.tc m1;clear hcd m0 m1;refine ah.aj [] [(0,[]),(1,[]),(2,[]),(3,[]),(4,[]),(5,[]),(6,[]),(7,[])] [] [] (by kernel_rfl) (by kernel_rfl) (by simp) ?_;simp only[ah.pick,ah.aM,ah.dL]
 repeat (refine ah.ak (fun K hK=>?_);go_simp;refine hK _ ?_;clear hK K)
 refine ah.walk_nil ?_;intro w4 hb4 _;clear e0 e1 e2;have HR4:=hid (HR3.kept hb4);have HI4:Hid (Flow.Into [g,b] w w4):=HI3.trans (Flow.Into.of_below hb4);clear hb4;obtain⟨d0,d1⟩:=HR4.cells;have d3:=HR4.lk.ug (i:=i) (by have:=HI.out;omega);have d4:=HR4.lk.xQ (i:=i) (by have:=HI.out;omega);have d5:=HR4.lk.ug (i:=x) (by have:=HB.out;omega);have f0:=HR4.KP;have f1:=HR4.lk.free;generalize (A i:Int)=z1 at d3;generalize (upd B a x i:Int)=z2 at d4;generalize (A x:Int)=z3 at d5;have n1:i*2≠x*2:=by omega
 have n2:x*2≠i*2:=by omega
 have n3:i*2+1≠x*2:=by omega
 have n4:x*2≠i*2+1:=by omega
 have n5:i*2+1≠i*2:=by omega
 simp only[lC,Nat.zero_add,Nat.reduceAdd];go_wp2_with fail
 go_end0
 refine⟨rfl,(((HR4.KN HB.out a).KN (Nat.le_of_lt HI.out) i).KO (Nat.le_of_lt HI.out) i).Rm _,?_⟩;refine bq (bq (bq (bq HI4.out _ _ ?_) _ _ ?_) _ _ ?_) _ _ ?_ <;>simp
end Cn
end Go.Proofs.YtmcbidhpkpmalaaGreatDoor
namespace Go.Proofs.YtmcbidhpkpmalaaGreatDoor
open Go.RowKit
namespace Cn
open Mem
def inN(n:Nat)(i:Int):Bool:=decide (0<=i)&&decide (i<n)
theorem uh{n:Nat}{i:Int}(h:inN n i=true):∃k:Nat,i=(k:Int)/\k<n:=by simp only[inN,Bool.and_eq_true,decide_eq_true_eq]at h;exact⟨i.toNat,by omega,by omega⟩
theorem DR{n k:Nat}(h:k<n):inN n (k:Int)=true:=by simp[inN];omega
theorem qx{n:Nat}{i:Int}(h:inN n i=false):¬(0<=i/\i<n):=by
 intro hh;have:inN n i=true:=by simp[inN];omega
 rw[this]at h;cases h
def DT(l:List Nat)(i:Int):Bool:=decide (0<=i)&&l.contains i.toNat
def Pz(n:Nat)(i:Int):Int:=if inN n i then 0 else 4
def Rn(n:Nat)(l:List Nat)(i:Int):Int:=if inN n i then(if DT l i then 0 else 9)else 4
def KR(n:Nat)(l:List Nat)(i:Int):List Nat:=if inN n i then i.toNat::del l i.toNat else l
def KS(n:Nat)(l:List Nat)(i:Int):List Nat:=if inN n i then del l i.toNat++[i.toNat]else l
def Qm(n:Nat)(l:List Nat)(i:Int):List Nat:=if inN n i then del l i.toNat else l
theorem zB(l:List Nat)(k:Nat):DT l (k:Int)=l.contains k:=by simp[DT]
section
variable{w:World}{g b n:Nat}{l:List Nat}
theorem Ro(h:Chn w g b n l)(i:Int):CW 103 #[g,i] w (.bool (DT l i)):=by obtain⟨c,A,B,h1,h2⟩:=h;cases hi:inN n i with|true=>obtain⟨k,rfl,hk⟩:=uh hi;(have e:(B k != k)=DT l k:=by have:=h2.has hk;rw[zB,Bool.eq_iff_iff];simp[this]);rw[<-e];exact su g b c n k _ A B w h1 hk|false=>(have e:DT l i=false:=by have:=qx hi;by_cases h0:0<=i;(. (have:i.toNat∉l:=fun hm=>by have:=h2.lt _ hm;omega);simp[DT,this]);. simp[DT,h0]);rw[e];exact KQ g b c n i _ A B w h1 (qx hi)
theorem KT(h:Chn w g b n l):CB 105 #[g] w (.tuple #[((lst 0 l:Nat):Int),.bool (decide (0<l.length))]):=by obtain⟨c,A,B,h1,h2⟩:=h;cases l with|nil=>exact DL g b c n A B w h1|cons y r=>have:=DK g b c n _ A B w h1 (by simp;omega);rw[h2.ends.2]at this;simpa[Cn.lst]using this
theorem xR(h:Chn w g b n l){i:Nat}(hi:i<n):Calls Tryz.prog 104 #[g,(i:Int)] w fun e w'=>e=.returned (.tuple #[])/\Chn w' g b n (del l i)/\Flow.Into [g,b] w w':=by obtain⟨c,A,B,h1,h2⟩:=h;by_cases hm:i∈l;(. obtain⟨l1,l2,rfl⟩:=List.append_of_mem hm;obtain⟨e1,e2,e3,e4⟩:=h2.next;obtain⟨f1,f2,_,_,_,_,_,_⟩:=pI h2;have hl1:∀x∈l1,x<n:=fun x hx=>h2.lt x (by simp[hx]);have hl2:∀x∈l2,x<n:=fun x hx=>h2.lt x (by simp[hx]);have hlen:=h2.yX;have hn:=h1.hi;rw[Cm f1 f2];refine(DN g b c n i _ A B w h1 hi (by rw[e1];exact M5 hl2) (by rw[e3];exact JK hl1) ⟨by omega,by omega⟩ ?_ ?_).mono fun e w' ⟨he,hc,hI⟩=>⟨he,⟨c,_,_,?_,h2.loosen⟩,hI⟩;(. rw[e3];rintro he;rcases List.mem_cons.1 (kR n l1)with hp|hp;(. omega);. exact f1 (he▸hp));(. rw[e1];rintro he;rcases rT l2 n with hp|hp;(. omega);. exact f2 (he▸hp));. (have e:((l1++i::l2).length:Int)-1=((l1++l2).length:Int):=by simp;omega);rw[<-e];exact hc);. rw[lM hm];exact(AY g b c n i _ A B w h1 hi (h2.out i hi hm)).mono fun e w' ⟨he,hw⟩=>⟨he,hw▸⟨c,A,B,h1,h2⟩,hw▸Flow.Into.refl _ _⟩
theorem xS(h:Chn w g b n l){i:Nat}(hi:i<n)(hm:i∉l):Calls Tryz.prog 111 #[g,(i:Int),(n:Int)] w fun e w'=>e=.returned (.tuple #[])/\Chn w' g b n (i::l)/\Flow.Into [g,b] w w':=by obtain⟨c,A,B,h1,h2⟩:=h;have hlen:=h2.yX;have hn:=h1.hi;refine(zA g b c n i n _ A B w h1 (Nat.le_of_lt hi) (Nat.le_refl _) (by rw[h2.ends.1];exact M5 h2.lt) ⟨by omega,by omega⟩ (by omega) ?_).mono fun e w' ⟨he,hc,hI⟩=>⟨he,⟨c,_,_,?_,h2.front hi hm rfl⟩,hI⟩;(. rw[h2.ends.1];rintro he;rcases rT l n with hp|hp;(. omega);. exact hm (he▸hp));. simpa using hc
end
end Cn
end Go.Proofs.YtmcbidhpkpmalaaGreatDoor
namespace Go.Proofs.YtmcbidhpkpmalaaGreatDoor
open Go.RowKit
open Go.Lib (hid)
namespace Cn
open Mem
section
variable{w:World}{g b n:Nat}{l:List Nat}
theorem mh(h:Chn w g b n l){i:Nat}(hi:i<n):CW 102 #[g,(i:Int)] w (.int .i64 0):=by obtain⟨c,A,B,h1,h2⟩:=h;exact fH g b c n _ A B i w h1 (by omega) (by omega)
theorem nI(h:Chn w g b n l){i:Int}(hi:¬(0<=i/\i<n)):CW 102 #[g,i] w (.int .i64 4):=by obtain⟨c,A,B,h1,h2⟩:=h;exact iO g b c n _ A B i w h1 hi
theorem SA(h:Chn w g b n l):CW 112 #[g] w (.int .i64 (n:Int)):=by obtain⟨c,A,B,h1,h2⟩:=h;exact qw g b c n _ A B w h1
theorem DU(h:Chn w g b n l){i:Int}(hi:¬(0<=i/\i<n)):CW 74 #[g,i] w (.int .i64 4):=by have cP:=hid (nI h hi);clear h hi;go_enter Tryz.func74,Tryz.ntmps74;go_wp2_with (go_at_call 102;refine cP.mono ?_;rintro e w' ⟨rfl,rfl⟩);go_ret;exact⟨rfl,rfl⟩
theorem G5(h:Chn w g b n l){i:Nat}(hi:i<n):Calls Tryz.prog 74 #[g,(i:Int)] w fun e w'=>e=.returned (0:Int)/\Chn w' g b n (i::del l i)/\Flow.Into [g,b] w w':=by have cP:=hid (mh h hi);have cL:=hid (xR h hi);have cJ:=fun w (h:Chn w g b n (del l i))=>hid (xS h hi (gV l i));have cE:=fun w (h:Chn w g b n (del l i))=>hid (SA h);clear h hi;generalize del l i=l' at*;go_enter Tryz.func74,Tryz.ntmps74;go_wp2_with (first|(go_at_call 102;refine cP.mono ?_;rintro e w' ⟨rfl,rfl⟩)|(go_at_call 104;refine cL.mono ?_;rintro e w1 ⟨rfl,hc,hI⟩;have HC:=hid hc;have HI:=hid hI;clear hc hI)|(go_at_call 112;refine(cE _ HC.out).mono ?_;rintro e w' ⟨rfl,rfl⟩)|(go_at_call 111;refine(cJ _ HC.out).mono ?_;rintro e w2 ⟨rfl,hc,hI⟩;have HC2:=hid hc;have HI2:=hid hI;clear hc hI));go_ret;exact⟨rfl,HC2.out,HI.trans HI2.out⟩
theorem G6(h:Chn w g b n l){i:Int}(hi:¬(0<=i/\i<n)):CW 133 #[g,i] w (.int .i64 4):=by have cP:=hid (nI h hi);clear h hi;go_enter Tryz.func133,Tryz.ntmps133;go_wp2_with (go_at_call 102;refine cP.mono ?_;rintro e w' ⟨rfl,rfl⟩);go_ret;exact⟨rfl,rfl⟩
theorem AZ{c:Nat}{A B:Nat->Nat}(h1:ChW w g b c n (l.length:Int) A B)(h2:Ring n A B l){i:Nat}(hi:i<n)(hm:i∉l):Calls Tryz.prog 111 #[g,(i:Int),(A n:Int)] w fun e w'=>e=.returned (.tuple #[])/\Chn w' g b n (l++[i])/\Flow.Into [g,b] w w':=by (have hlen:=h2.yX;have hn:=h1.hi;have ha:A n<=n:=by rw[h2.ends.2];exact JK h2.lt);(have hb:B (A n)=n:=by have:=(fU (l1:=l) (l2:=[])).1 (by simpa using h2.lk);rw[h2.ends.2];exact this.2.1);refine(zA g b c n i (A n) _ A B w h1 (Nat.le_of_lt hi) ha (by omega) ⟨by omega,by omega⟩ ?_ (by omega)).mono fun e w' ⟨he,hc,hI⟩=>⟨he,⟨c,_,_,?_,h2.back hi hm rfl rfl⟩,hI⟩;(. rw[h2.ends.2];rintro he;rcases List.mem_cons.1 (kR n l)with hp|hp;(. omega);. exact hm (he▸hp));. simpa using hc
theorem KU(h:Chn w g b n l){i:Nat}(hi:i<n):Calls Tryz.prog 133 #[g,(i:Int)] w fun e w'=>e=.returned (0:Int)/\Chn w' g b n (del l i++[i])/\Flow.Into [g,b] w w':=by have cP:=hid (mh h hi);have cL:=hid (xR h hi);have HD:=hid (gV l i);have HL:=hid hi;clear h hi;generalize del l i=l' at*;go_enter Tryz.func133,Tryz.ntmps133;go_wp2_with (first|(go_at_call 102;refine cP.mono ?_;rintro e w' ⟨rfl,rfl⟩)|(go_at_call 104;refine cL.mono ?_;rintro e w1 ⟨rfl,hc,hI⟩;have HC:=hid hc;have HI:=hid hI;clear hc hI));(obtain⟨c,A,B,h1,h2⟩:=HC.out;have hb2:Below w1.heap.size w1 { w1 with drawn:=w1.drawn+1 }:=⟨rfl,rfl,rfl,Nat.le_refl _,fun _ _=>rfl⟩;have HH:=hid (h1.kept hb2);have HJ:=hid (AZ (h1.kept hb2) h2 HL.out HD.out);have HE:=hid (qw g b c n _ A B _ (h1.kept hb2));have HIn:Hid (Flow.Into [g,b] w { w1 with drawn:=w1.drawn+1 }):=HI.trans (Flow.Into.of_below hb2);have d0:=HH.cells.1;have d1:=HH.lk.ug (i:=n) (by omega);have hL:(n:Int)<(n:Int)+1:=by omega);generalize (A n:Int)=x at*;clear h1 h2 hb2;refine wp_region_still_tail 11 (by kernel_rfl) (by kernel_rfl) ?_;simp only[List.take_succ_cons,List.take_zero,List.drop_succ_cons,List.drop_zero];generalize { w1 with drawn:=w1.drawn+1 }=w2 at*;(repeat (refine wpStill_step (fun K hK=>?_);go_simp;first|(refine hK _ ?_;clear hK K)|(refine⟨_,HE.mono fun e w' ⟨he,hw⟩=>⟨he,hw.symm⟩,hK _ ?_⟩;clear hK K)));refine wpStill_nil ?_;go_wp2_with (go_at_call 111;refine HJ.mono ?_;rintro e w2 ⟨rfl,hc,hI⟩;have HC2:=hid hc;have HI2:=hid hI;clear hc hI);go_ret;exact⟨rfl,HC2.out,HIn.trans HI2.out⟩
theorem KV(h:Chn w g b n l){i:Int}(hi:¬(0<=i/\i<n)):CW 68 #[g,i] w (.int .i64 4):=by have cP:=hid (nI h hi);clear h hi;go_enter Tryz.func68,Tryz.ntmps68;go_wp2_with (go_at_call 102;refine cP.mono ?_;rintro e w' ⟨rfl,rfl⟩);go_ret;exact⟨rfl,rfl⟩
theorem G7(h:Chn w g b n l){i:Nat}(hi:i<n)(hm:DT l (i:Int)=false):CW 68 #[g,(i:Int)] w (.int .i64 9):=by have cP:=hid (mh h hi);have cH:=hid (Ro h i);rw[hm]at cH;clear h hi hm;go_enter Tryz.func68,Tryz.ntmps68;go_wp2_with (first|(go_at_call 102;refine cP.mono ?_;rintro e w' ⟨rfl,rfl⟩)|(go_at_call 103;refine cH.mono ?_;rintro e w' ⟨rfl,rfl⟩));go_ret;exact⟨rfl,rfl⟩
theorem NC(h:Chn w g b n l){i:Nat}(hi:i<n)(hm:DT l (i:Int)=true):Calls Tryz.prog 68 #[g,(i:Int)] w fun e w'=>e=.returned (0:Int)/\Chn w' g b n (del l i)/\Flow.Into [g,b] w w':=by have cP:=hid (mh h hi);have cH:=hid (Ro h i);have cL:=hid (xR h hi);rw[hm]at cH;clear h hi hm;generalize del l i=l' at*;go_enter Tryz.func68,Tryz.ntmps68;go_wp2_with (first|(go_at_call 102;refine cP.mono ?_;rintro e w' ⟨rfl,rfl⟩)|(go_at_call 103;refine cH.mono ?_;rintro e w' ⟨rfl,rfl⟩)|(go_at_call 104;refine cL.mono ?_;rintro e w1 ⟨rfl,hc,hI⟩;have HC:=hid hc;have HI:=hid hI;clear hc hI));go_ret;exact⟨rfl,HC.out,HI.out⟩
theorem ND(h:Chn w g b n l)(i:Int):Calls Tryz.prog 74 #[g,i] w fun e w'=>e=.returned (Pz n i:Int)/\Chn w' g b n (KR n l i)/\Flow.Into [g,b] w w':=by unfold Pz KR;cases hi:inN n i with|true=>obtain⟨k,rfl,hk⟩:=uh hi;exact G5 h hk|false=>exact(DU h (qx hi)).mono fun e w' ⟨he,hw⟩=>⟨he,hw▸h,hw▸Flow.Into.refl _ _⟩
theorem Qo(h:Chn w g b n l)(i:Int):Calls Tryz.prog 133 #[g,i] w fun e w'=>e=.returned (Pz n i:Int)/\Chn w' g b n (KS n l i)/\Flow.Into [g,b] w w':=by unfold Pz KS;cases hi:inN n i with|true=>obtain⟨k,rfl,hk⟩:=uh hi;exact KU h hk|false=>exact(G6 h (qx hi)).mono fun e w' ⟨he,hw⟩=>⟨he,hw▸h,hw▸Flow.Into.refl _ _⟩
theorem SB(h:Chn w g b n l)(i:Int):Calls Tryz.prog 68 #[g,i] w fun e w'=>e=.returned (Rn n l i:Int)/\Chn w' g b n (Qm n l i)/\Flow.Into [g,b] w w':=by unfold Rn Qm;cases hi:inN n i with|true=>(obtain⟨k,rfl,hk⟩:=uh hi;cases hm:DT l (k:Int)with|true=>exact NC h hk hm|false=>have:k∉l:=(by rw[zB]at hm;simpa using hm);have e:del l ((k:Int)).toNat=l:=lM (by simpa using this);simp only[if_true,e];exact(G7 h hk hm).mono fun e w' ⟨he,hw⟩=>⟨he,hw▸h,hw▸Flow.Into.refl _ _⟩)|false=>exact(KV h (qx hi)).mono fun e w' ⟨he,hw⟩=>⟨he,hw▸h,hw▸Flow.Into.refl _ _⟩
end
end Cn
end Go.Proofs.YtmcbidhpkpmalaaGreatDoor
namespace Go.Proofs.YtmcbidhpkpmalaaGreatDoor
open Go.RowKit
namespace Cn
open Mem
theorem G8:(Tryz.prog.info? 198).map (fun i=>(i.zero,i.size,i.bytes))=some (some (.agg #[(0:Int),(0:Int)]),2,16):=by kernel_rfl
section
variable{w:World}{g b n:Nat}{l:List Nat}
end
end Cn
end Go.Proofs.YtmcbidhpkpmalaaGreatDoor
namespace Go.Proofs.YtmcbidhpkpmalaaGreatDoor
open Go.RowKit
open List (getElem?_set mem_cons)
namespace Dv
open Mem
def Cells(U:TypeId)(w:World)(q:Nat)(C:List Value):Prop:=w.heap[q]? =some (.cells C.toArray U (0,0))
theorem qy{U:TypeId}{w:World}{q:Nat}{L L':List Value}(h:Cells U w q L)(h':Cells U w q L'):L=L':=by
 unfold Cells at h h';rw[h]at h';have h3:(Obj.cells L.toArray U (0,0))= .cells L'.toArray U (0,0):=Option.some.inj h';have h4:L.toArray=L'.toArray:=by injection h3
 simpa using h4
theorem Cells.lt{U:TypeId}{w:World}{q:Nat}{L:List Value}(h:Cells U w q L):q<w.heap.size:=(Array.getElem?_eq_some_iff.1 h).1
theorem aS(w:World)(a:Addr)(u:Value):Flow.Into [a.block] w (w.setCell a u):=
 ⟨rfl,rfl,rfl,by simp[World.setCell],fun k _ hn=>Below.heap_setCell _ _ _ _ (by simpa using hn)⟩
def win{α:Type}(L:List α)(o m:Nat):List α:=(L.drop o).take m
theorem win_length{α:Type}{L:List α}{o m:Nat}(h:o+m<=L.length):(win L o m).length=m:=by simp[win];omega
theorem KW{α:Type}(l:List α):win l 0 l.length=l:=by simp[win]
theorem uj{α:Type}{L:List α}{o m k:Nat}:(win L o m)[k]? =if k<m then L[o+k]? else none:=by unfold win;rw[List.getElem?_take];split;(. rw[List.getElem?_drop]);. rfl
theorem sw{α:Type}{L l:List α}{o k:Nat}(h:o+l.length<=L.length):(splice L o l)[k]? =if o<=k/\k<o+l.length then l[k-o]? else L[k]? :=by (unfold splice;have ht:(L.take o).length=o:=by simp;omega);by_cases h1:k<o;(. rw[if_neg (by omega),List.getElem?_append_left (by omega),List.getElem?_take,if_pos h1]);. rw[List.getElem?_append_right (by omega),ht];by_cases h2:k<o+l.length;(. rw[if_pos (by omega),List.getElem?_append_left (by omega)]);. rw[if_neg (by omega),List.getElem?_append_right (by omega),List.getElem?_drop];congr 1;omega
theorem A8{α:Type}{L l:List α}{o:Nat}(h:o+l.length<=L.length):win (splice L o l) o l.length=l:=by apply List.ext_getElem?;intro k;rw[uj];by_cases hk:k<l.length;(. rw[if_pos hk,sw h,if_pos (by omega)];congr 1;omega);. rw[if_neg hk,List.getElem?_eq_none (by omega)]
theorem DV{α:Type}{L l:List α}{o o' m:Nat}(h:o+l.length<=L.length)(ha:o+l.length<=o'\/o'+m<=o):win (splice L o l) o' m=win L o' m:=by apply List.ext_getElem?;intro k;rw[uj,uj];by_cases hk:k<m;(. rw[if_pos hk,if_pos hk,sw h,if_neg (by omega)]);. rw[if_neg hk,if_neg hk]
theorem qz{U:TypeId}{w:World}{q:Nat}{C:List Value}(h:Cells U w q C){o m:Nat}{x:List UInt8}(hl:o+m<=C.length)(hx:win C o m=aD x):x.length=m/\BL w (some ⟨q,o,none⟩) x:=by
 have hm:x.length=m:=by rw[<-bE,<-hx,win_length hl]
 refine⟨hm,fun _=>⟨q,o,rfl,fun i hi=>?_⟩⟩;have h1:(aD x)[i]? =C[o+i]? :=by rw[<-hx,uj,if_pos (by omega)]
 unfold Cells at h;simp only[World.cell?,h];have:C[o+i]? =some (kH x[i]):=by rw[<-h1];simp[aD,hi]
 simpa using this
abbrev Bk:=Option (Nat × Nat × Nat)
def bkV(m:Nat):Bk->Value
 |none=> .slice none 0 0
 |some (q,o,k)=> .slice (some ⟨q,o,none⟩) m k
def foot(g b:Nat)(bks:List Bk):List Nat:=g::b::bks.filterMap (·.map (·.1))
theorem nJ{g b i q o k:Nat}{bks:List Bk}(h:bks[i]? =some (some (q,o,k))):q∈foot g b bks:=by unfold foot;refine List.mem_cons_of_mem _ (List.mem_cons_of_mem _ (List.mem_filterMap.2 ⟨some (q,o,k),List.mem_of_getElem? h,rfl⟩))
theorem xU{g b q:Nat}{bks:List Bk}(h:q∈foot g b bks):q=g\/q=b\/∃i o k:Nat,bks[i]? =some (some (q,o,k)):=by unfold foot at h;rcases mem_cons.1 h with h|h;(. exact .inl h);rcases mem_cons.1 h with h|h;(. exact .inr (.inl h));obtain⟨x,hx,e⟩:=List.mem_filterMap.1 h;cases x with|none=>cases e|some x=>(obtain⟨q',o,k⟩:=x;obtain rfl:q'=q:=by simpa using e);obtain⟨i,hi⟩:=List.getElem?_of_mem hx;exact .inr (.inr ⟨i,o,k,hi⟩)
theorem G9{g b i q o k x:Nat}{bks:List Bk}(h:x∈foot g b (bks.set i (some (q,o,k)))):x=q\/x∈foot g b bks:=by rcases xU h with rfl|rfl|⟨j,o',k',hj⟩;(. exact .inr (by simp[foot]));(. exact .inr (by simp[foot]));. rw[getElem?_set]at hj;split at hj;(. split at hj;(. left;simp at hj;exact hj.1.symm);. cases hj);. exact .inr (nJ hj)
structure iw(w:World)(g b c m:Nat)(bks:List Bk)(ls:List (List UInt8))(r s:Nat):Prop where
 hd:w.heap[g]? =some (.cells #[(m:Int),.slice (some b) bks.length c,.int .u64 (r:Int),.int .u64 (s:Int)] 144 (0,0))
 ow:Ow 26 w b c (bks.map (bkV m))
 len:bks.length=ls.length
 ll:∀l,l∈ls->l.length=m
 no:∀i:Nat,bks[i]? =some none->ls[i]? =some (List.replicate m 0)
 yes:∀i q o k:Nat,bks[i]? =some (some (q,o,k))->q≠g/\q≠b/\m<=k/\∃C x,Cells 5 w q C/\o+m<=C.length/\ls[i]? =some x/\win C o m=aD x
 ap:∀i j q o k o' k':Nat,i≠j->bks[i]? =some (some (q,o,k))->bks[j]? =some (some (q,o',k'))->o+m<=o'\/o'+m<=o
section
variable{w w':World}{g b c m:Nat}{bks:List Bk}{ls:List (List UInt8)}{r s:Nat}
theorem iw.ne(h:iw w g b c m bks ls r s):g≠b:=by
 rintro rfl;obtain⟨_,h2⟩:=h.ow;rcases h2 with⟨h',_⟩|⟨g',cap',cur,he,_,hh,_⟩
 . cases h'
 . obtain⟨rfl,rfl⟩:g=g'/\c=cap':=by simpa using he
   rw[h.hd]at hh;simp at hh
theorem iw.lt(h:iw w g b c m bks ls r s):∀k,k∈foot g b bks->k<w.heap.size:=by intro k hk;rcases xU hk with rfl|rfl|⟨i,o,k',hi⟩;(. exact(Array.getElem?_eq_some_iff.1 h.hd).1);(. exact h.ow.lt);. obtain⟨_,_,_,C,x,hr,_⟩:=h.yes i _ _ _ hi;exact hr.lt
theorem iw.cells(h:iw w g b c m bks ls r s):w.cell? ⟨g,0,none⟩=some (.int .i64 (m:Int))/\w.cell? ⟨g,1,none⟩=some (.slice (some b) bks.length c)/\w.cell? ⟨g,2,none⟩=some (.int .u64 (r:Int))/\w.cell? ⟨g,3,none⟩=some (.int .u64 (s:Int)):=by have:=h.hd;simp[World.cell?,this]
theorem iw.free(h:iw w g b c m bks ls r s)(i:Nat):w.frozen? ⟨g,i,none⟩=false:=by have:=h.hd;simp[World.frozen?,this]
theorem iw.Qp(h:iw w g b c m bks ls r s)(i:Nat):w.frozen? ⟨b,i,none⟩=false:=h.ow.free i
theorem iw.He(h:iw w g b c m bks ls r s){i:Nat}{x:Bk}(hi:bks[i]? =some x):w.cell? ⟨b,i,none⟩=some (bkV m x):=by obtain⟨h1,h2⟩:=List.getElem?_eq_some_iff.1 hi;rw[h.ow.cell (by simpa using h1)];simp[h2]
theorem iw.keep(h:iw w g b c m bks ls r s)(hk:∀k,k∈foot g b bks->w'.heap[k]? =w.heap[k]?):iw w' g b c m bks ls r s:=
 ⟨(hk g (by simp[foot])).trans h.hd,h.ow.keep (hk b (by simp[foot])),h.len,h.ll,h.no,fun i q o k hi=>by
   obtain⟨h1,h2,h3,C,x,h4,h5⟩:=h.yes i q o k hi
   exact⟨h1,h2,h3,C,x,(hk q (nJ hi)).trans h4,h5⟩,h.ap⟩
theorem iw.kept(h:iw w g b c m bks ls r s)(hb:Bw w w'):iw w' g b c m bks ls r s:=h.keep fun k hk=>hb.block k (h.lt k hk)
theorem iw.into{S:List Nat}(h:iw w g b c m bks ls r s)(hb:Flow.Into S w w')(hn:∀k,k∈foot g b bks->k∉S):iw w' g b c m bks ls r s:=h.keep fun k hk=>hb.block k (h.lt k hk) (hn k hk)
theorem iw.head(h:iw w g b c m bks ls r s){r' s':Nat}(hi:Flow.Into [g] w w')(hh:w'.heap[g]? =some (.cells #[(m:Int),.slice (some b) bks.length c,.int .u64 (r':Int),.int .u64 (s':Int)] 144 (0,0))):iw w' g b c m bks ls r' s':=by have hb:∀k,k∈foot g b bks->k≠g->w'.heap[k]? =w.heap[k]? :=fun k hk hn=>hi.block k (h.lt k hk) (by simpa using hn);exact⟨hh,h.ow.keep (hb b (by simp[foot]) h.ne.symm),h.len,h.ll,h.no,fun i q o k hi=>by obtain⟨h1,h2,h3,C,x,h4,h5⟩:=h.yes i q o k hi;exact⟨h1,h2,h3,C,x,(hb q (nJ hi) h1).trans h4,h5⟩,h.ap⟩
theorem iw.read(h:iw w g b c m bks ls r s):iw (w.setCell ⟨g,2,none⟩ (.int .u64 ((r:Int)+1))) g b c m bks ls (r+1) s/\Flow.Into [g] w (w.setCell ⟨g,2,none⟩ (.int .u64 ((r:Int)+1))):=by have hi:=aS w ⟨g,2,none⟩ (.int .u64 ((r:Int)+1));refine⟨h.head hi ?_,hi⟩;have:=h.hd;simp[World.setCell,Array.getElem?_modify,this]
theorem iw.wrote(h:iw w g b c m bks ls r s):iw (w.setCell ⟨g,3,none⟩ (.int .u64 ((s:Int)+1))) g b c m bks ls r (s+1)/\Flow.Into [g] w (w.setCell ⟨g,3,none⟩ (.int .u64 ((s:Int)+1))):=by have hi:=aS w ⟨g,3,none⟩ (.int .u64 ((s:Int)+1));refine⟨h.head hi ?_,hi⟩;have:=h.hd;simp[World.setCell,Array.getElem?_modify,this]
theorem iw.put(h:iw w g b c m bks ls r s){i q o k:Nat}{C:List Value}{x:List UInt8}(hi:i<bks.length)(hq:Cells 5 w q C)(hg:q≠g)(hb:q≠b)(hl:o+m<=C.length)(hx:win C o m=aD x)(hk:m<=k)
 (ha:∀j o' k':Nat,i≠j->bks[j]? =some (some (q,o',k'))->o+m<=o'\/o'+m<=o):
 iw (w.setCell ⟨b,i,none⟩ (bkV m (some (q,o,k)))) g b c m (bks.set i (some (q,o,k))) (ls.set i x) r s/\Flow.Into [b] w (w.setCell ⟨b,i,none⟩ (bkV m (some (q,o,k)))):=by
 have hin:=aS w ⟨b,i,none⟩ (bkV m (some (q,o,k)));have hbl:∀x,x<w.heap.size->x≠b->(w.setCell ⟨b,i,none⟩ (bkV m (some (q,o,k)))).heap[x]? =w.heap[x]? :=fun x hx hn=>hin.block x hx (by simpa using hn)
 have hil:i<ls.length:=by rw[<-h.len];exact hi
 refine⟨⟨?_,?_,by simp[h.len],?_,?_,?_,?_⟩,hin⟩
 . rw[hbl g (h.lt g (by simp[foot])) h.ne,h.hd,List.length_set]
 . have:=(h.ow.set i (bkV m (some (q,o,k)))).1
   rw[List.map_set];exact this
 . intro l hl'
   rcases List.mem_or_eq_of_mem_set hl' with h'|rfl
   . exact h.ll l h'
   . exact(qz hq hl hx).1
 . intro j hj
   rw[getElem?_set]at hj ⊢;by_cases e:i=j
   . subst e;simp[hi]at hj
   . simp only[e,if_false]at hj ⊢
     exact h.no j hj
 . intro j q' o' k' hj
   rw[getElem?_set]at hj;rw[getElem?_set];by_cases e:i=j
   . subst e
     simp only[if_true,hi,Option.some.injEq,Prod.mk.injEq]at hj;obtain⟨rfl,rfl,rfl⟩:=hj;exact⟨hg,hb,hk,C,x,(hbl q hq.lt hb).trans hq,hl,by simp[hil],hx⟩
   . simp only[e,if_false]at hj ⊢
     obtain⟨h1,h2,h3,C',x',h4,h5,h6⟩:=h.yes j q' o' k' hj;exact⟨h1,h2,h3,C',x',(hbl q' h4.lt h2).trans h4,h5,h6⟩
 . intro j j' q' o1 k1 o2 k2 hn h1 h2
   rw[getElem?_set]at h1 h2;by_cases e:i=j
   . subst e
     have e':¬i=j':=hn;simp only[if_true,hi,Option.some.injEq,Prod.mk.injEq]at h1;simp only[e',if_false]at h2;obtain⟨rfl,rfl,rfl⟩:=h1;exact ha j' o2 k2 hn h2
   . simp only[e,if_false]at h1
     by_cases e':i=j'
     . subst e'
       simp only[if_true,hi,Option.some.injEq,Prod.mk.injEq]at h2;obtain⟨rfl,rfl,rfl⟩:=h2;rcases ha j o1 k1 (Ne.symm hn) h1 with h'|h'
       . exact .inr h'
       . exact .inl h'
     . simp only[e',if_false]at h2
       exact h.ap j j' q' o1 k1 o2 k2 hn h1 h2
theorem iw.splice(h:iw w g b c m bks ls r s){i q o k:Nat}{C:List Value}{l:List UInt8}(hi:bks[i]? =some (some (q,o,k)))(hq:Cells 5 w q C)(hl:l.length=m)(hw:Flow.Into [q] w w')(hq':Cells 5 w' q (Go.splice C o (aD l))):iw w' g b c m bks (ls.set i l) r s:=by (obtain⟨hg,hb,hk,L0,x0,h4,h5,h6,h7⟩:=h.yes i q o k hi;obtain rfl:=qy hq h4;have hfit:o+(aD l).length<=C.length:=by rw[bE];omega);have hbl:∀x,x<w.heap.size->x≠q->w'.heap[x]? =w.heap[x]? :=fun x hx hn=>hw.block x hx (by simpa using hn);have hil:i<ls.length:=(List.getElem?_eq_some_iff.1 h6).1;refine⟨?_,h.ow.keep (hbl b (h.lt b (by simp[foot])) hb.symm),by simp[h.len],?_,?_,?_,h.ap⟩;(. rw[hbl g (h.lt g (by simp[foot])) hg.symm,h.hd]);(. intro l' hl';rcases List.mem_or_eq_of_mem_set hl' with h'|rfl;(. exact h.ll l' h');. exact hl);(. intro j hj;rw[getElem?_set];by_cases e:i=j;(. subst e;rw[hi]at hj;cases hj);. simp only[e,if_false];exact h.no j hj);. intro j q' o' k' hj;rw[getElem?_set];obtain⟨g1,g2,g3,C',x',g4,g5,g6,g7⟩:=h.yes j q' o' k' hj;by_cases eq:q'=q;(. subst eq;obtain rfl:=qy hq g4;by_cases e:i=j;(. subst e;rw[hi]at hj;simp only[Option.some.injEq,Prod.mk.injEq]at hj;obtain⟨-,rfl,rfl⟩:=hj;refine⟨g1,g2,g3,_,l,hq',by rw[length_splice C o (aD l) hfit];exact g5,by simp[hil],?_⟩;have:=A8 hfit;rw[bE,hl]at this;exact this);. refine⟨g1,g2,g3,_,x',hq',by rw[length_splice C o (aD l) hfit];exact g5,by simp only[e,if_false];exact g6,?_⟩;rw[DV hfit,g7];rw[bE,hl];exact h.ap i j q' o k o' k' e hi hj);. refine⟨g1,g2,g3,C',x',(hbl q' g4.lt eq).trans g4,g5,?_,g7⟩;by_cases e:i=j;(. subst e;rw[hi]at hj;simp only[Option.some.injEq,Prod.mk.injEq]at hj;exact absurd hj.1.symm eq);. simp only[e,if_false];exact g6
end
structure Dev(w:World)(S:List Nat)(g m:Nat)(ls:List (List UInt8))(r s:Nat):Prop where
 ex:∃b c bks,iw w g b c m bks ls r s/\∀k,k∈foot g b bks->k∈S
 m1:1<=m
 m2:m<=65536
 n1:5<=ls.length
 n2:ls.length<=65536
 lt:∀k,k∈S->k<w.heap.size
def zC(w:World)(S S':List Nat):Prop:=∀k,k∈S'->k∈S\/w.heap.size<=k
section
variable{w w':World}{S:List Nat}{g m:Nat}{ls:List (List UInt8)}{r s:Nat}
theorem Dev.kept(h:Dev w S g m ls r s)(hb:Bw w w'):Dev w' S g m ls r s:=by obtain⟨⟨b,c,bks,h1,h2⟩,h3,h4,h5,h6,h7⟩:=h;exact⟨⟨b,c,bks,h1.kept hb,h2⟩,h3,h4,h5,h6,fun k hk=>Nat.lt_of_lt_of_le (h7 k hk) hb.size⟩
theorem Dev.into{S':List Nat}(h:Dev w S g m ls r s)(hb:Flow.Into S' w w')(hn:∀k,k∈S->k∉S'):Dev w' S g m ls r s:=by obtain⟨⟨b,c,bks,h1,h2⟩,h3,h4,h5,h6,h7⟩:=h;exact⟨⟨b,c,bks,h1.into hb fun k hk=>hn k (h2 k hk),h2⟩,h3,h4,h5,h6,fun k hk=>Nat.lt_of_lt_of_le (h7 k hk) hb.size⟩
theorem Dev.Rp(h:Dev w S g m ls r s):g∈S:=by obtain⟨⟨b,c,bks,h1,h2⟩,_⟩:=h;exact h2 g (by simp[foot])
theorem Dev.cells(h:Dev w S g m ls r s):∃b c,w.cell? ⟨g,0,none⟩=some (.int .i64 (m:Int))/\w.cell? ⟨g,1,none⟩=some (.slice (some (b:Nat)) ls.length c)/\w.cell? ⟨g,2,none⟩=some (.int .u64 (r:Int))/\w.cell? ⟨g,3,none⟩=some (.int .u64 (s:Int)):=by obtain⟨⟨b,c,bks,h1,h2⟩,_⟩:=h;have:=h1.cells;rw[h1.len]at this;exact⟨b,c,this⟩
end
theorem mo{S:List Nat}{B:Nat}{w w':World}(h:Flow.Into S w w')(hS:∀k,k∈S->B<=k)(hB:B<=w.heap.size):Below B w w':=
 ⟨h.os,h.tape,h.output,h.size,fun k hk=>h.block k (by omega) fun hh=>by have:=hS k hh;omega⟩
theorem eT{P:Program}{w:World}{ops:Array Oper}{rest:List Oper}{o:Oper}{a:Act}{Q:Exit->Act->World->Prop}(hgd:o.guard=none)(d s:Operand)(dT sT:TypeId)
 (ho:o.op= .call { callee:= .builtin .copy,args:= #[d,s],argTypes:= #[dT,sT] }) (U:TypeId) (hu:P.underlying dT=some (.slice U)) (hsz:(P.info? U).map (·.size)=some 1)
 (q off n c1 m c2:Nat) (sp:Option Addr) (hd:a.eval d= .slice (some ⟨q,off,none⟩) n c1) (hs:a.eval s= .slice sp m c2)
 (L:List Value) (l:List UInt8) (hg:Cells U w q L) (hl:l.length=m) (hb:BL w sp l) (hmn:m<=n) (hn:off+n<=L.length)
 (h:∀w',Hid (Cells U w' q (splice L off (aD l)))->Hid (Flow.Into [q] w w')->wpList P ops Q rest (a.put o.dst (goInt m)) w'):wpList P ops Q (o::rest) a w:=by
 subst hl;by_cases h0:l.length=0
 . obtain rfl:l=[]:=List.eq_nil_of_length_eq_zero h0
   refine wpList_copy_nothing hgd d s dT sT ho U hu hsz _ sp n c1 0 c2 hd hs (by simp) ?_;exact h w (by unfold Hid;simpa[splice,aD]using hg) (by unfold Hid;exact Flow.Into.refl _ _)
 . obtain⟨b,o',rfl,hc⟩:=hb (by omega)
   refine wpList_copy_own hgd d s dT sT ho U hu hsz q off n c1 ⟨b,o',none⟩ l.length c2 hd hs L.toArray U hg (aD l) (by simpa using(Nat.min_eq_left hmn).symm) (fun j v hj=>?_) (by simp;omega) (nu l) ?_
   . have hjl:j<l.length:=by
      rcases Nat.lt_or_ge j l.length with h'|h'
      . exact h'
      . rw[List.getElem?_eq_none (by simpa using h')]at hj;cases hj
     have hv:v=kH l[j]:=(by simpa[aD,hjl]using hj.symm);rw[hv,<-hc j hjl];by_cases h0:j=0<;>simp[Addr.add,h0]
   . rw[bE]
     refine h _ ?_ ?_
     . unfold Hid Cells
       have:=setRow_heap w q _ (splice L off (aD l)).toArray U _ hg;simpa[splice]using this
     . unfold Hid
       exact⟨rfl,rfl,rfl,by simp[World.setRow],fun k _ hk=>setRow_other w q k _ (by simpa using hk)⟩
end Dv
end Go.Proofs.YtmcbidhpkpmalaaGreatDoor
namespace Go.Proofs.YtmcbidhpkpmalaaGreatDoor
open Go.RowKit
open List (replicate)
namespace Dv
open Mem
theorem NG:(Tryz.prog.info? 26).map (fun i=>(i.zero,i.size,i.bytes))=some (some (.slice none 0 0),1,24):=by kernel_rfl
theorem gK:(Tryz.prog.info? 5).map (fun i=>(i.zero,i.size,i.bytes))=some (some (.int .u8 0),1,1):=by kernel_rfl
theorem p9:(Tryz.prog.info? 5).map (·.size)=some 1:=by kernel_rfl
theorem Ba(m:Int)(w:World)(h0:1<=m)(h1:m<=65536):CW 90 #[m] w (.bool true):=by go_enter Tryz.func90,Tryz.ntmps90;go_wp2;go_ret;exact⟨rfl,rfl⟩
theorem xV(n i:Nat)(x:Nat × Nat × Nat):(replicate n (none:Bk))[i]? ≠some (some x):=fun h=>by rw[List.getElem?_replicate]at h;split at h<;>simp at h
theorem KX{w2:World}{g b n m:Nat}(hb:Ow 26 w2 b n (replicate n (.slice none 0 0)))(hg:w2.heap[g]? =some (.cells #[(m:Int),.slice (some b) n n,.int .u64 0,.int .u64 0] 144 (0,0))):
 iw w2 g b n m (replicate n none) (replicate n (replicate m 0)) 0 0:=by
 refine⟨by simpa using hg,?_,by simp,fun l hl=>?_,fun i hi=>?_,fun i q o k hi=>absurd hi (xV n i _),fun i j q o k o' k' _ hi=>absurd hi (xV n i _)⟩
 . rw[List.map_replicate];exact hb
 . rw[List.eq_of_mem_replicate hl];simp
 . rw[List.getElem?_replicate]at hi ⊢
   split at hi
   . rename_i h;rw[if_pos h]
   . cases hi
def SE(w w':World)(n m:Nat)(e:Ending):Prop:=∃g b,e=.returned (.tuple #[(g:Nat),(0:Int)])/\iw w' g b n m (replicate n none) (replicate n (replicate m 0)) 0 0/\w.heap.size<=g/\w.heap.size<=b
theorem Qq(n m:Nat)(w:World)(n1:5<=n)(n2:n<=65536)(m1:1<=m)(m2:m<=65536):Calls Tryz.prog 53 #[(n:Int),(m:Int)] w fun e w'=>SE w w' n m e/\Bw w w':=by (have hmk:=fun w=>fP (P:=Tryz.prog) Tryz.underlying142 NG rfl (by omega) n (by omega) w;have cS:=fun w=>Lib.hid (Ba m w (by omega) (by omega));have HM:Hid (n<=1048576):=by unfold Hid;omega);go_enter Tryz.func53,Tryz.ntmps53;go_wp2_with (go_at_call 90;refine(cS _).mono ?_;rintro e w' ⟨rfl,rfl⟩);(have hw0:Ow 26 (w.alloc (.cells (Array.replicate n (.slice none 0 0)) 26)) w.heap.size n (replicate n (.slice none 0 0)):=by have:=xE 26 w (.slice none 0 0) n HM.out;simpa using this);(have hb1:Bw w (w.alloc (.cells (Array.replicate n (.slice none 0 0)) 26)):=bAx;have hs1:(w.alloc (.cells (Array.replicate n (.slice none 0 0)) 26)).heap.size=w.heap.size+1:=by simp);generalize w.alloc (.cells (Array.replicate n (.slice none 0 0)) 26)=w1 at*;refine bodyPost_ret (v:= .tuple #[.pointer (some ⟨w.heap.size+1,0,none⟩),(0:Int)]) (by simp[results,Tryz.results53,go_sem]) rfl ⟨?_,hb1.alloc hb1.size _⟩;exact⟨w.heap.size+1,w.heap.size,rfl,KX (hw0.kept ((Below.refl _ _).alloc (Nat.le_refl _) (.cells #[(m:Int),.slice (some w.heap.size) n n,.int .u64 0,.int .u64 0] 144))) (by rw[<-hs1,heap_alloc_new]),by omega,Nat.le_refl _⟩
def Made(w w':World)(m:Nat)(ls:List (List UInt8))(r s:Nat)(e:Ending):Prop:=∃g S,e=.returned (.tuple #[(g:Nat),(0:Int)])/\Dev w' S g m ls r s/\∀k,k∈S->w.heap.size<=k
theorem mq(n m:Nat)(w:World)(n1:5<=n)(n2:n<=65536)(m1:1<=m)(m2:m<=65536):Calls Tryz.prog 53 #[(n:Int),(m:Int)] w fun e w'=>Made w w' m (replicate n (replicate m 0)) 0 0 e/\Bw w w':=
 (Qq n m w n1 n2 m1 m2).mono fun e w' ⟨⟨g,b,he,hd,hg,hb⟩,hbl⟩=>⟨⟨g,foot g b (replicate n none),he,⟨⟨b,n,_,hd,fun k hk=>hk⟩,m1,m2,by simpa using n1,by simpa using n2,hd.lt⟩,fun k hk=>by
   rcases xU hk with rfl|rfl|⟨i,o,k',hi⟩
   . exact hg
   . exact hb
   . exact absurd hi (xV n i _)⟩,hbl⟩
section
variable{w:World}{S:List Nat}{g m:Nat}{ls:List (List UInt8)}{r s:Nat}
theorem iQ(h:Dev w S g m ls r s):CW 92 #[g] w (.int .i64 (ls.length:Int)):=by obtain⟨b,c,h0,h1,h2,h3⟩:=h.cells;clear h h0 h2 h3;go_enter Tryz.func92,Tryz.ntmps92;go_wp2;go_ret;exact⟨rfl,rfl⟩
theorem vQ(h:Dev w S g m ls r s):CW 93 #[g] w (.int .i64 (m:Int)):=by obtain⟨b,c,h0,h1,h2,h3⟩:=h.cells;clear h h1 h2 h3;go_enter Tryz.func93,Tryz.ntmps93;go_wp2;go_ret;exact⟨rfl,rfl⟩
theorem DW(h:Dev w S g m ls r s):CB 49 #[g] w (.agg #[.int .u64 (r:Int),.int .u64 (s:Int)]):=by obtain⟨b,c,h0,h1,h2,h3⟩:=h.cells;have hg:g<w.heap.size:=Flow.lt_of_cell h2;clear h h0 h1;go_enter Tryz.func49,Tryz.ntmps49;go_wp2;refine bodyPost_ret (v:= .agg #[.int .u64 (r:Int),.int .u64 (s:Int)]) (by simp[results,Tryz.results49,go_sem]) rfl ⟨rfl,?_⟩;exact bAx
theorem fH(h:Dev w S g m ls r s)(i:Nat)(hi:i<ls.length):CW 109 #[g,.int .u32 (i:Int)] w (.int .i64 0):=by (have cB:=Lib.hid (iQ h);have n1:=h.n1;have n2:=h.n2;obtain⟨n,hn⟩:=eX ls.length;rw[<-hn]at cB hi n1 n2;have hn0:((n:Int)==0)=false:=by simp;omega);clear h hn;go_enter Tryz.func109,Tryz.ntmps109;go_wp2_with (go_at_call 92;refine cB.mono ?_;rintro e w' ⟨rfl,rfl⟩);go_ret;exact⟨rfl,rfl⟩
end
end Dv
end Go.Proofs.YtmcbidhpkpmalaaGreatDoor
namespace Go.Proofs.YtmcbidhpkpmalaaGreatDoor
open Go.RowKit
open Go.Lib (hid)
open List (replicate)
namespace Dv
open Mem
theorem bq{S S':List Nat}{a b c:World}(h:Flow.Into S a b)(k:Flow.Into S' b c)(hn:∀x,x∈S'->x∈S\/a.heap.size<=x):Flow.Into S a c:=
 ⟨k.os.trans h.os,k.tape.trans h.tape,k.output.trans h.output,Nat.le_trans h.size k.size,fun i hi hs=>(k.block i (Nat.lt_of_lt_of_le hi h.size) (fun hh=>by
   rcases hn i hh with h'|h'
   . exact hs h'
   . omega)).trans (h.block i hi hs)⟩
theorem oh{α:Type}{L l:List α}(h:l.length=L.length):splice L 0 l=l:=by simp[splice,h]
theorem iw.look{w:World}{g b c m:Nat}{bks:List Bk}{ls:List (List UInt8)}{r s:Nat}(h:iw w g b c m bks ls r s){i:Nat}{x:List UInt8}(hy:ls[i]? =some x):
 ∃A n' k' l',w.cell? ⟨b,i,none⟩=some (.slice A n' k')/\BL w A l'/\l'.length=n'/\n'<=m/\Go.splice (aD (replicate m 0)) 0 (aD l')=aD x:=by
 obtain⟨hi,-⟩:=List.getElem?_eq_some_iff.1 hy;have hib:i<bks.length:=by rw[h.len];exact hi
 have hx:bks[i]? =some bks[i]:=List.getElem?_eq_getElem hib;have hc:=h.He hx
 match e:bks[i]with
 |none=>
  rw[e]at hx hc;have h1:=h.no i hx;rw[hy]at h1;refine⟨none,0,0,[],hc,BL.nil _ _,rfl,Nat.zero_le _,?_⟩;rw[Option.some.inj h1];simp[Go.splice,aD]
 |some (q,o,k)=>
  rw[e]at hx hc;obtain⟨_,_,_,C,x',h4,h5,h6,h7⟩:=h.yes i q o k hx;rw[hy]at h6;obtain rfl:=Option.some.inj h6;obtain⟨hl,hb⟩:=qz h4 h5 h7;refine⟨some ⟨q,o,none⟩,m,k,x,hc,hb,hl,Nat.le_refl _,oh (by simp[hl])⟩
section
variable{w:World}{S:List Nat}{g m:Nat}{ls:List (List UInt8)}{r s:Nat}
theorem KY(h:Dev w S g m ls r s)(i:Nat)(x:List UInt8)(hx:ls[i]? =some x)(hr:r<=1000000):Calls Tryz.prog 70 #[g,.int .u32 (i:Int)] w fun e w'=>(∃q k,e=.returned (.tuple #[.slice (some (q:Nat)) m k,(0:Int)])/\Row 5 w' q x/\w.heap.size<=q)/\Dev w' S g m ls (r+1) s/\Flow.Into [g] w w':=by (obtain⟨hi,hx'⟩:=List.getElem?_eq_some_iff.1 hx;have cP:=hid (fH h i hi);have hmk:=fun w=>fP (P:=Tryz.prog) Tryz.underlying26 gK rfl (by omega) m (by have:=h.m2;omega) w;obtain⟨⟨b,c,bks,h1,h2⟩,m1,m2,n1,n2,h7⟩:=h;have H7:=hid h7;clear h7;obtain⟨d0,d1,d2,d3⟩:=h1.cells;have f2:=h1.free 2;have hwr:IntKind.u64.wrap ((r:Int)+1)=(r:Int)+1:=by rw[IntKind.wrap_u64];omega);(have HW:=hid h1;have HS:=hid h2;have hib:i<bks.length:=by rw[h1.len];exact hi);obtain⟨n,hn⟩:=eX bks.length;rw[<-hn]at d1 hib;have HN:=hid hn;have HX:=hid hx;clear hx hx' h1 h2 hi hn d0 d1 d3;go_enter Tryz.func70,Tryz.ntmps70;go_upto_region 5 with(go_at_call 109;refine cP.mono ?_;rintro e w' ⟨rfl,rfl⟩);have hr1:=HW.read;generalize w.setCell ⟨g,2,none⟩ (.int .u64 ((r:Int)+1))=w1 at*;obtain⟨hw1,hi1⟩:=hr1;have HW1:=hid hw1;have HI1:=hid hi1;obtain⟨d0,d1,-,-⟩:=hw1.cells;rw[<-HN.out]at d1;clear d2 f2 hw1 hi1;go_upto_region 6 with fail;(have hrow:Row 5 (w1.alloc (.cells (Array.replicate m (.int .u8 0)) 5)) w1.heap.size (replicate m 0):=by have:=Row.new 5 w1 (replicate m 0);simpa[aD,kH]using this);(have hb2:Bw w1 (w1.alloc (.cells (Array.replicate m (.int .u8 0)) 5)):=bAx;generalize w1.alloc (.cells (Array.replicate m (.int .u8 0)) 5)=w2 at*;have HW2:=hid (HW1.kept hb2);obtain⟨q,hq⟩:=eX w1.heap.size;have hqs:w.heap.size<=q:=by have:=HI1.size;omega);rw[<-hq]at hrow ⊢;have GL:Hid (Cells 5 w2 q (aD (replicate m 0))):=hid hrow;have HB2:=hid hb2;have HQ:=hid hq;obtain⟨A,n',k',l',e1,e2,e3,e4,e5⟩:=HW2.look HX.out;have HE2:=hid e2;have HE3:=hid e3;have HE5:=hid e5;obtain⟨d0,d1,-,-⟩:=HW2.cells;rw[<-HN.out]at d1;clear hrow hb2 hq e2 e3 e5;go_wp2_with (with_reducible refine eT rfl (.tmp 28) (.tmp 35) _ _ rfl 5 Tryz.underlying26 p9 q 0 m m n' k' A rfl rfl (aD (replicate m 0)) l' GL.out HE3.out HE2.out e4 (by simp) ?_;intro w3 hr3 hi3);refine bodyPost_ret (v:= .tuple #[.slice (some q) m m,(0:Int)]) (by simp[results,Tryz.results70,go_sem]) rfl ⟨⟨q,m,rfl,?_,hqs⟩,⟨⟨b,c,bks,?_,HS.out⟩,m1,m2,n1,n2,fun k hk=>Nat.lt_of_lt_of_le (H7.out k hk) (Nat.le_trans HI1.size (Nat.le_trans HB2.size hi3.size))⟩,?_⟩;(. have:=hr3.out;rw[HE5.out]at this;exact this);(. refine HW2.into hi3.out fun k hk=>?_;have:=HW1.lt k hk;have:=HQ.out;simp;omega);. refine bq (HI1.trans (Flow.Into.of_below HB2.out)) hi3.out fun y hy=> .inr ?_;obtain rfl:y=q:=(by simpa using hy);exact hqs
end
end Dv
end Go.Proofs.YtmcbidhpkpmalaaGreatDoor
namespace Go.Proofs.YtmcbidhpkpmalaaGreatDoor
open Go.RowKit
open Go.Lib (hid)
open List (mem_cons replicate)
namespace Dv
open Mem
section
variable{w:World}{S:List Nat}{g m:Nat}{ls:List (List UInt8)}{r s:Nat}
theorem DX{b c:Nat}{bks:List Bk}(i:Nat)(h1:iw w g b c m bks ls r s)(cP0:CW 109 #[g,.int .u32 (i:Int)] w (.int .i64 0))(hs:s<=1000000)
 (A:Option Addr) (k:Nat) (l:List UInt8) (hl:l.length=m) (hA:BL w A l) (hn:∀a,A=some a->a.block≠g) {q o k':Nat} (hx:bks[i]? =some (some (q,o,k'))):
 Calls Tryz.prog 140 #[g,.int .u32 (i:Int),.slice A m k] w fun e w'=>e=.returned (0:Int)/\iw w' g b c m bks (ls.set i l) r (s+1)/\Flow.Into [g,q] w w':=by
 have cP:=hid cP0;obtain⟨d0,d1,d2,d3⟩:=h1.cells;have f3:=h1.free 3;have hwr:IntKind.u64.wrap ((s:Int)+1)=(s:Int)+1:=by rw[IntKind.wrap_u64];omega
 have HW:=hid h1;have HX:=hid hx;have HL:=hid hl;have HA:=hid hA;have HN:=hid hn;have hib:i<bks.length:=(List.getElem?_eq_some_iff.1 hx).1;have hnil:∀W,(binOp .eql 26 (.slice (some ⟨q,o,none⟩) m k') (.slice none 0 0)).run Tryz.prog W= .ok (.bool false) W:=fun W=>Lib.run_eql_slice_nil W _ _ _ _ _ _ _ Tryz.underlying26
 obtain⟨n,hn'⟩:=eX bks.length;rw[<-hn']at d1 hib;have HNN:=hid hn';clear hx hl hA hn h1 cP0 hn' d1 d2;go_enter Tryz.func140,Tryz.ntmps140
 go_upto_region 7 with(go_at_call 109;refine cP.mono ?_;rintro e w' ⟨rfl,rfl⟩)
 have hr1:=HW.wrote;generalize w.setCell ⟨g,3,none⟩ (.int .u64 ((s:Int)+1))=w1 at*;obtain⟨hw1,hi1⟩:=hr1;have HW1:=hid hw1;have HI1:=hid hi1;have HA1:=hid (HA.keep (w':=w1) fun hl a ha=>hi1.block _ (HA.lt hl a ha) (by simpa using HN.out a ha));obtain⟨-,d1,-,-⟩:=hw1.cells;rw[<-HNN.out]at d1;have d4:w1.cell? ⟨b,i,none⟩=some (.slice (some ⟨q,o,none⟩) m k'):=hw1.He HX.out;obtain⟨q1,q2,q3,L,x0,q4,q5,q6,q7⟩:=hw1.yes i q o k' HX.out;have HQ4:=hid q4;clear d3 f3 hw1 hi1 q4 q6 q7 d0;go_wp2_with (with_reducible refine eT rfl (.tmp 55) (.tmp 56) _ _ rfl 5 Tryz.underlying26 p9 q o m k' m k A rfl rfl L l HQ4.out HL.out HA1.out (Nat.le_refl _) q5 ?_;intro w3 hr3 hi3)
 go_ret
 refine⟨rfl,HW1.splice HX.out HQ4.out HL.out hi3.out hr3.out,?_⟩;exact(HI1.mono fun y hy=>by simp at hy ⊢;exact .inl hy).trans (hi3.mono fun y hy=>by simp at hy ⊢;exact .inr hy)
theorem DY{b c:Nat}{bks:List Bk}(i:Nat)(h1:iw w g b c m bks ls r s)(m1:1<=m)(m2:m<=65536)(cP0:CW 109 #[g,.int .u32 (i:Int)] w (.int .i64 0))(hs:s<=1000000)
 (A:Option Addr) (k:Nat) (l:List UInt8) (hl:l.length=m) (hA:BL w A l) (hn:∀a,A=some a->a.block≠g/\a.block≠b) (hx:bks[i]? =some none):
 Calls Tryz.prog 140 #[g,.int .u32 (i:Int),.slice A m k] w fun e w'=>e=.returned (0:Int)/\(∃q,iw w' g b c m (bks.set i (some (q,0,m))) (ls.set i l) r (s+1)/\w.heap.size<=q)/\Flow.Into [g,b] w w':=by
 have cP:=hid cP0;obtain⟨d0,d1,d2,d3⟩:=h1.cells;have f3:=h1.free 3;have hwr:IntKind.u64.wrap ((s:Int)+1)=(s:Int)+1:=by rw[IntKind.wrap_u64];omega
 have HW:=hid h1;have HX:=hid hx;have HL:=hid hl;have HA:=hid hA;have HN:=hid hn;have hib:i<bks.length:=(List.getElem?_eq_some_iff.1 hx).1;have HIB:=hid hib;obtain⟨n,hn'⟩:=eX bks.length;rw[<-hn']at d1 hib;have HNN:=hid hn';have hnil:∀W,(binOp .eql 26 (.slice none 0 0) (.slice none 0 0)).run Tryz.prog W= .ok (.bool true) W:=fun W=>Lib.run_eql_slice_nil W _ _ _ _ _ _ _ Tryz.underlying26
 have hmk:=fun w=>fP (P:=Tryz.prog) Tryz.underlying26 gK rfl (by omega) m (by omega) w;clear hx hl hA hn h1 cP0 hn' d1 d2;go_enter Tryz.func140,Tryz.ntmps140
 go_upto_region 7 with(go_at_call 109;refine cP.mono ?_;rintro e w' ⟨rfl,rfl⟩)
 have hr1:=HW.wrote;generalize w.setCell ⟨g,3,none⟩ (.int .u64 ((s:Int)+1))=w1 at*;obtain⟨hw1,hi1⟩:=hr1;have HW1:=hid hw1;have HI1:=hid hi1;have HA1:=hid (HA.keep (w':=w1) fun hl a ha=>hi1.block _ (HA.lt hl a ha) (by simpa using(HN.out a ha).1));obtain⟨d0',d1,-,-⟩:=hw1.cells;rw[<-HNN.out]at d1;have d4:w1.cell? ⟨b,i,none⟩=some (.slice none 0 0):=hw1.He HX.out;clear d3 f3 hw1 hi1 d0;go_upto_region 8 with fail
 have D4:=hid d4;have e0:=ah.tc d0';have e1:=ah.tc d1;clear d0' d1 d4 cP;refine ah.aj [] [(0,[]),(1,[]),(2,[]),(3,[]),(4,[]),(5,[]),(6,[]),(7,[]),(8,[]),(9,[])] [] [9] (by kernel_rfl) (by kernel_rfl) (by simp) ?_;simp only[ah.pick,ah.aM,ah.dL]
 repeat (refine ah.ak (fun K hK=>?_);go_simp;(refine hK _ ?_;clear hK K))
 refine ah.bP rfl ah.aC (fun b=> .slice (some (b:Nat)) m m) (.cells (replicate m (.int .u8 0)).toArray 5) (fun W=>by go_simp) (fun q hq hT=>?_);refine ah.walk_nil ?_;intro w2 hb2 hl2
 have hrow:Row 5 w2 q (replicate m 0):=by
  have:=hl2 (q,.cells (replicate m (.int .u8 0)).toArray 5) (by simp);unfold Row;simpa[aD,kH]using this
 have HW2:=hid (HW1.kept hb2)
 have hqn:q≠g/\q≠b:=by
  have h1:=HW1.lt g (by simp[foot]);have h2:=HW1.lt b (by simp[foot]);omega
 have hput:iw (w2.setCell ⟨b,i,none⟩ (.slice (some q) m m)) g b c m (bks.set i (some (q,0,m))) (ls.set i (replicate m 0)) r (s+1)/\Flow.Into [b] w2 (w2.setCell ⟨b,i,none⟩ (.slice (some q) m m)):=HW2.put (o:=0) HIB.out hrow hqn.1 hqn.2 (by simp) (by have:=KW (aD (replicate m 0));rw[bE,List.length_replicate]at this;exact this) (Nat.le_refl m) (fun j o' k' _ hj=>by
  have:=HW1.lt q (nJ hj)
  omega)
 have GL:=hid hrow;have HQ:=hid hq;have HB2:=hid hb2;have f5:=HW2.Qp i;have d4:=(Below.cell hb2 (p:=⟨b,i,none⟩) (HW1.lt b (by simp[foot]))).trans D4.out;clear hrow hq hb2 hl2 e0 e1 hT;simp only[lC,Nat.zero_add,Nat.reduceAdd];go_upto_region 9 with fail
 have hrow3:Cells 5 (w2.setCell ⟨b,i,none⟩ (.slice (some q) m m)) q (aD (replicate m 0)):=(hput.2.block q GL.lt (by simpa using hqn.2)).trans GL.out;have hA3:BL (w2.setCell ⟨b,i,none⟩ (.slice (some q) m m)) A l:=(HA1.below HB2.out).keep fun hl a ha=>hput.2.block _ ((HA1.below HB2.out).lt hl a ha) (by simpa using(HN.out a ha).2);generalize w2.setCell ⟨b,i,none⟩ (.slice (some q) m m)=w3 at*;obtain⟨hw3,hi3⟩:=hput;have HW3:=hid hw3;have HI3:=hid hi3;have HR3:=hid hrow3;have HA3:=hid hA3;obtain⟨-,d1,-,-⟩:=hw3.cells;rw[List.length_set,<-HNN.out]at d1;have hxs:(bks.set i (some (q,0,m)))[i]? =some (some (q,0,m)):=by rw[List.getElem?_set];simp[HIB.out]
 have HXS:=hid hxs;have d4':w3.cell? ⟨b,i,none⟩=some (.slice (some q) m m):=hw3.He hxs;clear hw3 hi3 hrow3 hA3 f5 d4 hxs;go_wp2_with (with_reducible refine eT rfl (.tmp 55) (.tmp 56) _ _ rfl 5 Tryz.underlying26 p9 q 0 m m m k A rfl rfl (aD (replicate m 0)) l HR3.out HL.out HA3.out (Nat.le_refl _) (by simp) ?_;intro w4 hr4 hi4)
 go_ret
 refine⟨rfl,⟨q,?_,?_⟩,?_⟩
 . have:=HW3.splice HXS.out HR3.out HL.out hi4.out hr4.out
   rw[List.set_set]at this;exact this
 . have:=HI1.size
   have:=HQ.out;omega
 . refine bq ((HI1.mono fun y hy=>by simp at hy ⊢;exact .inl hy).trans ((Flow.Into.of_below HB2.out).trans (HI3.mono fun y hy=>by simp at hy ⊢;exact .inr hy))) hi4.out fun y hy=> .inr ?_
   obtain rfl:y=q:=(by simpa using hy);have:=HI1.size;have:=HQ.out;omega
theorem Hf(h:Dev w S g m ls r s)(i:Nat)(hi:i<ls.length)(hs:s<=1000000)(A:Option Addr)(k:Nat)(l:List UInt8)(hl:l.length=m)(hA:BL w A l)(hn:∀a,A=some a->a.block∉S):
 Calls Tryz.prog 140 #[g,.int .u32 (i:Int),.slice A m k] w fun e w'=>e=.returned (0:Int)/\(∃S',Dev w' S' g m (ls.set i l) r (s+1)/\zC w S S')/\Flow.Into S w w':=by
 have cP:=fH h i hi;obtain⟨⟨b,c,bks,h1,h2⟩,m1,m2,n1,n2,h7⟩:=h;have hib:i<bks.length:=by rw[h1.len];exact hi
 have hx:bks[i]? =some bks[i]:=List.getElem?_eq_getElem hib;have hg:g∈S:=h2 g (by simp[foot]);have hb:b∈S:=h2 b (by simp[foot])
 match e:bks[i]with
 |none=>
  rw[e]at hx;refine(DY i h1 m1 m2 cP hs A k l hl hA (fun a ha=>⟨fun h'=>hn a ha (h'▸hg),fun h'=>hn a ha (h'▸hb)⟩) hx).mono fun e w' ⟨he,⟨q,hd,hq⟩,hi'⟩=>?_;refine⟨he,⟨q::S,⟨⟨b,c,_,hd,fun k' hk'=>?_⟩,m1,m2,by simpa using n1,by simpa using n2,fun k' hk'=>?_⟩,fun k' hk'=>?_⟩,hi'.mono fun y hy=>?_⟩
  . rcases G9 hk' with rfl|h'
    . exact List.mem_cons_self
    . exact List.mem_cons_of_mem _ (h2 _ h')
  . rcases mem_cons.1 hk' with rfl|h'
    . exact hd.lt _ (nJ (i:=i) (o:=0) (k:=m) (by rw[List.getElem?_set];simp[hib]))
    . exact Nat.lt_of_lt_of_le (h7 _ h') hi'.size
  . rcases mem_cons.1 hk' with rfl|h'
    . exact .inr hq
    . exact .inl h'
  . simp at hy
    rcases hy with rfl|rfl
    . exact hg
    . exact hb
 |some (q,o,k')=>
  rw[e]at hx;refine(DX i h1 cP hs A k l hl hA (fun a ha h'=>hn a ha (h'▸hg)) hx).mono fun e w' ⟨he,hd,hi'⟩=>?_;refine⟨he,⟨S,⟨⟨b,c,_,hd,h2⟩,m1,m2,by simpa using n1,by simpa using n2,fun k' hk'=>Nat.lt_of_lt_of_le (h7 _ hk') hi'.size⟩,fun k' hk'=> .inl hk'⟩,hi'.mono fun y hy=>?_⟩;simp at hy;rcases hy with rfl|rfl
  . exact hg
  . exact h2 _ (nJ hx)
end
end Dv
end Go.Proofs.YtmcbidhpkpmalaaGreatDoor
