import Derived.Test.YtjpjjnalpdpljaaGreatDoorPkAV
import Derived.StillTailTactics
set_option maxHeartbeats 4000000
set_option maxRecDepth 100000
namespace Go.Proofs.YtjpjjnalpdpljaaGreatDoor
open Go.RowKit
open Go.Lib (hid)
open IntKind (wrap_i64)
open List (append_assoc drop_succ_cons drop_zero length_append mem_of_getElem? take_length take_succ_cons take_zero)
namespace No
open Mem Lx Bu Lf Fa
open Wd (be val aD dY isW gH)
theorem jW {α:Type} {f:α->List UInt8} {S:Nat} {L:List α} (hS:∀x∈L,(f x).length=S) {k:Nat} (hk:k<=L.length):((L.take k).flatMap f).length=k*S:=by
 rw [iU fun x hx=>hS x (List.mem_of_mem_take hx),List.length_take,Nat.min_eq_left hk]
theorem lY {α:Type} {f:α->List UInt8} {L:List α} {k:Nat} {x:α} (h:L[k]? =some x):(L.take k).flatMap f++f x=(L.take (k+1)).flatMap f:=by
 rw [List.take_add_one,h,List.flatMap_append];simp
def prL (c:Cfg) (x:Pr):List UInt8:=jh c x.1 x.2
theorem FI {w:World} {b:Nat} {v0 v1 v2:Value} {U:TypeId} (h:w.heap[b]? =some (.cells #[v0,v1,v2] U (0,0))):w.cell? ⟨b,0,none⟩=some v0/\w.cell? ⟨b,1,none⟩=some v1/\w.cell? ⟨b,2,none⟩=some v2:=by
 simp [World.cell?,h]
theorem FJ (d:Bool):be 1 (pO d).toNat=[pO d]:=by cases d<;>rfl
theorem IC {w:World} {b:Nat} {v0 v1:Value} {U:TypeId} (h:w.heap[b]? =some (.cells #[v0,v1] U (0,0))):w.cell? ⟨b,0,none⟩=some v0/\w.cell? ⟨b,1,none⟩=some v1:=by
 simp [World.cell?,h]
theorem Wr.cells {c:Cfg} {B:Nat} {w:World} {g:Nat} {xs:List UInt8} (h:Wr c B w g xs):w.cell? ⟨g,3,none⟩=some (.int .i64 c.fan)/\w.cell? ⟨g,6,none⟩=some (.int .i64 c.key)/\w.cell? ⟨g,7,none⟩=some (.int .i64 c.val):=by
 obtain ⟨v,h1,-⟩:=h.ex;exact ⟨(fU h1).2.1,(fU h1).2.2.1,(fU h1).2.2.2.1⟩
theorem EZ {c:Cfg} {F Bf Lf K V:Nat} (hs:lD c F Bf Lf K V) {W0 w:World} {g:Nat} {xs:List UInt8} (hB0:Bw W0 w) (h:Wr c W0.heap.size w g xs) {A:Option Addr} {cc:Nat} {L:List Nat} (hL:KL W0 A L) (hp:∀x∈L,x<4294967296) (hfl:L.length<=F) (hx:xs.length+L.length*(4)<=1000000):Calls Tryz.prog 153 #[g,.slice A L.length cc] w fun e w'=>e=.returned (.tuple #[])/\Wr c W0.heap.size w' g (xs++(L.flatMap (be 4)++zs (4*(c.fan-L.length))))/\Kw W0.heap.size w w':=by
 have hS:∀x∈L,((be 4) x).length=4:=fun x _=>aD 4 x
 obtain ⟨d,hd⟩:∃d,d=F-L.length:=⟨_,rfl⟩
 obtain ⟨d4,hd4⟩:∃d4,d4=4*d:=⟨_,rfl⟩
 have hz:zs (4*(c.fan-L.length))=List.replicate d4 0:=by
  unfold zs;congr 1
  rw [hs.fan];omega
 have hdl:L.length+d=F:=by omega
 have hF:=hs.f;have Lu:=hs.fan;rw [hz,<-append_assoc];clear hz hd hfl;obtain ⟨n,hn⟩:∃n,n=L.length:=⟨_,rfl⟩
 have hT:∀k,k<=n->((L.take k).flatMap (be 4)).length=k*(4):=fun k hk=>jW hS (by omega)
 have HT:=hid hT
 have HX:∀k,k<n->xs.length+k*(4)+(4)<=1000000:=fun k hk=>by
  have h9:(k+1)*(4)<=L.length*(4):=Nat.mul_le_mul_right _ (by omega);rw [Nat.succ_mul] at h9;omega
 have HX0:Hid (xs.length<=1000000):=Nat.le_trans (Nat.le_add_right _ _) hx;have HL:=hid hL;have HW0:=hid h;have HB0:=hid hB0;have HN:=hid hn;have HP:=hid hp;have HSO:=hid hs;obtain ⟨f,hf⟩:∃f,f=(be 4):=⟨_,rfl⟩
 have HF:=hid hf;rw [<-hf] at HT;rw [<-hf,<-hn];rw [<-hn] at hdl
 have hn9:n<=1000000:=by
  rcases Nat.eq_zero_or_pos n with h9|h9
  . omega
  . have:=HX (n-1) (by omega)
    have:(n-1)*1<=(n-1)*(4):=Nat.mul_le_mul_left _ (by omega);omega
 clear h hB0 hL hS hT hn hp hf hx hs;go_enter Tryz.func153,Tryz.ntmps153
 go_wp2_with fail
 go_loopg [8] n (fun gk kv wr=>∃k:Nat,k<=n/\gk=n-k/\kv= .int .i64 (k:Int)/\Hid (Wr c W0.heap.size wr g (xs++(L.take k).flatMap f))/\Hid (Kw W0.heap.size w wr))
 case atStart=>exact ⟨0,Nat.zero_le _,rfl,rfl,by unfold Hid;simpa using HW0.out,Kp.refl _ _ _ _⟩
 case round=>
  obtain ⟨k,hk,rfl,rfl,HW,HK⟩:=hrel;by_cases hlt:k<n
  . obtain ⟨x,hxk⟩:∃x,L[k]? =some x:=⟨_,List.getElem?_eq_getElem (by have:=HN.out;omega)⟩
    have HXK:=hid hxk;have hx1:=HX k hlt;have hxl:=HT.out k hk;have hpx:=HP.out x (mem_of_getElem? hxk)
    have HNX:Hid (xs++(L.take k).flatMap f++f x=xs++(L.take (k+1)).flatMap f):=by
     unfold Hid;rw [append_assoc,lY hxk]
    obtain ⟨ys,hys⟩:∃ys,ys=xs++(L.take k).flatMap f:=⟨_,rfl⟩
    have hyl:ys.length=xs.length+k*4:=(by rw [hys,length_append,hxl]);rw [<-hys] at HW HNX;clear hys hxl;have hB1:W0.heap.size<=wr.heap.size:=HW.out.hB;obtain ⟨b,o,rfl,-,c0⟩:=RdK.kid (HL.out.kept (HB0.out.trans HK.out.below)) hxk;have cN:Hid (Calls Tryz.prog 179 #[g,(4:Int),(x:Int)] wr fun e w'=>e=.returned (.tuple #[])/\Wr c W0.heap.size w' g (ys++be 4 x)/\Kw W0.heap.size wr w'):=gL c HW.out 4 x rfl (by omega) (by omega);have hu:IntKind.i64.wrap (x:Int)=(x:Int):=(by rw [wrap_i64];omega);have hfx:f x=be 4 x:=(by rw [HF.out]);rw [hfx] at HNX;clear hxk hfx hyl hx1;go_upto_region 4 with (go_at_call 179;refine cN.out.mono ?_;rintro e w1 ⟨rfl,hw,hkw⟩;rw [HNX.out] at hw;have HWZ:=hid hw;have HKZ:=hid (HK.out.trans hkw);clear hw hkw cN HNX hpx c0)
    go_wp2_with fail
    go_roundg (n-(k+1))
    case measure=>omega
    case rel=>exact ⟨k+1,hlt,rfl,by go_num,HWZ,HKZ⟩
  . obtain rfl:n=k:=by omega
    have HE:Hid (L.take n=L):=by
     unfold Hid;rw [HN.out,take_length]
    rw [HE.out] at HW;have hm4:IntKind.i64.wrap ((F:Int)-(n:Int))=(d:Int):=(by rw [wrap_i64];omega);have hm5:IntKind.i64.wrap (4*(d:Int))=(d4:Int):=(by rw [wrap_i64];omega);have c3:=HW.out.cells.1;rw [Lu] at c3
    have hlen:(xs++L.flatMap f).length=xs.length+n*4:=by
     have:=HT.out n (Nat.le_refl _);rw [HE.out] at this;rw [length_append,this]
    have hxe:xs.length<=1000000:=by
     rcases Nat.eq_zero_or_pos n with h9|h9
     . have:=HX0.out;omega
     . have:=HX (n-1) (by omega);omega
    have hz4:(xs++L.flatMap f).length+d4<=1048576:=(by omega);clear hlen hxe HX hdl hF Lu hd4;go_wp2_with (go_at_call 156;refine (gP c HW.out d4 hz4).mono ?_;rintro e w3 ⟨rfl,hw,hk⟩;have HW3:=hid hw;have HK3:=hid (HK.out.trans hk);clear hw hk)
    go_end0
    exact ⟨rfl,HW3.out,HK3.out⟩
theorem xX {c:Cfg} {F Bf Lf K V:Nat} (hs:lD c F Bf Lf K V) {W0 w:World} {g:Nat} {xs:List UInt8} (hB0:Bw W0 w) (h:Wr c W0.heap.size w g xs) {A:Option Addr} {cc:Nat} {L:List ByteArray} (hL:SL W0 A L) (hp:∀x∈L,x.size<=K) (hfl:L.length+1<=F) (hx:xs.length+L.length*(1+K)<=1000000):Calls Tryz.prog 154 #[g,.slice A L.length cc] w fun e w'=>e=.returned (.tuple #[])/\Wr c W0.heap.size w' g (xs++(L.flatMap (pvL c)++zs ((1+c.key)*(c.fan-1-L.length))))/\Kw W0.heap.size w w':=by
 have hS:∀x∈L,((pvL c) x).length=1+K:=fun x hx=>by
  have:=hp x hx;rw [xI (by rw [hs.key];omega),hs.key];rfl
 obtain ⟨d,hd⟩:∃d,d=F-1-L.length:=⟨_,rfl⟩
 obtain ⟨k1,hk1⟩:∃k1,k1=1+K:=⟨_,rfl⟩
 obtain ⟨f1,hf1⟩:∃f1,f1=F-1:=⟨_,rfl⟩
 obtain ⟨kd,hkd⟩:∃kd,kd=k1*d:=⟨_,rfl⟩
 have hF:=hs.f;have hK:=hs.k
 have hz:zs ((1+c.key)*(c.fan-1-L.length))=List.replicate kd 0:=by
  unfold zs;congr 1
  rw [hs.fan,hs.key,show (1+(K:Int))=(k1:Int) by omega,show ((F:Int)-1-(L.length:Int))=(d:Int) by omega,<-Int.natCast_mul,<-hkd];rfl
 have Ov:kd<=65*64:=by
  rw [hkd];exact Nat.mul_le_mul (by omega) (by omega)
 have hm1:IntKind.i64.wrap (1+(K:Int))=(k1:Int):=by rw [wrap_i64];omega
 have hm2:IntKind.i64.wrap ((F:Int)-1)=(f1:Int):=by rw [wrap_i64];omega
 have hm3:IntKind.i64.wrap ((f1:Int)-(L.length:Int))=(d:Int):=by rw [wrap_i64];omega
 have hm4:IntKind.i64.wrap ((k1:Int)*(d:Int))=(kd:Int):=by
  rw [<-Int.natCast_mul,<-hkd,wrap_i64];omega
 have Lu:=hs.fan;have hkey:=hs.key;rw [hz,<-append_assoc];clear hz hd hfl hk1 hkd hf1;obtain ⟨n,hn⟩:∃n,n=L.length:=⟨_,rfl⟩
 have hT:∀k,k<=n->((L.take k).flatMap (pvL c)).length=k*(1+K):=fun k hk=>jW hS (by omega)
 have HT:=hid hT
 have HX:∀k,k<n->xs.length+k*(1+K)+(1+K)<=1000000:=fun k hk=>by
  have h9:(k+1)*(1+K)<=L.length*(1+K):=Nat.mul_le_mul_right _ (by omega);rw [Nat.succ_mul] at h9;omega
 have HX0:Hid (xs.length<=1000000):=Nat.le_trans (Nat.le_add_right _ _) hx;have HL:=hid hL;have HW0:=hid h;have HB0:=hid hB0;have HN:=hid hn;have HP:=hid hp;have HSO:=hid hs;obtain ⟨f,hf⟩:∃f,f=(pvL c):=⟨_,rfl⟩
 have HF:=hid hf;rw [<-hf] at HT;rw [<-hf,<-hn];rw [<-hn] at hm3
 have hn9:n<=1000000:=by
  rcases Nat.eq_zero_or_pos n with h9|h9
  . omega
  . have:=HX (n-1) (by omega)
    have:(n-1)*1<=(n-1)*(1+K):=Nat.mul_le_mul_left _ (by omega);omega
 clear h hB0 hL hS hT hn hp hf hx hs;go_enter Tryz.func154,Tryz.ntmps154
 go_wp2_with fail
 go_loopg [8] n (fun gk kv wr=>∃k:Nat,k<=n/\gk=n-k/\kv= .int .i64 (k:Int)/\Hid (Wr c W0.heap.size wr g (xs++(L.take k).flatMap f))/\Hid (Kw W0.heap.size w wr))
 case atStart=>exact ⟨0,Nat.zero_le _,rfl,rfl,by unfold Hid;simpa using HW0.out,Kp.refl _ _ _ _⟩
 case round=>
  obtain ⟨k,hk,rfl,rfl,HW,HK⟩:=hrel;by_cases hlt:k<n
  . obtain ⟨x,hxk⟩:∃x,L[k]? =some x:=⟨_,List.getElem?_eq_getElem (by have:=HN.out;omega)⟩
    have HXK:=hid hxk;have hx1:=HX k hlt;have hxl:=HT.out k hk;have hpx:=HP.out x (mem_of_getElem? hxk)
    have HNX:Hid (xs++(L.take k).flatMap f++f x=xs++(L.take (k+1)).flatMap f):=by
     unfold Hid;rw [append_assoc,lY hxk]
    obtain ⟨ys,hys⟩:∃ys,ys=xs++(L.take k).flatMap f:=⟨_,rfl⟩
    have hyl:ys.length=xs.length+k*(1+K):=(by rw [hys,length_append,hxl]);rw [<-hys] at HW HNX;clear hys hxl;have hB1:W0.heap.size<=wr.heap.size:=HW.out.hB;have cN1:∀(w:World) (ys:List UInt8) (v:Nat),Wr c W0.heap.size w g ys->v<9223372036854775808->ys.length<=1048000->Hid (Calls Tryz.prog 179 #[g,(1:Int),(v:Int)] w fun e w'=>e=.returned (.tuple #[])/\Wr c W0.heap.size w' g (ys++be 1 v)/\Kw W0.heap.size w w'):=fun w ys v h hv hx=>gL c h 1 v rfl hv hx
    have cN2:∀(w:World) (ys:List UInt8) (v:Nat),Wr c W0.heap.size w g ys->v<9223372036854775808->ys.length<=1048000->Hid (Calls Tryz.prog 179 #[g,(2:Int),(v:Int)] w fun e w'=>e=.returned (.tuple #[])/\Wr c W0.heap.size w' g (ys++be 2 v)/\Kw W0.heap.size w w'):=fun w ys v h hv hx=>gL c h 2 v rfl hv hx
    obtain ⟨b,o,rfl,-,e0⟩:=RdK.str (HL.out.kept (HB0.out.trans HK.out.below)) hxk
    have hfx:f x=be 1 x.size++slotL (txt x) (K:Int):=by
     rw [HF.out];unfold pvL;rw [hkey]
    rw [hfx,<-append_assoc] at HNX;have c6:=HW.out.cells.2.1;rw [hkey] at c6
    have hy2:(ys++be 1 x.size).length+K<=1048000:=by
     rw [length_append,aD];generalize k*(1+K)=X at*;omega
    have hy1:ys.length<=1048000:=(by rw [length_append,aD] at hy2;omega);have hxs:x.size<9223372036854775808:=(by omega);clear hxk hfx hyl hx1 hm1 hm2 hm3 hm4 Ov;go_upto_region 4 with (go_at_call 179;refine (cN1 _ _ _ HW.out hxs hy1).out.mono ?_;rintro e w1 ⟨rfl,hw,hkw⟩;have HW1:=hid hw;have HK1:=hid (HK.out.trans hkw);clear hw hkw cN1 cN2 e0 c6;have c6:=HW1.out.cells.2.1;rw [hkey] at c6)
    go_upto_region 5 with (go_at_call 180;refine (jM c HW1.out x K hpx hy2).mono ?_;rintro e w2 ⟨rfl,hw,hkw⟩;rw [HNX.out] at hw;have HWZ:=hid hw;have HKZ:=hid (HK1.out.trans hkw);clear hw hkw HNX hpx c6 HW1 HK1 hy1 hy2 hxs)
    go_wp2_with fail
    go_roundg (n-(k+1))
    case measure=>omega
    case rel=>exact ⟨k+1,hlt,rfl,by go_num,HWZ,HKZ⟩
  . obtain rfl:n=k:=by omega
    have HE:Hid (L.take n=L):=by
     unfold Hid;rw [HN.out,take_length]
    rw [HE.out] at HW
    have hz4:(xs++L.flatMap f).length+kd<=1048576:=by
     have h8:=HT.out n (Nat.le_refl _);rw [HE.out] at h8;rw [length_append,h8];rcases Nat.eq_zero_or_pos n with h9|h9
     . have:=HX0.out
       subst h9;omega
     . have h7:=HX (n-1) (by omega)
       have h6:n*(1+K)=(n-1)*(1+K)+(1+K):=by
        rw [<-Nat.succ_mul];(congr 1);omega
       omega
    have hB1:W0.heap.size<=wr.heap.size:=HW.out.hB;clear HX hF hK Ov HT HX0;go_upto_region 6 with fail
    have hbd:Below wr.heap.size wr { wr with drawn:=wr.drawn+1 }:=⟨rfl,rfl,rfl,Nat.le_refl _,fun _ _=>rfl⟩;refine wp_region_still_tail 17 (by kernel_rfl) (by kernel_rfl) ?_;simp only [take_succ_cons,take_zero,drop_succ_cons,drop_zero];generalize { wr with drawn:=wr.drawn+1 }=w4 at*;replace HW:=hid (HW.out.kept hbd);replace HK:=hid (HK.out.trans (Kp.of_below hbd hB1));clear hbd;have c3:=HW.out.cells.1;have c6:=HW.out.cells.2.1;rw [Lu] at c3;rw [hkey] at c6
    repeat (refine wpStill_step (fun K hK=>?_);go_simp;(refine hK _ ?_;clear hK K))
    refine wpStill_nil ?_;go_wp2_with (go_at_call 156;refine (gP c HW.out kd hz4).mono ?_;rintro e w3 ⟨rfl,hw,hk⟩;have HW3:=hid hw;have HK3:=hid (HK.out.trans hk);clear hw hk)
    go_end0
    exact ⟨rfl,HW3.out,HK3.out⟩
theorem Bd {c:Cfg} {F Bf Lf K V:Nat} (hs:lD c F Bf Lf K V) {W0 w:World} {g:Nat} {xs:List UInt8} (hB0:Bw W0 w) (h:Wr c W0.heap.size w g xs) {A:Option Addr} {cc:Nat} {L:List Pr} (hL:PL W0 A L) (hp:∀x∈L,x.1.size<=K/\x.2.size<=V) (hx:xs.length+L.length*(3+K+V)<=1000000):Calls Tryz.prog 152 #[g,.slice A L.length cc] w fun e w'=>e=.returned (.tuple #[])/\Wr c W0.heap.size w' g (xs++L.flatMap (prL c))/\Kw W0.heap.size w w':=by
 have hS:∀x∈L,((prL c) x).length=3+K+V:=fun x hx=>by
  have:=hp x hx;unfold prL;rw [lN (by rw [hs.key];omega) (by rw [hs.val];omega),hs.key,hs.val];rfl
 have hkey:=hs.key;have hval:=hs.val;have hK:=hs.k;have hV:=hs.v;obtain ⟨n,hn⟩:∃n,n=L.length:=⟨_,rfl⟩
 have hT:∀k,k<=n->((L.take k).flatMap (prL c)).length=k*(3+K+V):=fun k hk=>jW hS (by omega)
 have HT:=hid hT
 have HX:∀k,k<n->xs.length+k*(3+K+V)+(3+K+V)<=1000000:=fun k hk=>by
  have h9:(k+1)*(3+K+V)<=L.length*(3+K+V):=Nat.mul_le_mul_right _ (by omega);rw [Nat.succ_mul] at h9;omega
 have HL:=hid hL;have HW0:=hid h;have HB0:=hid hB0;have HN:=hid hn;have HP:=hid hp;have HSO:=hid hs;obtain ⟨f,hf⟩:∃f,f=(prL c):=⟨_,rfl⟩
 have HF:=hid hf;rw [<-hf] at HT;rw [<-hf,<-hn]
 have hn9:n<=1000000:=by
  rcases Nat.eq_zero_or_pos n with h9|h9
  . omega
  . have:=HX (n-1) (by omega)
    have:(n-1)*1<=(n-1)*(3+K+V):=Nat.mul_le_mul_left _ (by omega);omega
 clear h hB0 hL hS hT hn hp hf hx hs;go_enter Tryz.func152,Tryz.ntmps152
 go_wp2_with fail
 go_loopg [8] n (fun gk kv wr=>∃k:Nat,k<=n/\gk=n-k/\kv= .int .i64 (k:Int)/\Hid (Wr c W0.heap.size wr g (xs++(L.take k).flatMap f))/\Hid (Kw W0.heap.size w wr))
 case atStart=>exact ⟨0,Nat.zero_le _,rfl,rfl,by unfold Hid;simpa using HW0.out,Kp.refl _ _ _ _⟩
 case round=>
  obtain ⟨k,hk,rfl,rfl,HW,HK⟩:=hrel;by_cases hlt:k<n
  . obtain ⟨x,hxk⟩:∃x,L[k]? =some x:=⟨_,List.getElem?_eq_getElem (by have:=HN.out;omega)⟩
    have HXK:=hid hxk;have hx1:=HX k hlt;have hxl:=HT.out k hk;have hpx:=HP.out x (mem_of_getElem? hxk)
    have HNX:Hid (xs++(L.take k).flatMap f++f x=xs++(L.take (k+1)).flatMap f):=by
     unfold Hid;rw [append_assoc,lY hxk]
    obtain ⟨ys,hys⟩:∃ys,ys=xs++(L.take k).flatMap f:=⟨_,rfl⟩
    have hyl:ys.length=xs.length+k*(3+K+V):=(by rw [hys,length_append,hxl]);rw [<-hys] at HW HNX;clear hys hxl;have hB1:W0.heap.size<=wr.heap.size:=HW.out.hB;have cN1:∀(w:World) (ys:List UInt8) (v:Nat),Wr c W0.heap.size w g ys->v<9223372036854775808->ys.length<=1048000->Hid (Calls Tryz.prog 179 #[g,(1:Int),(v:Int)] w fun e w'=>e=.returned (.tuple #[])/\Wr c W0.heap.size w' g (ys++be 1 v)/\Kw W0.heap.size w w'):=fun w ys v h hv hx=>gL c h 1 v rfl hv hx
    have cN2:∀(w:World) (ys:List UInt8) (v:Nat),Wr c W0.heap.size w g ys->v<9223372036854775808->ys.length<=1048000->Hid (Calls Tryz.prog 179 #[g,(2:Int),(v:Int)] w fun e w'=>e=.returned (.tuple #[])/\Wr c W0.heap.size w' g (ys++be 2 v)/\Kw W0.heap.size w w'):=fun w ys v h hv hx=>gL c h 2 v rfl hv hx
    obtain ⟨key,val'⟩:=x;simp only at hpx;obtain ⟨b,o,rfl,-,e0,e1⟩:=RdK.pair (HL.out.kept (HB0.out.trans HK.out.below)) hxk;simp only at e0 e1
    have hfx:f (key,val')=be 1 key.size++(be 2 val'.size++(slotL (txt key) (K:Int)++slotL (txt val') (V:Int))):=by
     rw [HF.out];show jh c key val'=_;unfold jh;rw [hkey,hval]
    rw [hfx] at HNX;simp only [<-append_assoc] at HNX;have HKL:Hid (key.size<=K/\val'.size<=V/\K<=64/\V<=256):=⟨hpx.1,hpx.2,hK.2,hV⟩
    have HYL:Hid (ys.length<=1000000):=by
     unfold Hid;rw [hyl];generalize k*(3+K+V)=X at*;omega
    clear hxk hfx hyl hx1 hpx hK hV;go_upto_region 3 with fail
    have hp:=heap_alloc_new wr (.cells #[.string key,.string val'] 93);have hb:Bw wr (wr.alloc (.cells #[.string key,.string val'] 93)):=bAx;generalize wr.alloc (.cells #[.string key,.string val'] 93)=w1 at*;obtain ⟨q,hq⟩:∃q,q=wr.heap.size:=⟨_,rfl⟩
    rw [<-hq] at hp;simp only [<-hq];have HPB:=hid hp;replace HW:=hid (HW.out.kept hb);replace HK:=hid (HK.out.trans (Kp.of_below hb hB1));clear hq hb hp hB1 e0 e1;obtain ⟨p0,p1⟩:=IC HPB.out;go_upto_region 4 with (go_at_call 179;refine (cN1 _ _ key.size HW.out (by have:=HKL.out;omega) (by have:=HKL.out;have:=HYL.out;(try simp only [length_append,aD,dN (show ((txt key).length:Int)<=(K:Int) by rw [fC];have:=HKL.out;omega),Int.toNat_natCast]);omega)).out.mono ?_;rintro e w1 ⟨rfl,hw,hkw⟩;replace HW:=hid hw;replace HK:=hid (HK.out.trans hkw);replace HPB:=hid (hkw.box HPB.out (by decide) (by decide));clear hw hkw)
    clear p0 p1;obtain ⟨p0,p1⟩:=IC HPB.out;go_upto_region 5 with (go_at_call 179;refine (cN2 _ _ val'.size HW.out (by have:=HKL.out;omega) (by have:=HKL.out;have:=HYL.out;(try simp only [length_append,aD]);omega)).out.mono ?_;rintro e w2 ⟨rfl,hw,hkw⟩;replace HW:=hid hw;replace HK:=hid (HK.out.trans hkw);replace HPB:=hid (hkw.box HPB.out (by decide) (by decide));clear hw hkw)
    clear p0 p1;have hB3:W0.heap.size<=w2.heap.size:=HW.out.hB;have hbd:Below w2.heap.size w2 { w2 with drawn:=w2.drawn+1 }:=⟨rfl,rfl,rfl,Nat.le_refl _,fun _ _=>rfl⟩;refine wp_region_still_tail 8 (by kernel_rfl) (by kernel_rfl) ?_;simp only [take_succ_cons,take_zero,drop_succ_cons,drop_zero];generalize { w2 with drawn:=w2.drawn+1 }=y3 at*;replace HW:=hid (HW.out.kept hbd);replace HK:=hid (HK.out.trans (Kp.of_below hbd hB3));replace HPB:=hid (aC HPB.out hbd);clear hbd hB3;obtain ⟨p0,p1⟩:=IC HPB.out;have cc:=HW.out.cells.2.1;rw [hkey] at cc
    repeat (refine wpStill_step (fun K hK=>?_);go_simp;(refine hK _ ?_;clear hK K))
    refine wpStill_nil ?_;clear cc p0 p1;go_upto_region 6 with (go_at_call 180;refine (jM c HW.out key K (by have:=HKL.out;omega) (by have:=HKL.out;have:=HYL.out;(try simp only [length_append,aD]);omega)).mono ?_;rintro e w3 ⟨rfl,hw,hkw⟩;replace HW:=hid hw;replace HK:=hid (HK.out.trans hkw);replace HPB:=hid (hkw.box HPB.out (by decide) (by decide));clear hw hkw)
    have hB4:W0.heap.size<=w3.heap.size:=HW.out.hB;have hbd:Below w3.heap.size w3 { w3 with drawn:=w3.drawn+1 }:=⟨rfl,rfl,rfl,Nat.le_refl _,fun _ _=>rfl⟩;refine wp_region_still_tail 8 (by kernel_rfl) (by kernel_rfl) ?_;simp only [take_succ_cons,take_zero,drop_succ_cons,drop_zero];generalize { w3 with drawn:=w3.drawn+1 }=y4 at*;replace HW:=hid (HW.out.kept hbd);replace HK:=hid (HK.out.trans (Kp.of_below hbd hB4));replace HPB:=hid (aC HPB.out hbd);clear hbd hB4;obtain ⟨p0,p1⟩:=IC HPB.out;have cc:=HW.out.cells.2.2;rw [hval] at cc
    repeat (refine wpStill_step (fun K hK=>?_);go_simp;(refine hK _ ?_;clear hK K))
    refine wpStill_nil ?_;clear cc p0 p1;go_upto_region 7 with (go_at_call 180;refine (jM c HW.out val' V (by have:=HKL.out;omega) (by have:=HKL.out;have:=HYL.out;(try simp only [length_append,aD,dN (show ((txt key).length:Int)<=(K:Int) by rw [fC];have:=HKL.out;omega),Int.toNat_natCast]);omega)).mono ?_;rintro e w4 ⟨rfl,hw,hkw⟩;replace HW:=hid hw;replace HK:=hid (HK.out.trans hkw);replace HPB:=hid (hkw.box HPB.out (by decide) (by decide));clear hw hkw)
    rw [HNX.out] at HW;clear HNX HPB cN1 cN2;go_wp2_with fail
    go_roundg (n-(k+1))
    case measure=>omega
    case rel=>exact ⟨k+1,hlt,rfl,by go_num,HW,HK⟩
  . obtain rfl:n=k:=by omega
    have HE:Hid (L.take n=L):=by
     unfold Hid;rw [HN.out,take_length]
    rw [HE.out] at HW;clear HX;go_wp2_with fail
    go_end0
    exact ⟨rfl,HW.out,HK.out⟩
theorem E5 {c:Cfg} {F Bf Lf K V:Nat} (hs:lD c F Bf Lf K V) {W0 w:World} {g:Nat} {xs:List UInt8} (hB0:Bw W0 w) (h:Wr c W0.heap.size w g xs) {A:Option Addr} {cc:Nat} {L:List Mg} (hL:ML W0 A L) (hp:∀x∈L,x.1.size<=K/\x.2.2.size<=V) (hx:xs.length+L.length*(4+K+V)<=1000000):Calls Tryz.prog 155 #[g,.slice A L.length cc] w fun e w'=>e=.returned (.tuple #[])/\Wr c W0.heap.size w' g (xs++L.flatMap (msL c))/\Kw W0.heap.size w w':=by
 have hS:∀x∈L,((msL c) x).length=4+K+V:=fun x hx=>by
  have:=hp x hx;rw [xJ (by rw [hs.key];omega) (by rw [hs.val];omega),hs.key,hs.val];rfl
 have hkey:=hs.key;have hval:=hs.val;have hK:=hs.k;have hV:=hs.v;obtain ⟨n,hn⟩:∃n,n=L.length:=⟨_,rfl⟩
 have hT:∀k,k<=n->((L.take k).flatMap (msL c)).length=k*(4+K+V):=fun k hk=>jW hS (by omega)
 have HT:=hid hT
 have HX:∀k,k<n->xs.length+k*(4+K+V)+(4+K+V)<=1000000:=fun k hk=>by
  have h9:(k+1)*(4+K+V)<=L.length*(4+K+V):=Nat.mul_le_mul_right _ (by omega);rw [Nat.succ_mul] at h9;omega
 have HL:=hid hL;have HW0:=hid h;have HB0:=hid hB0;have HN:=hid hn;have HP:=hid hp;have HSO:=hid hs;obtain ⟨f,hf⟩:∃f,f=(msL c):=⟨_,rfl⟩
 have HF:=hid hf;rw [<-hf] at HT;rw [<-hf,<-hn]
 have hn9:n<=1000000:=by
  rcases Nat.eq_zero_or_pos n with h9|h9
  . omega
  . have:=HX (n-1) (by omega)
    have:(n-1)*1<=(n-1)*(4+K+V):=Nat.mul_le_mul_left _ (by omega);omega
 clear h hB0 hL hS hT hn hp hf hx hs;go_enter Tryz.func155,Tryz.ntmps155
 go_wp2_with fail
 go_loopg [8] n (fun gk kv wr=>∃k:Nat,k<=n/\gk=n-k/\kv= .int .i64 (k:Int)/\Hid (Wr c W0.heap.size wr g (xs++(L.take k).flatMap f))/\Hid (Kw W0.heap.size w wr))
 case atStart=>exact ⟨0,Nat.zero_le _,rfl,rfl,by unfold Hid;simpa using HW0.out,Kp.refl _ _ _ _⟩
 case round=>
  obtain ⟨k,hk,rfl,rfl,HW,HK⟩:=hrel;by_cases hlt:k<n
  . obtain ⟨x,hxk⟩:∃x,L[k]? =some x:=⟨_,List.getElem?_eq_getElem (by have:=HN.out;omega)⟩
    have HXK:=hid hxk;have hx1:=HX k hlt;have hxl:=HT.out k hk;have hpx:=HP.out x (mem_of_getElem? hxk)
    have HNX:Hid (xs++(L.take k).flatMap f++f x=xs++(L.take (k+1)).flatMap f):=by
     unfold Hid;rw [append_assoc,lY hxk]
    obtain ⟨ys,hys⟩:∃ys,ys=xs++(L.take k).flatMap f:=⟨_,rfl⟩
    have hyl:ys.length=xs.length+k*(4+K+V):=(by rw [hys,length_append,hxl]);rw [<-hys] at HW HNX;clear hys hxl;have hB1:W0.heap.size<=wr.heap.size:=HW.out.hB;have cN1:∀(w:World) (ys:List UInt8) (v:Nat),Wr c W0.heap.size w g ys->v<9223372036854775808->ys.length<=1048000->Hid (Calls Tryz.prog 179 #[g,(1:Int),(v:Int)] w fun e w'=>e=.returned (.tuple #[])/\Wr c W0.heap.size w' g (ys++be 1 v)/\Kw W0.heap.size w w'):=fun w ys v h hv hx=>gL c h 1 v rfl hv hx
    have cN2:∀(w:World) (ys:List UInt8) (v:Nat),Wr c W0.heap.size w g ys->v<9223372036854775808->ys.length<=1048000->Hid (Calls Tryz.prog 179 #[g,(2:Int),(v:Int)] w fun e w'=>e=.returned (.tuple #[])/\Wr c W0.heap.size w' g (ys++be 2 v)/\Kw W0.heap.size w w'):=fun w ys v h hv hx=>gL c h 2 v rfl hv hx
    obtain ⟨key,del,val'⟩:=x;simp only at hpx;obtain ⟨b,o,rfl,-,e0,e1,e2⟩:=RdK.msg (HL.out.kept (HB0.out.trans HK.out.below)) hxk;simp only at e0 e1 e2;have cM:=fun w=>hid (pQ del w);have hkd:(pO del).toNat<9223372036854775808:=(by cases del<;>decide);have HKD:=hid (FJ del)
    have hfx:f (key,del,val')=be 1 (pO del).toNat++(be 1 key.size++(be 2 val'.size++(slotL (txt key) (K:Int)++slotL (txt val') (V:Int)))):=by
     rw [HF.out];unfold msL jh;rw [FJ,hkey,hval]
    rw [hfx] at HNX;simp only [<-append_assoc] at HNX;have HKL:Hid (key.size<=K/\val'.size<=V/\K<=64/\V<=256):=⟨hpx.1,hpx.2,hK.2,hV⟩
    have HYL:Hid (ys.length<=1000000):=by
     unfold Hid;rw [hyl];generalize k*(4+K+V)=X at*;omega
    clear hxk hfx hyl hx1 hpx hK hV;generalize (pO del).toNat=mk at*;go_upto_region 3 with fail
    have hp:=heap_alloc_new wr (.cells #[.string key,.bool del,.string val'] 91);have hb:Bw wr (wr.alloc (.cells #[.string key,.bool del,.string val'] 91)):=bAx;generalize wr.alloc (.cells #[.string key,.bool del,.string val'] 91)=w1 at*;obtain ⟨q,hq⟩:∃q,q=wr.heap.size:=⟨_,rfl⟩
    rw [<-hq] at hp;simp only [<-hq];have HPB:=hid hp;replace HW:=hid (HW.out.kept hb);replace HK:=hid (HK.out.trans (Kp.of_below hb hB1));clear hq hb hp hB1 e0 e1 e2;obtain ⟨p0,p1,p2⟩:=FI HPB.out;go_upto_region 4 with (first|(go_at_call 171;refine (cM _).out.mono ?_;rintro e w7 ⟨rfl,rfl⟩)|(go_at_call 179;refine (cN1 _ _ mk HW.out hkd (by have:=HKL.out;have:=HYL.out;(try simp only [length_append,aD,dN (show ((txt key).length:Int)<=(K:Int) by rw [fC];have:=HKL.out;omega),Int.toNat_natCast]);omega)).out.mono ?_;rintro e w1 ⟨rfl,hw,hkw⟩;replace HW:=hid hw;replace HK:=hid (HK.out.trans hkw);replace HPB:=hid (hkw.box HPB.out (by decide) (by decide));clear hw hkw))
    clear p0 p1 p2;obtain ⟨p0,p1,p2⟩:=FI HPB.out;go_upto_region 5 with (go_at_call 179;refine (cN1 _ _ key.size HW.out (by have:=HKL.out;omega) (by have:=HKL.out;have:=HYL.out;(try simp only [length_append,aD]);omega)).out.mono ?_;rintro e w2 ⟨rfl,hw,hkw⟩;replace HW:=hid hw;replace HK:=hid (HK.out.trans hkw);replace HPB:=hid (hkw.box HPB.out (by decide) (by decide));clear hw hkw)
    clear p0 p1 p2;obtain ⟨p0,p1,p2⟩:=FI HPB.out;go_upto_region 6 with (go_at_call 179;refine (cN2 _ _ val'.size HW.out (by have:=HKL.out;omega) (by have:=HKL.out;have:=HYL.out;(try simp only [length_append,aD]);omega)).out.mono ?_;rintro e w3 ⟨rfl,hw,hkw⟩;replace HW:=hid hw;replace HK:=hid (HK.out.trans hkw);replace HPB:=hid (hkw.box HPB.out (by decide) (by decide));clear hw hkw)
    clear p0 p1 p2;have hB4:W0.heap.size<=w3.heap.size:=HW.out.hB;have hbd:Below w3.heap.size w3 { w3 with drawn:=w3.drawn+1 }:=⟨rfl,rfl,rfl,Nat.le_refl _,fun _ _=>rfl⟩;refine wp_region_still_tail 8 (by kernel_rfl) (by kernel_rfl) ?_;simp only [take_succ_cons,take_zero,drop_succ_cons,drop_zero];generalize { w3 with drawn:=w3.drawn+1 }=y4 at*;replace HW:=hid (HW.out.kept hbd);replace HK:=hid (HK.out.trans (Kp.of_below hbd hB4));replace HPB:=hid (aC HPB.out hbd);clear hbd hB4;obtain ⟨p0,p1,p2⟩:=FI HPB.out;have cc:=HW.out.cells.2.1;rw [hkey] at cc
    repeat (refine wpStill_step (fun K hK=>?_);go_simp;(refine hK _ ?_;clear hK K))
    refine wpStill_nil ?_;clear cc p0 p1 p2;go_upto_region 7 with (go_at_call 180;refine (jM c HW.out key K (by have:=HKL.out;omega) (by have:=HKL.out;have:=HYL.out;(try simp only [length_append,aD]);omega)).mono ?_;rintro e w4 ⟨rfl,hw,hkw⟩;replace HW:=hid hw;replace HK:=hid (HK.out.trans hkw);replace HPB:=hid (hkw.box HPB.out (by decide) (by decide));clear hw hkw)
    have hB5:W0.heap.size<=w4.heap.size:=HW.out.hB;have hbd:Below w4.heap.size w4 { w4 with drawn:=w4.drawn+1 }:=⟨rfl,rfl,rfl,Nat.le_refl _,fun _ _=>rfl⟩;refine wp_region_still_tail 8 (by kernel_rfl) (by kernel_rfl) ?_;simp only [take_succ_cons,take_zero,drop_succ_cons,drop_zero];generalize { w4 with drawn:=w4.drawn+1 }=y5 at*;replace HW:=hid (HW.out.kept hbd);replace HK:=hid (HK.out.trans (Kp.of_below hbd hB5));replace HPB:=hid (aC HPB.out hbd);clear hbd hB5;obtain ⟨p0,p1,p2⟩:=FI HPB.out;have cc:=HW.out.cells.2.2;rw [hval] at cc
    repeat (refine wpStill_step (fun K hK=>?_);go_simp;(refine hK _ ?_;clear hK K))
    refine wpStill_nil ?_;clear cc p0 p1 p2;go_upto_region 8 with (go_at_call 180;refine (jM c HW.out val' V (by have:=HKL.out;omega) (by have:=HKL.out;have:=HYL.out;(try simp only [length_append,aD,dN (show ((txt key).length:Int)<=(K:Int) by rw [fC];have:=HKL.out;omega),Int.toNat_natCast]);omega)).mono ?_;rintro e w5 ⟨rfl,hw,hkw⟩;replace HW:=hid hw;replace HK:=hid (HK.out.trans hkw);replace HPB:=hid (hkw.box HPB.out (by decide) (by decide));clear hw hkw)
    rw [HNX.out] at HW;clear HNX HPB cN1 cN2;go_wp2_with fail
    go_roundg (n-(k+1))
    case measure=>omega
    case rel=>exact ⟨k+1,hlt,rfl,by go_num,HW,HK⟩
  . obtain rfl:n=k:=by omega
    have HE:Hid (L.take n=L):=by
     unfold Hid;rw [HN.out,take_length]
    rw [HE.out] at HW;clear HX;go_wp2_with fail
    go_end0
    exact ⟨rfl,HW.out,HK.out⟩
end No
end Go.Proofs.YtjpjjnalpdpljaaGreatDoor
