import Derived.Test.YtjpjjnalpdpljaaGreatDoorPkAD
import Derived.Test.YtjpjjnalpdpljaaGreatDoorPkAB
import Derived.Laws.BitsAllLaws
import Derived.Laws.BitsLemmas
import Derived.ProofKit
import Derived.Deep.Slices
import Derived.SizedLaws
import Derived.Test.YtjpjjnalpdpljaaGreatDoorPkAC
import Derived.Lib.LaidTab
import Derived.LaidMore
import Derived.Carry
import Derived.OpenShut
import Derived.Test.YtjpjjnalpdpljaaGreatDoorPkAA
import Derived.Test.YtjpjjnalpdpljaaGreatDoorChecked
import Derived.Deep.Fields
set_option maxHeartbeats 1000000
namespace Go.Proofs.YtjpjjnalpdpljaaGreatDoor
open Go.RowKit
open Go.Lib (hid)
namespace Wd
open Mem
abbrev Only (g:Nat) (w w':World):Prop:=Flow.Into [g] w w'
theorem Only.of_below {g:Nat} {w w':World} (h:Bw w w'):Only g w w':=Flow.Into.of_below h
def Off (w:World) (g:Nat) (p:Option Addr) (l:List UInt8):Prop:=BL w p l/\(0<l.length->∀a,p=some a->a.block≠g)
theorem Off.only {w w':World} {g:Nat} {p:Option Addr} {l:List UInt8} (h:Off w g p l) (ho:Only g w w'):Off w' g p l:=
 ⟨h.1.keep fun hl a ha=>ho.block _ (h.1.lt hl a ha) (by have:=h.2 hl a ha;simpa using this),h.2⟩
theorem Off.nil (w:World) (g:Nat) (p:Option Addr):Off w g p []:=⟨BL.nil _ _,fun h=>absurd h (by simp)⟩
theorem Off.take {w:World} {g:Nat} {p:Option Addr} {l:List UInt8} (h:Off w g p l) (k:Nat):Off w g p (l.take k):=⟨h.1.take k,fun hl=>h.2 (by simp at hl;omega)⟩
theorem Off.cut {w:World} {g:Nat} {p:Option Addr} {l:List UInt8} (h:Off w g p l) {k c:Nat} (hc:l.length<=c):Off w g (FZ p c k) (l.drop k):=by
 refine ⟨h.1.cut hc,fun hl a ha=>?_⟩;simp only [List.length_drop] at hl;unfold FZ at ha;rw [if_neg (by omega)] at ha;cases p with
 |none=>cases ha
 |some p=>
  obtain rfl:p.add k=a:=by simpa using ha
  rw [show (p.add k).block=p.block by unfold Addr.add;split<;>rfl];exact h.2 (by omega) p rfl
def FT (w:World) (g:Nat) (p:Option Addr) (l:List UInt8):Prop:=Off w g p l/\(0<l.length->∀a,p=some a->∃C:Array Value,w.heap[a.block]? =some (.cells C 5 (0,0)))
theorem FT.only {w w':World} {g:Nat} {p:Option Addr} {l:List UInt8} (h:FT w g p l) (ho:Only g w w'):FT w' g p l:=
 ⟨h.1.only ho,fun hl a ha=>by
   obtain ⟨C,hC⟩:=h.2 hl a ha
   exact ⟨C,(ho.block _ (h.1.1.lt hl a ha) (by have:=h.1.2 hl a ha;simpa using this)).trans hC⟩⟩
theorem FT.nil (w:World) (g:Nat) (p:Option Addr):FT w g p []:=⟨Off.nil _ _ _,fun h=>absurd h (by simp)⟩
theorem FT.cut {w:World} {g:Nat} {p:Option Addr} {l:List UInt8} (h:FT w g p l) {k c:Nat} (hc:l.length<=c):FT w g (FZ p c k) (l.drop k):=by
 refine ⟨h.1.cut hc,fun hl a ha=>?_⟩;simp only [List.length_drop] at hl;unfold FZ at ha;rw [if_neg (by omega)] at ha;cases p with
 |none=>cases ha
 |some p=>
  obtain rfl:p.add k=a:=by simpa using ha
  rw [show (p.add k).block=p.block by unfold Addr.add;split<;>rfl];exact h.2 (by omega) p rfl
def Rd (T:TypeId) (w:World) (g:Nat) (s:St):Prop:=
 ∃(A:Option Addr) (c:Nat),w.heap[g]? =some (.cells #[.slice A s.b.length c,s.e] T (0,0))/\FT w g A s.b/\s.b.length<=c/\s.b.length<=140737488355000/\s.ok
section
variable {T:TypeId} {w w':World} {g:Nat} {s:St}
theorem Rd.lt (h:Rd T w g s):g<w.heap.size:=by obtain ⟨A,c,h,_⟩:=h;exact (Array.getElem?_eq_some_iff.1 h).1
theorem Rd.ok (h:Rd T w g s):s.ok:=by obtain ⟨A,c,_,_,_,_,h⟩:=h;exact h
theorem Rd.keep (h:Rd T w g s) (hb:Bw w w'):Rd T w' g s:=by
 have hlt:=h.lt;obtain ⟨A,c,h1,h2,h3,h4,h5⟩:=h;exact ⟨A,c,(hb.block g hlt).trans h1,h2.only (Only.of_below hb),h3,h4,h5⟩
end
theorem yN {w:World} {g:Nat} {x y:Value} {T:TypeId} (h:w.heap[g]? =some (.cells #[x,y] T (0,0))):
 w.cell? ⟨g,0,none⟩=some x/\w.cell? ⟨g,1,none⟩=some y/\w.frozen? ⟨g,0,none⟩=false/\w.frozen? ⟨g,1,none⟩=false:=by
 simp [World.cell?,World.frozen?,h]
theorem set2 {w:World} {g:Nat} {x y x' y':Value} {T:TypeId} (h:w.heap[g]? =some (.cells #[x,y] T (0,0))):
 ((w.setCell ⟨g,0,none⟩ x').setCell ⟨g,1,none⟩ y').heap[g]? =some (.cells #[x',y'] T (0,0)):=by
 simp [World.setCell,Array.getElem?_modify,h]
theorem set1 {w:World} {g:Nat} {x y x':Value} {T:TypeId} (h:w.heap[g]? =some (.cells #[x,y] T (0,0))):
 (w.setCell ⟨g,0,none⟩ x').heap[g]? =some (.cells #[x',y] T (0,0)):=by
 simp [World.setCell,Array.getElem?_modify,h]
theorem aV {g:Nat} {w w':World} (h:Only g w w') (i:Nat) (x:Value):Only g w (w'.setCell ⟨g,i,none⟩ x):=
 h.trans ⟨rfl,rfl,rfl,by simp [World.setCell],fun k _ hn=>Below.heap_setCell _ _ _ _ (by simpa using hn)⟩
theorem iV (g:Nat) (s:St) (x:Int) (w:World) (h:Rd 175 w g s):
 Calls Tryz.prog 146 #[g,x] w fun e w'=>e=.returned (.tuple #[])/\Rd 175 w' g (dn s x)/\Only g w w':=by
 obtain ⟨b,er⟩:=s;obtain ⟨A,c,hh,ho,hc,hl,hok⟩:=h;obtain ⟨c0,c1,f0,f1⟩:=yN hh;have HH:=hid hh;simp only at c0 c1;by_cases he:er=0
 . subst he
   have HS:=hid (show dn ⟨b,0⟩ x=⟨[],x⟩ from rfl);clear hh;go_enter Tryz.func146,Tryz.ntmps146
   go_wp2
   go_end0
   refine ⟨rfl,?_,aV (aV (Flow.Into.refl _ _) _ _) _ _⟩;rw [HS.out];exact ⟨none,0,set2 HH.out,FT.nil _ _ _,Nat.zero_le _,Nat.zero_le _,fun _=>rfl⟩
 . have HS:=hid (show dn ⟨b,er⟩ x=⟨b,er⟩ from if_neg he)
   have h1:(er==0)=false:=(by simpa using he);have h2:(er != 0)=true:=(by simpa using he);clear hh he;go_enter Tryz.func146,Tryz.ntmps146
   go_wp2
   refine bodyPost_ret (results_none rfl _ _ _) rfl ⟨rfl,?_,Flow.Into.refl _ _⟩;rw [HS.out];exact ⟨A,c,HH.out,ho,hc,hl,hok⟩
def Told (w:World) (g:Nat) (l:List UInt8) (e:Ending):Prop:=∃(A:Option Addr) (c:Nat),e=.returned (.slice A l.length c)/\Off w g A l/\l.length<=c
theorem Told.nil (w:World) (g:Nat):Told w g [] (.returned ()):=⟨none,0,rfl,Off.nil _ _ _,Nat.le_refl _⟩
theorem L8:∃i,Tryz.prog.info? 5=some i/\i.size=1:=by
 obtain ⟨i,h1,_,h2,_⟩:=info_parts gH;exact ⟨i,h1,h2⟩
theorem rW (g:Nat) (s:St) (n:Int) (w:World) (h:Rd 175 w g s):
 Calls Tryz.prog 145 #[g,n] w fun e w'=>Told w' g (bF s n).2 e/\Rd 175 w' g (bF s n).1/\Only g w w':=by
 have HR:=hid h;by_cases h0:n<0
 . have HS:=hid (Gi s h0)
   have cS:=fun w hw=>hid (iV g s 2 w hw);clear h;go_enter Tryz.func145,Tryz.ntmps145
   go_wp2_with (go_at_call 146;refine (cS _ HR.out).out.mono ?_;rintro e w' ⟨rfl,hr,ho⟩;have HR':=hid hr;have HO':=hid ho;clear hr ho)
   go_ret
   rw [HS.out];exact ⟨Told.nil _ _,HR'.out,HO'.out⟩
 . obtain ⟨A,c,hh,ho,hc,hl,hok⟩:=h
   obtain ⟨c0,c1,f0,f1⟩:=yN hh;have HH:=hid hh;by_cases h1:(s.b.length:Int)<n
   . have HS:=hid (jS s h0 h1)
     have cS:=fun w hw=>hid (iV g s 5 w hw);clear hh;go_enter Tryz.func145,Tryz.ntmps145
     go_wp2_with (go_at_call 146;refine (cS _ HR.out).out.mono ?_;rintro e w' ⟨rfl,hr,ho⟩;have HR':=hid hr;have HO':=hid ho;clear hr ho)
     go_ret
     rw [HS.out];exact ⟨Told.nil _ _,HR'.out,HO'.out⟩
   . have HS:=hid (jF s h0 h1)
     obtain ⟨k,rfl⟩:∃k:Nat,n=k:=⟨n.toNat,by omega⟩
     obtain ⟨m,hm⟩:∃m,m=s.b.length:=⟨_,rfl⟩
     have hk:k<=m:=(by omega);obtain ⟨i0,hi,hsz⟩:=L8;have r1:=fun w=>yE (P:=Tryz.prog) Tryz.underlying72 hi A m c k (by omega) w;have r2:=fun w=>BX (P:=Tryz.prog) Tryz.underlying72 hi hsz A m c k hk w;rw [<-hm] at c0;have HM:=hid hm;obtain ⟨A',hA'⟩:∃A',A'=FZ A c k:=⟨_,rfl⟩
     rw [<-hA'] at r2;have HA:=hid hA';clear hh hm hA' hi hsz h0 h1 hl;go_enter Tryz.func145,Tryz.ntmps145
     go_wp2
     go_ret
     have hs:=HS.out;have hm:=HM.out;rw [Int.toNat_natCast] at hs;have hsz:(s.b.take k).length=k:=(by simp;omega);have hO:Only g w (w.setCell ⟨g,0,none⟩ (.slice A' (m-k) (c-k))):=aV (Flow.Into.refl _ _) _ _;rw [hs];refine ⟨⟨A,c,by rw [hsz];rfl,(ho.1.take k).only hO,by rw [hsz];omega⟩,⟨A',c-k,?_,?_,by simp;omega,by simp;obtain ⟨_,_,_,_,_,hl,_⟩:=HR.out;omega,fun he=>by simp [hok he]⟩,hO⟩
     . have:=set1 (x':= .slice A' (m-k) (c-k)) HH.out
       rw [this];simp [hm]
     . have h1:=(ho.cut (k:=k) hc).only hO
       rw [<-HA.out] at h1;exact h1
theorem CJ (l:List UInt8) (k:Nat) (h:k<l.length):gZ (l.take (k+1))=(gZ (l.take k)&&l[k]==0):=by
 unfold gZ;rw [List.take_succ_eq_append_getElem h,List.all_append];simp
theorem Gj {l:List UInt8} {k:Nat} (h:k<l.length) (hz:l[k]≠0):gZ l=false:=by
 unfold gZ;rw [List.all_eq_false];exact ⟨l[k],List.getElem_mem h,by simpa using hz⟩
theorem oM (p:Option Addr) (c:Nat) (l:List UInt8) (w:World) (h:BL w p l) (hl:l.length<=140737488355328):
 CW 144 #[.slice p l.length c] w (.bool (gZ l)):=by
 obtain ⟨n,hn⟩:∃n,n=l.length:=⟨_,rfl⟩
 have hl':n<=140737488355328:=by omega
 have HN:=hid hn;rw [<-hn];clear hn hl;go_enter Tryz.func144,Tryz.ntmps144
 go_wp2
 go_loop [7] (fun i=>∃k:Nat,k<=n/\i= .int .i64 k/\Hid (gZ (l.take k)=true)) (fun i=>n-(intOf i).toNat)
 case atStart=>exact ⟨0,Nat.zero_le _,rfl,rfl⟩
 case round=>
  obtain ⟨k,hk,rfl,HZ⟩:=hrel;by_cases hlt:k<n
  . have hkl:k<l.length:=by rw [<-HN.out];exact hlt
    obtain ⟨b,o,rfl,hc⟩:=h.at_ hkl;by_cases hz:l[k]=0
    . have HZ':Hid (gZ (l.take (k+1))=true):=by unfold Hid;rw [CJ l k hkl,HZ.out,hz];rfl
      rw [hz] at hc;have hc':w.cell? ⟨b,o+k,none⟩=some (.int .u8 0):=(by rw [hc];rfl);clear hz hc hkl h
      go_wp2
      go_round
      case rel=>exact ⟨k+1,hlt,by go_num,HZ'⟩
      case measure=>simp [intOf];omega
    . have HR:=hid (Gj hkl hz)
      have hne:((l[k].toNat:Int) != 0)=true:=by
       simp only [bne_iff_ne,ne_eq];intro e;exact hz (UInt8.toNat_inj.1 (by simpa using e))
      generalize (l[k].toNat:Int)=y at hc hne;clear hz hkl h
      go_wp2
      go_ret
      exact ⟨by rw [HR.out];rfl,rfl⟩
  . obtain rfl:k=n:=by omega
    have HR:Hid (gZ l=true):=by
     unfold Hid;have:=HZ.out
     rwa [List.take_of_length_le (by rw [HN.out];exact Nat.le_refl _)] at this
    go_wp2
    go_ret
    exact ⟨by rw [HR.out];rfl,rfl⟩
theorem qz {T:TypeId} {w:World} {g:Nat} {s:St} (h:Rd T w g s) (n:Int):(bF s n).2.length<=140737488355000:=by
 obtain ⟨_,_,_,_,_,hl,_⟩:=h;have:=wJ s n;omega
end Wd
end Go.Proofs.YtjpjjnalpdpljaaGreatDoor
set_option maxHeartbeats 1000000
namespace Go.Proofs.YtjpjjnalpdpljaaGreatDoor
open Go.RowKit
open Go.Lib (hid)
namespace Wd
open Mem
theorem wK (t:List UInt8) (k:Nat) (hk:k<t.length) (h8:t.length<=8):val (t.take k)<72057594037927936:=by
 have h:=uD (t.take k);have h1:(t.take k).length<=7:=by simp;omega
 have h2:256 ^ (t.take k).length<=256 ^ 7:=Nat.pow_le_pow_right (by decide) h1;omega
theorem JU (v y:Nat) (hv:v<72057594037927936) (hy:y<256):bits .or .u64 ((v:Int)*256) (y:Int)=((256*v+y:Nat):Int):=by
 have e:((v:Int)*256)=((256*v:Nat):Int):=by omega
 rw [e,u64_or_nat _ _ (by omega) (by omega)];have:=Nat.two_pow_add_eq_or_of_lt (i:=8) (b:=y) (by omega) v;rw [show 256*v=2 ^ 8*v by omega,this]
theorem CK (g:Nat) (s:St) (n:Int) (w:World) (h:Rd 175 w g s):
 Calls Tryz.prog 169 #[g,n] w fun e w'=>e=.returned (.int .u64 ((bC s n).2:Int))/\Rd 175 w' g (bC s n).1/\Only g w w':=by
 have cW:=fun w=>hid (oK n w);cases hw:isW n with
 |false=>
  rw [hw] at cW;have HS:=hid (show bC s n=(dn s 2,0) by simp [bC,hw]);have cS:=hid (iV g s 2 w h);clear h hw;go_enter Tryz.func169,Tryz.ntmps169
  go_wp2_with (first
   |(go_at_call 197;refine (cW _).out.mono ?_;rintro e w' ⟨rfl,rfl⟩)
   |(go_at_call 146;refine cS.out.mono ?_;rintro e w1 ⟨rfl,hr,ho⟩;have HR1:=hid hr;have HO1:=hid ho;clear hr ho))
  go_ret
  rw [HS.out];exact ⟨rfl,HR1.out,HO1.out⟩
 |true=>
  rw [hw] at cW;have HS:=hid (show bC s n=((bF s n).1,val (bF s n).2) by simp [bC,hw]);have hn:n<=8:=by have:=oI hw;omega
  have hlen:=take_len s n;have h8:(bF s n).2.length<=8:=by split at hlen<;>omega
  have cT:=hid (rW g s n w h);obtain ⟨t,ht⟩:∃t,t=(bF s n).2:=⟨_,rfl⟩
  rw [<-ht] at h8 cT HS;obtain ⟨m,hm⟩:∃m,m=t.length:=⟨_,rfl⟩
  rw [<-hm] at h8;have HT:=hid ht;have HM:=hid hm;clear h hw hlen hn ht hm;go_enter Tryz.func169,Tryz.ntmps169
  go_wp2_with (first
   |(go_at_call 197;refine (cW _).out.mono ?_;rintro e w' ⟨rfl,rfl⟩)
   |(go_at_call 145;refine cT.out.mono ?_;rintro e w1 ⟨⟨A,c,he,hO,hc⟩,hr,ho⟩;rw [<-HM.out] at he hc;subst he;have HO:=hid hO;have HR1:=hid hr;have HO1:=hid ho;clear hO hr ho hc))
  go_loop [5,17] (fun x i=>∃(k v:Nat),k<=m/\i= .int .i64 k/\x= .int .u64 (v:Int)/\Hid (v=val (t.take k))) (fun _ i=>m-(intOf i).toNat)
  case atStart=>exact ⟨0,0,Nat.zero_le _,rfl,rfl,rfl⟩
  case round=>
   obtain ⟨k,v,hk,rfl,rfl,HV⟩:=hrel;by_cases hlt:k<m
   . have hkl:k<t.length:=by rw [<-HM.out];exact hlt
     obtain ⟨b,o,rfl,hc⟩:=HO.out.1.at_ hkl;have hv:v<72057594037927936:=(by rw [HV.out];exact wK t k hkl (by rw [<-HM.out];exact h8));have hy:t[k].toNat<256:=t[k].toNat_lt
     have HN:Hid (256*v+t[k].toNat=val (t.take (k+1))):=by
      unfold Hid;rw [List.take_succ_eq_append_getElem hkl,jR,HV.out]
     generalize t[k].toNat=y at hc hy HN;have hor:=JU v y hv hy;clear hkl
     go_wp2
     exact ⟨⟨k+1,256*v+y,hlt,by go_num,rfl,HN⟩,by simp [intOf];omega⟩
   . obtain rfl:k=m:=by omega
     go_wp2
     go_ret
     rw [HS.out];refine ⟨?_,HR1.out,HO1.out⟩;have:=HV.out;rw [List.take_of_length_le (by rw [HM.out];exact Nat.le_refl _)] at this;rw [this];rfl
theorem kU (g:Nat) (s:St) (n:Int) (w:World) (h:Rd 175 w g s):
 Calls Tryz.prog 102 #[g,n] w fun e w'=>e=.returned (.tuple #[])/\Rd 175 w' g (bD s n)/\Only g w w':=by
 have HL:=hid (qz h n);have cT:=hid (rW g s n w h);have cZ:=fun p c l w hb hl=>hid (oM p c l w hb hl);have cS:=fun s x w hw=>hid (iV g s x w hw);clear h;cases hz:gZ (bF s n).2 with
 |true=>
  have HS:=hid (show bD s n=(bF s n).1 by simp [bD,hz]);have HZ:=hid hz;clear hz;go_enter Tryz.func102,Tryz.ntmps102
  go_wp2_with (first
   |(go_at_call 145;refine cT.out.mono ?_;rintro e w1 ⟨⟨A,c,rfl,hO,hc⟩,hr,ho⟩;have HO:=hid hO;have HR1:=hid hr;have HO1:=hid ho;clear hO hr ho)
   |(go_at_call 144;refine (cZ _ _ _ _ HO.out.1 (by have:=HL.out;omega)).out.mono ?_;rw [HZ.out];rintro e w2 ⟨rfl,rfl⟩))
  go_end0
  exact ⟨rfl,by rw [HS.out];exact HR1.out,HO1.out⟩
 |false=>
  have HS:=hid (show bD s n=dn (bF s n).1 3 by simp [bD,hz]);have HZ:=hid hz;clear hz;go_enter Tryz.func102,Tryz.ntmps102
  go_wp2_with (first
   |(go_at_call 145;refine cT.out.mono ?_;rintro e w1 ⟨⟨A,c,rfl,hO,hc⟩,hr,ho⟩;have HO:=hid hO;have HR1:=hid hr;have HO1:=hid ho;clear hO hr ho)
   |(go_at_call 144;refine (cZ _ _ _ _ HO.out.1 (by have:=HL.out;omega)).out.mono ?_;rw [HZ.out];rintro e w2 ⟨rfl,rfl⟩)
   |(go_at_call 146;refine (cS _ _ _ HR1.out).out.mono ?_;rintro e w3 ⟨rfl,hr,ho⟩;have HR3:=hid hr;have HO3:=hid ho;clear hr ho))
  go_end0
  exact ⟨rfl,by rw [HS.out];exact HR3.out,HO1.out.trans HO3.out⟩
theorem Ag (p:Option Addr) (c:Nat) (l:List UInt8) (n:Nat) (hn:l.length=n) (w:World) (h:BL w p l) (hl:n<=140737488355328):
 CW 144 #[.slice p n c] w (.bool (gZ l)):=by subst hn;exact oM p c l w h hl
theorem Gl (s:St) {n m:Int} (h:n<0\/m<n):bW s n m=(dn s 2,[]):=if_pos h
theorem Ah (s:St) {n m:Int} (h:¬(n<0\/m<n)) (h1:((bF s m).2.length:Int)<m):bW s n m=((bF s m).1,[]):=by unfold bW;rw [if_neg h,if_pos h1]
theorem CO (s:St) {n m:Int} (h:¬(n<0\/m<n)) (h1:¬((bF s m).2.length:Int)<m) (h2:gZ ((bF s m).2.drop n.toNat)=true):bW s n m=((bF s m).1,(bF s m).2.take n.toNat):=by
 unfold bW;rw [if_neg h,if_neg h1,if_pos h2]
theorem CQ (s:St) {n m:Int} (h:¬(n<0\/m<n)) (h1:¬((bF s m).2.length:Int)<m) (h2:gZ ((bF s m).2.drop n.toNat)=false):bW s n m=(dn (bF s m).1 3,[]):=by
 unfold bW;rw [if_neg h,if_neg h1,if_neg (by rw [h2];exact Bool.false_ne_true)]
theorem kV (g:Nat) (s:St) (n m:Int) (w:World) (h:Rd 175 w g s):
 Calls Tryz.prog 170 #[g,n,m] w fun e w'=>e=.returned (.string (strOf (bW s n m).2))/\Rd 175 w' g (bW s n m).1/\Only g w w':=by
 have hL:=qz h m;have cT:=hid (rW g s m w h);have cS0:=hid (iV g s 2 w h);have cS:=fun s x w hw=>hid (iV g s x w hw);have cZ:=fun p c l n hn w hb hl=>hid (Ag p c l n hn w hb hl);clear h;by_cases h0:n<0\/m<n
 . have HS:=hid (Gl s h0)
   clear hL;rcases Int.lt_or_le n 0 with h1|h1
   . clear h0
     go_enter Tryz.func170,Tryz.ntmps170
     go_wp2_with (go_at_call 146;refine cS0.out.mono ?_;rintro e w1 ⟨rfl,hr,ho⟩;have HR1:=hid hr;have HO1:=hid ho;clear hr ho)
     go_ret
     rw [HS.out];exact ⟨rfl,HR1.out,HO1.out⟩
   . have h2:m<n:=by omega
     clear h0;go_enter Tryz.func170,Tryz.ntmps170
     go_wp2_with (go_at_call 146;refine cS0.out.mono ?_;rintro e w1 ⟨rfl,hr,ho⟩;have HR1:=hid hr;have HO1:=hid ho;clear hr ho)
     go_ret
     rw [HS.out];exact ⟨rfl,HR1.out,HO1.out⟩
 . obtain ⟨k,rfl⟩:∃k:Nat,n=k:=⟨n.toNat,by omega⟩
   obtain ⟨j,rfl⟩:∃j:Nat,m=j:=⟨m.toNat,by omega⟩
   have hkj:k<=j:=(by omega);have e1:=fun h1=>Ah s h0 h1;have e2:=fun h1 h2=>CO s h0 h1 h2;have e3:=fun h1 h2=>CQ s h0 h1 h2;simp only [Int.toNat_natCast] at e2 e3;clear h0;have hle:=take_len s (j:Int);rw [if_neg (by omega)] at hle;obtain ⟨t,ht⟩:∃t,t=(bF s (j:Int)).2:=⟨_,rfl⟩
   rw [<-ht] at hL cT e1 e2 e3 hle;obtain ⟨q,hq⟩:∃q,q=t.length:=⟨_,rfl⟩
   have HQ:=hid hq;rw [<-hq] at e1 e2 e3 hL hle;by_cases h1:q<j
   . have HS:=hid (e1 (by omega))
     clear e1 e2 e3 hq ht;go_enter Tryz.func170,Tryz.ntmps170
     go_wp2_with (go_at_call 145;refine cT.out.mono ?_;rintro e w1 ⟨⟨A,c,he,hO,hc⟩,hr,ho⟩;rw [<-HQ.out] at he hc;subst he;have HO:=hid hO;have HR1:=hid hr;have HO1:=hid ho;clear hO hr ho)
     go_ret
     rw [HS.out];exact ⟨rfl,HR1.out,HO1.out⟩
   . obtain rfl:q=j:=by omega
     obtain ⟨i0,hi,hsz⟩:=L8;have r2:=fun A c w=>BX (P:=Tryz.prog) Tryz.underlying72 hi hsz A q c k hkj w;have r1:=fun A c w (h:k<=c)=>yE (P:=Tryz.prog) Tryz.underlying72 hi A q c k h w;have htk:(t.take k).length=k:=(by simp;omega);have htd:(t.drop k).length=q-k:=(by simp;omega);cases hz:gZ (t.drop k) with
     |true=>
      have HS:=hid (e2 (by omega) hz);have HZ:=hid hz;have HTK:=hid htk;have HTD:=hid htd;clear e1 e2 e3 hq hz htk htd hi hsz ht hle h1;go_enter Tryz.func170,Tryz.ntmps170
      go_wp2_with (first
       |(go_at_call 145;refine cT.out.mono ?_;rintro e w1 ⟨⟨A,c,he,hO,hc⟩,hr,ho⟩;rw [<-HQ.out] at he hc;subst he;have hkc:k<=c:=(by omega);have rt:=zY (P:=Tryz.prog) Tryz.underlying72 Tryz.underlying5 Tryz.underlying9 (hO.1.take k) HTK.out c;have HO:=hid hO;have HR1:=hid hr;have HO1:=hid ho;clear hO hr ho)
       |(go_at_call 144;refine (cZ _ _ (t.drop k) _ HTD.out _ (HO.out.cut (by rw [<-HQ.out];exact hc)).1 (by omega)).out.mono ?_;rw [HZ.out];rintro e w2 ⟨rfl,rfl⟩))
      go_ret
      rw [HS.out];exact ⟨rfl,HR1.out,HO1.out⟩
     |false=>
      have HS:=hid (e3 (by omega) hz);have HZ:=hid hz;have HTD:=hid htd;clear e1 e2 e3 hq hz htk htd hi hsz ht hle h1;go_enter Tryz.func170,Tryz.ntmps170
      go_wp2_with (first
       |(go_at_call 145;refine cT.out.mono ?_;rintro e w1 ⟨⟨A,c,he,hO,hc⟩,hr,ho⟩;rw [<-HQ.out] at he hc;subst he;have hkc:k<=c:=(by omega);have HO:=hid hO;have HR1:=hid hr;have HO1:=hid ho;clear hO hr ho)
       |(go_at_call 144;refine (cZ _ _ (t.drop k) _ HTD.out _ (HO.out.cut (by rw [<-HQ.out];exact hc)).1 (by omega)).out.mono ?_;rw [HZ.out];rintro e w2 ⟨rfl,rfl⟩)
       |(go_at_call 146;refine (cS _ _ _ HR1.out).out.mono ?_;rintro e w3 ⟨rfl,hr,ho⟩;have HR3:=hid hr;have HO3:=hid ho;clear hr ho))
      go_ret
      rw [HS.out];exact ⟨rfl,HR3.out,HO1.out.trans HO3.out⟩
theorem Gm (g:Nat) (s:St) (w:World) (h:Rd 175 w g s):
 CW 103 #[g] w (.int .i64 (s.b.length:Int)):=by
 obtain ⟨A,c,hh,ho,hc,hl,hok⟩:=h;obtain ⟨c0,c1,f0,f1⟩:=yN hh;clear hh;go_enter Tryz.func103,Tryz.ntmps103
 go_wp2
 go_ret
 exact ⟨rfl,rfl⟩
theorem CU (g:Nat) (s:St) (w:World) (h:Rd 175 w g s):
 CW 104 #[g] w (.int .i64 s.e):=by
 obtain ⟨A,c,hh,ho,hc,hl,hok⟩:=h;obtain ⟨c0,c1,f0,f1⟩:=yN hh;clear hh;go_enter Tryz.func104,Tryz.ntmps104
 go_wp2
 go_ret
 exact ⟨rfl,rfl⟩
theorem wL {k:IntKind} {a b:Int} (h:a=b):Ending.returned (.int k a)=.returned (.int k b):=by rw [h]
theorem Gn (p:Option Addr) (c:Nat) (l:List UInt8) (w:World) (h:BL w p l) (hl:l.length<=140737488355000):
 Calls Tryz.prog 100 #[.slice p l.length c] w fun e w'=>∃g,e=.returned (g:Nat)/\Rd 175 w' g ⟨l,0⟩/\w.heap.size<=g/\Bw w w':=by
 have cC:=hid (Cv p c l w h (by omega));have HL:=hid hl;clear h hl;go_enter Tryz.func100,Tryz.ntmps100
 go_wp2_with (go_at_call 136;refine cC.out.mono ?_;rintro e w1 ⟨rfl,hrow,hb⟩;have Gp:=hid hrow;have HB:=hid hb;clear hrow hb)
 go_ret
 refine ⟨w1.heap.size,rfl,⟨some ⟨w.heap.size,0,none⟩,l.length,heap_alloc_new w1 _,⟨⟨Gp.out.bl.alloc _,fun _ a ha=>?_⟩,fun _ a ha=>?_⟩,Nat.le_refl _,HL.out,fun _=>by simp_all⟩,HB.out.size,HB.out.alloc HB.out.size _⟩
 . obtain rfl:a=⟨w.heap.size,0,none⟩:=by simpa using ha.symm
   have:=Gp.out.lt;show w.heap.size≠w1.heap.size;omega
 . obtain rfl:a=⟨w.heap.size,0,none⟩:=by simpa using ha.symm
   exact ⟨_,(heap_alloc_old _ _ Gp.out.lt).trans Gp.out⟩
end Wd
end Go.Proofs.YtjpjjnalpdpljaaGreatDoor
namespace Go.Proofs.YtjpjjnalpdpljaaGreatDoor
open Go.RowKit
namespace No
open Mem
open Wd (St Only Rd)
section
variable {w w':World} {q b:Nat} {s:St}
theorem oN (hr:Rd 175 w q s) (ho:Flow.Into [b] w w') (hb:b≠q) {C:Array Value} {T:TypeId} {f:Nat × Nat} (hx:w.heap[b]? =some (.cells C T f)) (hT:T≠5):Rd 175 w' q s:=by
 have hlt:=hr.lt;obtain ⟨A1,c1,h1,h2,h3,h4,h5⟩:=hr
 have hk:∀a,A1=some a->0<s.b.length->w'.heap[a.block]? =w.heap[a.block]? :=fun a ha hl=>by
  obtain ⟨C',hC⟩:=h2.2 hl a ha;refine ho.block _ (Array.getElem?_eq_some_iff.1 hC).1 fun e=>?_;simp only [List.mem_singleton] at e;rw [e,hx] at hC;simp only [Option.some.injEq,Obj.cells.injEq] at hC;exact hT hC.2.1
 refine ⟨A1,c1,(ho.block q hlt (by simp only [List.mem_singleton];exact fun e=>hb e.symm)).trans h1,⟨⟨h2.1.1.keep fun hl a ha=>hk a ha hl,h2.1.2⟩,fun hl a ha=>?_⟩,h3,h4,h5⟩;obtain ⟨C',hC⟩:=h2.2 hl a ha;exact ⟨C',(hk a ha hl).trans hC⟩
theorem OP (hr:Rd 175 w q s):∃X:Array Value,w.heap[q]? =some (.cells X 175 (0,0)):=by
 obtain ⟨A1,c1,h1,-⟩:=hr;exact ⟨_,h1⟩
theorem L9 (hr:Rd 175 w q s) {C:Array Value} {T:TypeId} (hx:w.heap[b]? =some (.cells C T (0,0))) (hT:T≠175):b≠q:=fun e=>by
 obtain ⟨X,h1⟩:=OP hr;subst e;rw [hx] at h1;simp only [Option.some.injEq,Obj.cells.injEq] at h1;exact hT h1.2.1
theorem rX {C:Array Value} {T:TypeId} (hx:w.heap[b]? =some (.cells C T (0,0))) (ho:Flow.Into [q] w w') (hb:b≠q):w'.heap[b]? =some (.cells C T (0,0)):=
 (ho.block b (Array.getElem?_eq_some_iff.1 hx).1 (by simpa using hb)).trans hx
end
end No
end Go.Proofs.YtjpjjnalpdpljaaGreatDoor
namespace Go.Proofs.YtjpjjnalpdpljaaGreatDoor.Mem
open Go.RowKit
def LL (w:World) (p:Option Addr) (ls:List (List UInt8)):Prop:=
 0<ls.length->∃b o,p=some ⟨b,o,none⟩/\∀i (h:i<ls.length),∃A c,w.cell? ⟨b,o+i,none⟩=some (.slice A ls[i].length c)/\BL w A ls[i]/\ls[i].length<=c
theorem LL.nil (w:World) (p:Option Addr):LL w p []:=fun h=>absurd h (by simp)
theorem LL.at_ {w:World} {p:Option Addr} {ls:List (List UInt8)} (h:LL w p ls) {i:Nat} (hi:i<ls.length):
 ∃b o A c,p=some ⟨b,o,none⟩/\w.cell? ⟨b,o+i,none⟩=some (.slice A ls[i].length c)/\BL w A ls[i]/\ls[i].length<=c:=by
 obtain ⟨b,o,e,hc⟩:=h (by omega);obtain ⟨A,c,h1,h2⟩:=hc i hi;exact ⟨b,o,A,c,e,h1,h2⟩
theorem JV {w:World} {a:Addr} {v:Value} (h:w.cell? a=some v):a.block<w.heap.size:=by
 rcases Nat.lt_or_ge a.block w.heap.size with h'|h'
 . exact h'
 . simp [World.cell?,Array.getElem?_eq_none h'] at h
theorem LL.below {w w':World} {p:Option Addr} {ls:List (List UInt8)} (h:LL w p ls) (hb:Bw w w'):LL w' p ls:=fun hl=>by
 obtain ⟨b,o,e,hc⟩:=h hl;refine ⟨b,o,e,fun i hi=>?_⟩;obtain ⟨A,c,h1,h2,h3⟩:=hc i hi;exact ⟨A,c,by rw [hb.cell (p:=⟨b,o+i,none⟩) (JV h1)];exact h1,h2.below hb,h3⟩
theorem LL.of_block {w:World} {g:Nat} {vs:Array Value} {U:TypeId} {ls:List (List UInt8)} {fl:Nat × Nat} (h:w.heap[g]? =some (.cells vs U fl)) (_:vs.size=ls.length)
 (hv:∀i (h:i<ls.length),∃A c,vs[i]? =some (.slice A ls[i].length c)/\BL w A ls[i]/\ls[i].length<=c):LL w (some ⟨g,0,none⟩) ls:=fun _=>by
 refine ⟨g,0,rfl,fun i hi=>?_⟩;obtain ⟨A,c,h1,h2⟩:=hv i hi;exact ⟨A,c,by simp [World.cell?,h,h1],h2⟩
theorem LL.one {w:World} {g:Nat} {U:TypeId} {l:List UInt8} {A:Option Addr} {c:Nat} {fl:Nat × Nat} (h:w.heap[g]? =some (.cells #[.slice A l.length c] U fl)) (hb:BL w A l) (hl:l.length<=c):LL w (some ⟨g,0,none⟩) [l]:=
 LL.of_block h rfl fun i hi=>by
  obtain rfl:i=0:=by simpa using hi
  exact ⟨A,c,rfl,hb,hl⟩
theorem LL.two {w:World} {g:Nat} {U:TypeId} {l l':List UInt8} {A A':Option Addr} {c c':Nat} {fl:Nat × Nat} (h:w.heap[g]? =some (.cells #[.slice A l.length c,.slice A' l'.length c'] U fl)) (hb:BL w A l) (hl:l.length<=c)
 (hb':BL w A' l') (hl':l'.length<=c'):LL w (some ⟨g,0,none⟩) [l,l']:=
 LL.of_block h rfl fun i hi=>by
  match i,hi with
  |0,_=>exact ⟨A,c,rfl,hb,hl⟩
  |1,_=>exact ⟨A',c',rfl,hb',hl'⟩
end Go.Proofs.YtjpjjnalpdpljaaGreatDoor.Mem
namespace Go.Proofs.YtjpjjnalpdpljaaGreatDoor.Args
open Go.RowKit Go.WideShapes Go.ChangeShapes Go.Deep Mem
section
variable {H:Type} {enc:TypeId × Value->H} {P:Program} {W:World}
theorem jH {e:TypeId}:∀{ds:List (DataW H)} {d:DataW H},d∈ds->∀n∈d.weights P e,n∈DataW.weightsAll P e ds
 |d0::ds,d,hd,n,hn=>by
  simp only [DataW.weightsAll,List.mem_append];rcases List.mem_cons.1 hd with rfl|hd
  . exact .inl hn
  . exact .inr (jH hd n hn)
 |[],_,hd,_,_=>by cases hd
end
end Go.Proofs.YtjpjjnalpdpljaaGreatDoor.Args
namespace Go.Proofs.YtjpjjnalpdpljaaGreatDoor.Args
open Go.RowKit Go.WideShapes Go.ChangeShapes Go.Deep
section
variable {H:Type} {enc:TypeId × Value->H} {P:Program} {W:World}
theorem nu {P:Program}:∀{ts:List TypeId} {ds:List (DataW H)} {j:Nat} {t:TypeId} {d:DataW H},ts[j]? =some t->ds[j]? =some d->∀n∈d.weights P t,n∈DataW.weightsEach P ts ds
 |[],_,j,_,_,h,_,_,_=>by simp at h
 |_::_,[],j,_,_,_,h,_,_=>by simp at h
 |t0::ts,d0::ds,0,t,d,h1,h2,n,hn=>by
  obtain rfl:t0=t:=by simpa using h1
  obtain rfl:d0=d:=by simpa using h2
  simp only [DataW.weightsEach,List.mem_append];exact .inl hn
 |t0::ts,d0::ds,j+1,t,d,h1,h2,n,hn=>by
  simp only [DataW.weightsEach,List.mem_append];exact .inr (nu (j:=j) (by simpa using h1) (by simpa using h2) n hn)
end
end Go.Proofs.YtjpjjnalpdpljaaGreatDoor.Args
namespace Go.Proofs.YtjpjjnalpdpljaaGreatDoor.Args
open Go.RowKit Go.WideShapes Go.ChangeShapes Go.Deep
section
variable {H:Type} {enc:TypeId × Value->H} {P:Program} {W:World}
theorem qd {t e:TypeId} {fs:Array Field} {K:Nat} (ht:P.underlying t=some (.slice e)) (he:P.underlying e=some (.struct fs)) (hC:P.cellsOf e=K) (hpos:0<K)
 {v:Value} {d:DataW H} {p:List MemPlace} {r:Reach} {b0:Nat} (hv:Value.okWide P W r b0 t v) (h:DataW.Trod enc P W 0 (fun _=>true) true t v d p):
 ∃(A:Option Addr) (len c:Nat),v= .slice A len c/\len<=c/\c<=maxLen/\
  (0<len->∃b o,A=some ⟨b,o,none⟩/\b<W.heap.size/\∀i,i<len->∃cs:List Value,cs.length=K/\(∀(j:Nat) (u:Value),cs[j]? =some u->W.cell? ⟨b,o+(i*K+j),none⟩=some u)/\
    ∀(j:Nat) (f:Field),fs[j]? =some f->∃(y:DataW H × List MemPlace) (n:Nat),DataW.trod enc P W 0 (fun _=>true) true n f.type ((cs.drop f.offset).take (P.cellsOf f.type))=some y/\∀k∈y.1.weights P f.type,k∈d.weights P t):=by
 obtain ⟨a0,len,cap,rfl⟩:=okWide_slice ht hv;obtain ⟨fuel,hf⟩:=h;rcases open_slice ht hf with ⟨hcs,_⟩|⟨a,len',cap',m,n,D,Pl,hcs,_,hl,hm,hmm,hx,hi⟩
 . simp [Value.cells] at hcs
   obtain ⟨rfl,rfl,rfl⟩:=hcs;exact ⟨none,0,0,rfl,Nat.le_refl _,Nat.zero_le _,fun h=>absurd h (Nat.lt_irrefl 0)⟩
 . simp [Value.cells] at hcs
   obtain ⟨rfl,rfl,rfl⟩:=hcs;simp only [if_true] at hmm;simp only [Prod.mk.injEq] at hx
   have each:∀i,i<len->∃cs:List Value,cs.length=K/\(∀(j:Nat) (u:Value),cs[j]? =some u->W.cell? (a.add (i*K+j))=some u)/\∀(j:Nat) (f:Field),fs[j]? =some f->∃(y:DataW H × List MemPlace) (n:Nat),DataW.trod enc P W 0 (fun _=>true) true n f.type ((cs.drop f.offset).take (P.cellsOf f.type))=some y/\∀k∈y.1.weights P f.type,k∈d.weights P t:=by
    intro i hil;obtain ⟨cs',hc,ht'⟩:=hi i (by omega);rw [hC] at hc;obtain ⟨ys,n',_,hD,hlen,hyl,hfl⟩:=DataW.trod_struct he ht';obtain ⟨_,hcl,hat⟩:=World.cells?_some hc;rw [hC] at hlen;refine ⟨cs',hlen,fun j u hu=>?_,fun j f hj=>?_⟩
    . have hj:j<K:=by rw [<-hlen];exact (List.getElem?_eq_some_iff.1 hu).1
      rw [<-Go.Deep.add_add,hat j hj];exact hu
    . have hjl:j<fs.size:=(Array.getElem?_eq_some_iff.1 hj).1
      have h1:=hfl j f hj;rw [List.getElem?_eq_getElem (show j<ys.length by omega)] at h1;refine ⟨_,n',h1,fun k hk=>?_⟩;rw [hx.1];simp only [DataW.weights,ht,List.mem_cons,List.mem_append];refine .inr (.inl (jH (d:=D i) (List.mem_map.2 ⟨i,by simpa using hil,rfl⟩) k ?_));simp only [Prod.mk.injEq] at hD;rw [hD.1];simp only [DataW.weights,he];refine nu (j:=j) (t:=f.type) (d:=(ys[j]'(by omega)).1) ?_ ?_ k hk
      . rw [List.getElem?_map,Array.getElem?_toList,hj];rfl
      . rw [List.getElem?_map,List.getElem?_eq_getElem (show j<ys.length by omega)];rfl
   refine ⟨some a,len,cap,rfl,hl,hm,fun hp=>?_⟩;obtain ⟨b,o,sp⟩:=a;obtain ⟨cs0,hl0,hc0,_⟩:=each 0 hp;have h0:=hc0 0 (cs0[0]'(by omega)) (List.getElem?_eq_getElem (by omega));have hsp:sp=none:=plain_of_cell h0 (by simp);subst hsp;have e:∀x,(⟨b,o,none⟩:Addr).add x=⟨b,o+x,none⟩:=fun x=>by unfold Addr.add;split<;>simp_all
   refine ⟨b,o,rfl,?_,fun i hil=>?_⟩
   . rw [e] at h0
     exact Flow.lt_of_cell h0
   . obtain ⟨cs,h1,h2,h3⟩:=each i hil
     exact ⟨cs,h1,fun j u hu=>by rw [<-e];exact h2 j u hu,h3⟩
end
end Go.Proofs.YtjpjjnalpdpljaaGreatDoor.Args
namespace Go.Proofs.YtjpjjnalpdpljaaGreatDoor
open Go.RowKit
namespace Sh
theorem kW {w w1 w2:World} {o:Obj} (h1:w1=w.alloc o) (hi:Flow.Into [w.heap.size] w1 w2):Bw w w2:=by
 subst h1;have hz:(w.alloc o).heap.size=w.heap.size+1:=by simp
 have h0:Bw w (w.alloc o):=bAx;exact h0.trans ⟨hi.os,hi.tape,hi.output,hi.size,fun k hk=>hi.block k (by omega) (by simp only [List.mem_singleton];omega)⟩
end Sh
end Go.Proofs.YtjpjjnalpdpljaaGreatDoor
namespace Go.Proofs.YtjpjjnalpdpljaaGreatDoor
open Go.RowKit
namespace Bt
def OQ:List Int:=Lib.deBruijn64tab.map fun n:Nat=>(n:Int)
theorem gTab:Tryz.prog.globalNamed "math/bits.deBruijn64tab" =some 0 :=by kernel_rfl
theorem Q5:(Tryz.prog.globals[0]?).map (·.type)=some 219:=by kernel_rfl
theorem oO {W:World} (h:laidMet Tryz.prog [("math/bits.deBruijn64tab",Lib.tabData .u8 OQ)] W):Tab W:=by
 have ht:=Lib.tabIs_of_head gTab Q5 Tryz.underlying219 Tryz.underlying5 (by kernel_rfl) (by kernel_rfl) h;intro j hj;have hl:Lib.deBruijn64tab.length=64:=by decide
 have:=ht.cell gTab j (by simp [OQ];omega);rw [this];have:j<Lib.deBruijn64tab.length:=by omega
 simp [OQ,List.getD,this]
end Bt
end Go.Proofs.YtjpjjnalpdpljaaGreatDoor
namespace Go.Proofs.YtjpjjnalpdpljaaGreatDoor.Post
open Go.RowKit Go.WideShapes Go.ChangeShapes
section
variable {H:Type} {enc:TypeId × Value->H} {P:Program}
theorem ny (hl:laidOutB P=true) {W W':World} (hb:Bw W W'):∀(ts:List TypeId) (vs:List Value) (ds:List (DataW H)) (ps:List MemPlace),
 (ts.all fun t=>P.readableRec t&&decide (t<P.types.size))=true->DataW.TrodAll enc P W 0 (fun _=>true) true ts vs ds ps->(∀x∈ps,x.block<W.heap.size)->
 DataW.TrodAll enc P W' 0 (fun b=>decide (b<W.heap.size)) true ts vs ds ps
 |[],[],[],_,_,h,_=>h
 |[],[],_::_,_,_,h,_=>h.elim
 |[],_::_,_,_,_,h,_=>h.elim
 |_::_,[],_,_,_,h,_=>h.elim
 |_::_,_::_,[],_,_,h,_=>h.elim
 |t::ts,v::vs,d::ds,ps,hr,h,hlt=>by
  obtain ⟨p,q,h1,h2,rfl⟩:=h;simp only [List.all_cons,Bool.and_eq_true,decide_eq_true_eq] at hr
  exact ⟨p,q,Below.trod hl hr.1.1 hr.1.2 h1 hb (fun x hx=>hlt x (List.mem_append_left _ hx)),
   ny hl hb ts vs ds q (by simpa using hr.2) h2 (fun x hx=>hlt x (List.mem_append_right _ hx)),rfl⟩
theorem yO {f:Func} {s:ChangeSpec} {W W':World} {args:Array Value} {ds:List (DataW H)} {before:List MemPlace} {tb:TypeId}
 (hl:laidOutB P=true) (hread:(f.params.toList.all fun t=>P.readableRec t&&decide (t<P.types.size))=true)
 (hW:DataW.Whole enc P f.params.toList s.vars false W args.toList ds [] before) (hv:s.vars=[]) (hfn:s.fn H ds={ results:=[.lit (.bool true)],args:=ds })
 (hrt:f.resultTypes= #[tb]) (htb:P.underlying tb=some .bool) (hb:Bw W W'):s.post enc P f false true false false W args (.bool true) W':=by
 have hW2:=hW;obtain ⟨p,q,hA,hV,hps,_,_⟩:=hW;have hq:q=[]:=by rw [hv] at hV;exact hV
 subst hq;have hbp:before=p:=by rw [hps,List.append_nil]
 subst hbp;refine ⟨ds,[],before,[],before,[],hW2,?_,?_,?_,?_,fun h=>by cases h⟩
 . rw [List.append_nil,hfn,hrt]
   exact ⟨[],[],shut_bool htb _,rfl,rfl⟩
 . rw [List.append_nil,hfn]
   exact ny hl hb _ _ _ _ hread hA (fun x hx=>hW2.lt x hx)
 . rw [List.append_nil,hfn,hv]
   exact rfl
 . exact hb.frame _
end
end Go.Proofs.YtjpjjnalpdpljaaGreatDoor.Post
set_option maxRecDepth 100000
namespace Go.Proofs.YtjpjjnalpdpljaaGreatDoor
open Go.RowKit Go.WideShapes Go.ChangeShapes Go.Deep
namespace Cf
theorem Ma {α:Type} {cs:Array α} (h:cs.size=8):∃c0 c1 c2 c3 c4 c5 c6 c7,cs= #[c0,c1,c2,c3,c4,c5,c6,c7]:=by
 obtain ⟨l⟩:=cs
 match l,h with
 |[c0,c1,c2,c3,c4,c5,c6,c7],_=>exact ⟨c0,c1,c2,c3,c4,c5,c6,c7,rfl⟩
theorem rY:oneCellFields Tryz.prog (Tryz.prog.fieldsOf 23)=true:=by kernel_rfl
theorem Mc (j:Nat) (hj:j<8):∃f,(Tryz.prog.fieldsOf 23)[j]? =some f/\f.type=3:=by
 have h:∀j:Fin 8,((Tryz.prog.fieldsOf 23)[j.val]?.map fun f=>f.type)=some 3:=by decide+kernel
 have:=h ⟨j,hj⟩;rw [Option.map_eq_some_iff] at this;exact this
theorem yP {H:Type} {enc:TypeId × Value->H} {W:World} {v:Value} {d:DataW H} {p:List MemPlace} {r:Reach} {b0:Nat} (hv:Value.okWide Tryz.prog W r b0 23 v) (h:DataW.Trod enc Tryz.prog W 0 (fun _=>true) true 23 v d p):
 ∃b y fr fa bu le ke va:Int,v= .agg #[b,y,fr,fa,bu,le,ke,va]:=by
 have hu:Tryz.prog.underlying 23=some (.struct (Tryz.prog.fieldsOf 23)):=by kernel_rfl
 obtain ⟨cs,rfl,hsz⟩:=okWide_struct hu hv;have h8:Tryz.prog.cellsOf 23=8:=by kernel_rfl
 rw [h8] at hsz;obtain ⟨fuel,hf⟩:=h;obtain ⟨ys,n',_,_,hlen,hyl,hfl⟩:=DataW.trod_struct hu hf
 have each:∀(j:Nat) (u:Value),cs[j]? =some u->∃z,u= .int .i64 z:=fun j u hj=>by
  have hj8:j<8:=by
   rw [<-hsz];exact (Array.getElem?_eq_some_iff.1 hj).1
  obtain ⟨f,hfj,hft⟩:=Mc j hj8;obtain ⟨ho,hk⟩:=hone_of rY j f hfj;have h1:=hfl j f hfj;rw [ho,hk,hft] at h1
  have hu1:((Value.agg cs).cells.toList.drop j).take 1=[u]:=by
   simp only [Value.cells];have hl:cs.toList[j]? =some u:=(by simpa using hj);rw [List.getElem?_eq_some_iff] at hl;obtain ⟨h2,h3⟩:=hl;rw [List.drop_eq_getElem_cons h2,h3];rfl
  rw [hu1] at h1
  have hj':j<ys.length:=by
   rw [hyl];exact (Array.getElem?_eq_some_iff.1 hfj).1
  rw [List.getElem?_eq_getElem hj'] at h1;obtain ⟨z,hz,_,_⟩:=DataW.trod_int Tryz.underlying3 h1;exact ⟨z,by simpa using hz⟩
 obtain ⟨c0,c1,c2,c3,c4,c5,c6,c7,rfl⟩:=Ma hsz;obtain ⟨z0,rfl⟩:=each 0 c0 rfl;obtain ⟨z1,rfl⟩:=each 1 c1 rfl;obtain ⟨z2,rfl⟩:=each 2 c2 rfl;obtain ⟨z3,rfl⟩:=each 3 c3 rfl;obtain ⟨z4,rfl⟩:=each 4 c4 rfl;obtain ⟨z5,rfl⟩:=each 5 c5 rfl;obtain ⟨z6,rfl⟩:=each 6 c6 rfl;obtain ⟨z7,rfl⟩:=each 7 c7 rfl;exact ⟨z0,z1,z2,z3,z4,z5,z6,z7,rfl⟩
end Cf
end Go.Proofs.YtjpjjnalpdpljaaGreatDoor
